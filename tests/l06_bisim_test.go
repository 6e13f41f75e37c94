package tests

import (
	"fmt"
	"math"
	"slices"
	"strings"
	"testing"

	"loop.example/g00945/impl"
)

// likeness has for each world of one model and each one of another whether they are alike.
type likeness [][]bool

// plainLike returns the likeness of the worlds of two models for which a test is true.
func plainLike(m impl.Model, n impl.Model, test func(v int, w int) bool) likeness {
	var all likeness
	for v := range m.Facts {
		var line []bool
		for w := range n.Facts {
			line = append(line, test(v, w))
		}
		all = append(all, line)
	}
	return all
}

// blockOf returns the worlds that an agent cannot tell apart from a world.
func blockOf(m impl.Model, agent int, world int) []int {
	var block []int
	for other, number := range m.Blocks[agent] {
		if number == m.Blocks[agent][world] {
			block = append(block, other)
		}
	}
	return block
}

// lacks returns the worlds of a list to which no world of another list is alike.
func (l likeness) lacks(list []int, others []int) []int {
	return slices.DeleteFunc(slices.Clone(list), func(x int) bool {
		return slices.ContainsFunc(others, func(y int) bool { return l[x][y] })
	})
}

// turned returns the likeness of the worlds in the other direction.
func (l likeness) turned() likeness {
	turned := make(likeness, len(l[0]))
	for _, line := range l {
		for w, alike := range line {
			turned[w] = append(turned[w], alike)
		}
	}
	return turned
}

// plainSteps is a second way to find classes: as pairs of worlds of two valid models with the same number of agents,
// which are alike at each step.
func plainSteps(m impl.Model, n impl.Model) []likeness {
	like := plainLike(m, n, func(v int, w int) bool { return m.Facts[v] == n.Facts[w] })
	steps := []likeness{like}
	for {
		turned := like.turned()
		next := plainLike(m, n, func(v int, w int) bool {
			same := like[v][w]
			for agent := range m.Blocks {
				first, second := blockOf(m, agent, v), blockOf(n, agent, w)
				same = same && len(like.lacks(first, second)) == 0 && len(turned.lacks(second, first)) == 0
			}
			return same
		})
		if slices.EqualFunc(like, next, slices.Equal[[]bool]) {
			return steps
		}
		like = next
		steps = append(steps, like)
	}
}

// lastOf returns the last one of steps.
func lastOf(steps []likeness) likeness {
	return steps[len(steps)-1]
}

// plainClasses is a second way to find the classes of a valid model.
func plainClasses(m impl.Model) []int {
	var firsts []int
	for _, line := range lastOf(plainSteps(m, m)) {
		firsts = append(firsts, slices.Index(line, true))
	}
	return plainNumbers(firsts)
}

// plainAlike is a second way to compare two valid models.
func plainAlike(m impl.Model, n impl.Model) bool {
	if len(m.Blocks) != len(n.Blocks) || len(m.Facts)+len(n.Facts) > 16 {
		return false
	}
	return lastOf(plainSteps(m, n))[m.Actual][n.Actual]
}

// plainLeast is a second way to find the least model of a valid model.
func plainLeast(m impl.Model) impl.Model {
	classes := plainClasses(m)
	members := map[int][]int{}
	var order []int
	for _, world := range plainReached(m, m.Actual) {
		class := classes[world]
		if len(members[class]) == 0 {
			order = append(order, class)
		}
		members[class] = append(members[class], world)
	}
	least := impl.Model{Actual: slices.Index(order, classes[m.Actual])}
	for _, class := range order {
		least.Facts = append(least.Facts, m.Facts[members[class][0]])
	}
	for agent := range m.Blocks {
		var firsts []int
		for _, class := range order {
			firsts = append(firsts, slices.IndexFunc(order, func(other int) bool {
				return slices.ContainsFunc(members[class], func(v int) bool {
					return slices.ContainsFunc(members[other], func(w int) bool { return m.Blocks[agent][v] == m.Blocks[agent][w] })
				})
			}))
		}
		least.Blocks = append(least.Blocks, plainNumbers(firsts))
	}
	return least
}

// plainDifference is a second way to find the text of the difference of two worlds that are not alike, of any length.
func plainDifference(m impl.Model, steps []likeness, v int, w int) string {
	for fact, letter := range []string{"a", "b", "c", "d"} {
		inV, inW := m.Facts[v]>>fact&1, m.Facts[w]>>fact&1
		if inV != inW {
			return strings.Repeat("-", inW) + letter
		}
	}
	last := len(steps) - 1
	for !steps[last][v][w] {
		last--
	}
	for agent := range m.Blocks {
		first, second := blockOf(m, agent, v), blockOf(m, agent, w)
		head := "-K"
		lacking := steps[last].lacks(first, second)
		if len(lacking) == 0 {
			head = "K"
			first, second = second, first
			lacking = steps[last].lacks(first, second)
		}
		if len(lacking) == 0 {
			continue
		}
		text := ""
		for i, y := range slices.Backward(second) {
			and := "&"
			if i == len(second)-1 {
				and = ""
			}
			text = and + plainDifference(m, steps, lacking[0], y) + text
		}
		return head + plainFormat(agent) + "-" + text
	}
	return ""
}

// countNodes returns the number of nodes of the formula with a text: all bytes but agents stand for one.
func countNodes(text string) int {
	return len(text) - strings.Count(text, "0") - strings.Count(text, "1") - strings.Count(text, "2")
}

// withFacts returns a copy of a model with the facts of each world replaced.
func withFacts(m impl.Model, facts func(world int) int) impl.Model {
	c := copyModel(m)
	for world := range c.Facts {
		c.Facts[world] = facts(world)
	}
	return c
}

// twinModels returns all models of at most 4 worlds, some of which have the same facts.
func twinModels() []impl.Model {
	var all []impl.Model
	for agents := 1; agents <= 3; agents++ {
		for _, facts := range [][]int{{7}, {0, 0}, {9, 9}, {1, 0, 1}, {0, 2, 2}, {4, 4, 4}} {
			all = append(all, modelsOf(facts, agents)...)
		}
	}
	for agents := 1; agents <= 2; agents++ {
		for _, facts := range [][]int{{0, 0, 0, 1}, {8, 0, 0, 8}, {1, 2, 1, 2}} {
			all = append(all, modelsOf(facts, agents)...)
		}
	}
	return all
}

// coverOf returns a model with two worlds for each one of a model, which no formula can tell apart from it: each block
// has become two, between which the worlds are divided by chance.
func coverOf(d *dice, m impl.Model) impl.Model {
	cover := impl.Model{Actual: 2*m.Actual + d.below(2)}
	for _, facts := range m.Facts {
		cover.Facts = append(cover.Facts, facts, facts)
	}
	for _, blocks := range m.Blocks {
		var list []int
		for _, block := range blocks {
			side := d.below(2)
			list = append(list, 2*block+side, 2*block+1-side)
		}
		cover.Blocks = append(cover.Blocks, plainNumbers(list))
	}
	return cover
}

// likelyModels returns models of all numbers of worlds and agents in which many worlds have the same facts.
func likelyModels() []impl.Model {
	d := dice(23)
	var all []impl.Model
	for worlds := 1; worlds <= 16; worlds++ {
		for agents := 1; agents <= 3; agents++ {
			for _, fine := range []int{2, 4, 7, 12} {
				m := randomModel(&d, worlds, agents, fine)
				all = append(all, withFacts(m, func(int) int { return 6 }))
				all = append(all, withFacts(m, func(world int) int { return (world + 1) / worlds * 8 }))
				all = append(all, withFacts(m, func(world int) int { return m.Facts[world] & 1 }))
				all = append(all, withFacts(m, func(world int) int { return m.Facts[world] & 6 }))
			}
			if worlds <= 8 {
				all = append(all, coverOf(&d, randomModel(&d, worlds, agents, 3)), coverOf(&d, randomModel(&d, worlds, agents, 8)))
			}
		}
	}
	return all
}

// bisimModels returns the models with which the functions of the layer are compared with the second ways.
func bisimModels() []impl.Model {
	return append(append(append(twinModels(), likelyModels()...), randomModels()...), longModel(), twoChildren(), threeChildren())
}

// withEnds returns the long model in which some worlds have the fact a, and the others no fact.
func withEnds(worlds ...int) impl.Model {
	return withFacts(longModel(), func(world int) int {
		if slices.Contains(worlds, world) {
			return 1
		}
		return 0
	})
}

func TestClassesOf(t *testing.T) {
	cases := []struct {
		facts  []int
		blocks [][]int
		want   []int
	}{
		{[]int{9}, [][]int{{0}}, []int{0}},
		{[]int{9, 9}, [][]int{{0, 1}}, []int{0, 0}},
		{[]int{9, 9}, [][]int{{0, 0}, {0, 1}, {0, 0}}, []int{0, 0}},
		{[]int{9, 8}, [][]int{{0, 0}}, []int{0, 1}},
		{[]int{3, 1, 3, 0, 1}, [][]int{{0, 0, 0, 0, 0}}, []int{0, 1, 0, 2, 1}},
		{[]int{0, 0, 0, 1}, [][]int{{0, 0, 1, 1}}, []int{0, 0, 1, 2}},
		{[]int{1, 0, 0, 0}, [][]int{{0, 0, 1, 1}}, []int{0, 1, 2, 2}},
		// How many worlds of a class are in a block makes no difference.
		{[]int{0, 1, 0, 1, 0}, [][]int{{0, 0, 1, 1, 1}}, []int{0, 1, 0, 1, 0}},
		// The worlds of two blocks meet the same classes only for one of the agents.
		{[]int{2, 2, 2, 0}, [][]int{{0, 1, 2, 3}, {0, 1, 2, 1}}, []int{0, 1, 0, 2}},
		{[]int{2, 2, 2, 0}, [][]int{{0, 1, 2, 3}, {0, 1, 2, 3}, {0, 1, 2, 2}}, []int{0, 0, 1, 2}},
		{[]int{2, 2, 2, 0}, [][]int{{0, 1, 2, 2}, {0, 1, 2, 1}}, []int{0, 1, 2, 3}},
		// The sets of two blocks overlap, but none is within the other.
		{[]int{0, 1, 0, 2}, [][]int{{0, 0, 1, 1}}, []int{0, 1, 2, 3}},
		// The worlds 0 and 5 are told apart at the third step.
		{[]int{0, 0, 0, 1, 0, 0, 0}, [][]int{{0, 0, 1, 1, 2, 3, 3}, {0, 1, 1, 2, 3, 4, 4}}, []int{0, 1, 2, 3, 4, 4, 4}},
	}
	for _, c := range cases {
		m := impl.Model{Facts: c.facts, Blocks: c.blocks}
		if got := impl.ClassesOf(m); !slices.Equal(got, c.want) {
			t.Errorf("ClassesOf(%v) = %v, want %v", m, got, c.want)
		}
	}
}

func TestClassesOfLongModels(t *testing.T) {
	mirrored := append(numbers(0, 7), 7, 6, 5, 4, 3, 2, 1, 0)
	cases := []struct {
		m    impl.Model
		want []int
	}{
		{longModel(), numbers(0, 15)}, {withEnds(), make([]int, 16)}, {withEnds(numbers(0, 15)...), make([]int, 16)},
		{withEnds(0), numbers(0, 15)}, {withEnds(15), numbers(0, 15)}, {withEnds(0, 15), mirrored}, {withEnds(7, 8), mirrored}, {withEnds(7), numbers(0, 15)},
		{manyWorlds(16, 3), make([]int, 16)},
	}
	for _, c := range cases {
		if got := impl.ClassesOf(c.m); !slices.Equal(got, c.want) {
			t.Errorf("ClassesOf(%v) = %v, want %v", c.m, got, c.want)
		}
	}
}

func TestClassesOfManyModels(t *testing.T) {
	for _, m := range bisimModels() {
		want := plainClasses(m)
		for world := range m.Facts {
			at, _ := impl.MoveTo(m, world)
			if got := impl.ClassesOf(at); !slices.Equal(got, want) {
				t.Errorf("ClassesOf(%v) = %v, want %v", at, got, want)
			}
		}
	}
}

func TestClassesDoNotDependOnTheOrderOfMaps(t *testing.T) {
	for i, m := range bisimModels() {
		if len(m.Facts) < 6 && i%40 > 0 {
			continue
		}
		classes := impl.ClassesOf(m)
		least, _ := impl.LeastModel(m)
		for range 12 {
			again, _ := impl.LeastModel(m)
			if !slices.Equal(impl.ClassesOf(m), classes) || !equalModels(again, least) {
				t.Fatalf("the results for %v differ from call to call", m)
			}
		}
	}
}

// forFormulas calls a check with each of some models and some formulas of its agents.
func forFormulas(t *testing.T, models []impl.Model, check func(m impl.Model, f []impl.Node)) {
	t.Helper()
	d := dice(29)
	short := formulasUpTo(3)
	for _, m := range models {
		for range 6 {
			check(m, short[d.below(len(short))])
			check(m, read(t, nestedFormula(&d, 1+d.below(4), len(m.Blocks))))
		}
	}
}

func TestWorldsOfOneClassCannotBeToldApart(t *testing.T) {
	forFormulas(t, bisimModels(), func(m impl.Model, f []impl.Node) {
		truth, ok := impl.TruthOf(m, f)
		classes := impl.ClassesOf(m)
		for world, value := range truth {
			if first := slices.Index(classes, classes[world]); ok && truth[first] != value {
				t.Errorf("%s tells the worlds %d and %d of %v apart", plainText(f, len(f)-1), first, world, m)
			}
		}
	})
}

func TestLeastModel(t *testing.T) {
	cases := []struct {
		label string
		m     impl.Model
		want  impl.Model
	}{
		{"one world", impl.Model{Facts: []int{6}, Blocks: [][]int{{0}, {0}}}, impl.Model{Facts: []int{6}, Blocks: [][]int{{0}, {0}}}},
		{"equal worlds", manyWorlds(16, 3), manyWorlds(1, 3)},
		{"two children", twoChildren(), twoChildren()},
		{"three children", threeChildren(), threeChildren()},
		{"worlds that are not reached",
			impl.Model{Facts: []int{1, 0, 1, 3}, Blocks: [][]int{{0, 1, 2, 2}, {0, 1, 2, 3}}, Actual: 3},
			impl.Model{Facts: []int{1, 3}, Blocks: [][]int{{0, 0}, {0, 1}}, Actual: 1}},
		{"equal worlds and one that is not reached",
			impl.Model{Facts: []int{0, 1, 1, 1}, Blocks: [][]int{{0, 1, 1, 2}, {0, 1, 2, 2}}, Actual: 3},
			impl.Model{Facts: []int{1}, Blocks: [][]int{{0}, {0}}}},
		{"classes in another order where they are not reached",
			impl.Model{Facts: []int{1, 0, 0, 1}, Blocks: [][]int{{0, 0, 1, 1}}, Actual: 3},
			impl.Model{Facts: []int{0, 1}, Blocks: [][]int{{0, 0}}, Actual: 1}},
		{"the same with the other actual world",
			impl.Model{Facts: []int{1, 0, 0, 1}, Blocks: [][]int{{0, 0, 1, 1}}, Actual: 1},
			impl.Model{Facts: []int{1, 0}, Blocks: [][]int{{0, 0}}, Actual: 1}},
		{"blocks that no two first worlds share",
			impl.Model{Facts: []int{1, 1, 0, 0}, Blocks: [][]int{{0, 1, 1, 0}, {0, 0, 1, 1}}, Actual: 2},
			impl.Model{Facts: []int{1, 0}, Blocks: [][]int{{0, 0}, {0, 1}}, Actual: 1}},
		{"the actual world is not the first one of its class",
			impl.Model{Facts: []int{0, 1, 1, 0}, Blocks: [][]int{{0, 0, 1, 1}, {0, 1, 1, 0}}, Actual: 2},
			impl.Model{Facts: []int{0, 1}, Blocks: [][]int{{0, 0}, {0, 1}}, Actual: 1}},
		{"a chain with equal ends", withEnds(0, 15),
			impl.Model{Facts: []int{1, 0, 0, 0, 0, 0, 0, 0}, Blocks: [][]int{{0, 0, 1, 1, 2, 2, 3, 3}, {0, 1, 1, 2, 2, 3, 3, 4}}}},
	}
	for _, c := range cases {
		got, ok := impl.LeastModel(c.m)
		checkModel(t, "LeastModel of "+c.label, got, ok, c.want, true)
	}
}

func TestLeastModelOfManyModels(t *testing.T) {
	for _, m := range bisimModels() {
		least, ok := impl.LeastModel(m)
		checkModel(t, fmt.Sprintf("LeastModel(%v)", m), least, ok, plainLeast(m), true)
		again, ok := impl.LeastModel(least)
		checkModel(t, fmt.Sprintf("LeastModel(%v)", least), again, ok, least, true)
		if impl.IsLeast(m) != equalModels(m, least) || !impl.IsLeast(least) {
			t.Errorf("IsLeast(%v) is %v, and of the least model %v", m, impl.IsLeast(m), impl.IsLeast(least))
		}
		if want := len(m.Facts)+len(least.Facts) <= 16; impl.AreAlike(m, least) != want || impl.AreAlike(least, m) != want {
			t.Errorf("AreAlike of %v and its least model %v is not %v", m, least, want)
		}
	}
}

func TestLeastModelCannotBeToldApart(t *testing.T) {
	merged := 0
	forFormulas(t, bisimModels(), func(m impl.Model, f []impl.Node) {
		least, _ := impl.LeastModel(m)
		if impl.Holds(m, f) != impl.Holds(least, f) {
			t.Errorf("%s tells %v and its least model %v apart", plainText(f, len(f)-1), m, least)
		}
		if len(least.Facts) < len(impl.ReachedFrom(m, m.Actual)) && len(least.Facts) > 1 {
			merged++
		}
	})
	if merged < 1000 {
		t.Errorf("only %d models have worlds that are alike and others that are not", merged)
	}
}

func TestCoversAreAlike(t *testing.T) {
	d := dice(31)
	for _, m := range bisimModels() {
		n := len(m.Facts)
		if n > 8 {
			continue
		}
		cover := coverOf(&d, m)
		if got := impl.AreAlike(m, cover); got != (n <= 5) {
			t.Errorf("AreAlike of %v and its cover %v is %v", m, cover, got)
		}
		classes := impl.ClassesOf(m)
		for world, class := range impl.ClassesOf(cover) {
			if class != classes[world/2] {
				t.Errorf("the class of the world %d of the cover %v is %d, want %d", world, cover, class, classes[world/2])
			}
		}
		small, _ := impl.LeastModel(m)
		least, _ := impl.LeastModel(cover)
		if !equalModels(small, least) {
			t.Errorf("the least models %v of %v and %v of its cover are not equal", small, m, least)
		}
	}
}

func TestAreAlike(t *testing.T) {
	one := impl.Model{Facts: []int{1}, Blocks: [][]int{{0}}}
	known := impl.Model{Facts: []int{1, 0}, Blocks: [][]int{{0, 1}}}
	unknown := impl.Model{Facts: []int{1, 0}, Blocks: [][]int{{0, 0}}}
	turned := impl.Model{Facts: []int{0, 1}, Blocks: [][]int{{0, 0}}, Actual: 1}
	moved := impl.Model{Facts: []int{1, 0}, Blocks: [][]int{{0, 0}}, Actual: 1}
	other := impl.Model{Facts: []int{3}, Blocks: [][]int{{0}}}
	twice := impl.Model{Facts: []int{1, 0, 1}, Blocks: [][]int{{0, 0, 0}}, Actual: 2}
	cases := []struct {
		label string
		m     impl.Model
		n     impl.Model
		want  bool
	}{
		{"one world", one, one, true}, {"other facts", one, other, false}, {"a world that is not reached", one, known, true},
		{"a world that is reached", one, unknown, false}, {"what is known and what is not", known, unknown, false},
		{"another order", unknown, turned, true}, {"another actual world", unknown, moved, false}, {"one world twice", unknown, twice, true},
		{"no agent tells the worlds apart", twice, turned, true}, {"equal worlds", manyWorlds(3, 2), manyWorlds(5, 2), true},
		{"two children", twoChildren(), twoChildren(), true}, {"1 and 2 agents", manyWorlds(1, 1), manyWorlds(1, 2), false},
		{"2 and 3 agents", manyWorlds(2, 2), manyWorlds(2, 3), false}, {"3 and 1 agents", manyWorlds(2, 3), manyWorlds(2, 1), false},
	}
	for _, c := range cases {
		if impl.AreAlike(c.m, c.n) != c.want || impl.AreAlike(c.n, c.m) != c.want {
			t.Errorf("AreAlike is not %v: %s", c.want, c.label)
		}
	}
}

func TestAreAlikeOfAllSizes(t *testing.T) {
	for first := 1; first <= 18; first++ {
		for second := 1; second <= 18; second++ {
			for agents := 1; agents <= 4; agents++ {
				want := first+second <= 16 && agents <= 3
				if got := impl.AreAlike(manyWorlds(first, agents), manyWorlds(second, agents)); got != want {
					t.Errorf("AreAlike of %d and %d worlds and %d agents = %v", first, second, agents, got)
				}
			}
		}
	}
}

// plainJoin returns the model of the worlds of two models with the same number of agents.
func plainJoin(m impl.Model, n impl.Model) impl.Model {
	joined := impl.Model{Facts: slices.Concat(m.Facts, n.Facts), Actual: m.Actual}
	for agent, blocks := range m.Blocks {
		var list []int
		for _, block := range n.Blocks[agent] {
			list = append(list, 100+block)
		}
		joined.Blocks = append(joined.Blocks, plainNumbers(slices.Concat(blocks, list)))
	}
	return joined
}

// forPairs calls a check with many pairs of models.
func forPairs(check func(m impl.Model, n impl.Model)) {
	d := dice(37)
	models := bisimModels()
	for _, m := range models {
		for range 3 {
			check(m, models[d.below(len(models))])
		}
		moved, _ := impl.MoveTo(m, d.below(len(m.Facts)))
		check(m, moved)
	}
}

func TestAreAlikeOfManyModels(t *testing.T) {
	count := map[bool]int{}
	forPairs(func(m impl.Model, n impl.Model) {
		want := plainAlike(m, n)
		if impl.AreAlike(m, n) != want || impl.AreAlike(n, m) != want {
			t.Errorf("AreAlike(%v, %v) is not %v", m, n, want)
		}
		if len(m.Blocks) == len(n.Blocks) && m.Facts[m.Actual] == n.Facts[n.Actual] {
			count[want]++
		}
	})
	if count[true] < 300 || count[false] < 300 {
		t.Errorf("there are only %v pairs with the same facts", count)
	}
}

func TestModelsThatAreNotAlikeAreToldApart(t *testing.T) {
	count := map[bool]int{}
	forPairs(func(m impl.Model, n impl.Model) {
		if len(m.Blocks) != len(n.Blocks) || len(m.Facts)+len(n.Facts) > 8 {
			return
		}
		f, ok := impl.DifferenceOf(plainJoin(m, n), m.Actual, len(m.Facts)+n.Actual)
		if ok == impl.AreAlike(m, n) {
			t.Errorf("AreAlike(%v, %v) is %v, and there is a difference: %v", m, n, !ok, ok)
		}
		if m.Facts[m.Actual] == n.Facts[n.Actual] {
			count[ok]++
		}
		if ok && (!impl.Holds(m, f) || impl.Holds(n, f)) {
			t.Errorf("%s does not tell %v and %v apart", plainText(f, len(f)-1), m, n)
		}
	})
	if count[true] < 300 || count[false] < 300 {
		t.Errorf("there are only %v pairs with the same facts", count)
	}
}

func TestDifferenceOf(t *testing.T) {
	one := impl.Model{Facts: []int{1, 1, 0}, Blocks: [][]int{{0, 1, 1}, {0, 0, 1}}}
	overlap := impl.Model{Facts: []int{0, 1, 0, 2}, Blocks: [][]int{{0, 0, 1, 1}}}
	wide := impl.Model{Facts: []int{0, 1, 2, 0, 1, 3, 0, 3}, Blocks: [][]int{{0, 0, 0, 1, 1, 1, 2, 2}}}
	sub := impl.Model{Facts: []int{0, 1, 0, 1, 3}, Blocks: [][]int{{0, 0, 1, 1, 1}}}
	many := impl.Model{Facts: []int{0, 3, 2, 0}, Blocks: [][]int{{0, 0, 0, 1}}}
	long := impl.Model{Facts: []int{0, 0, 0, 0, 1}, Blocks: [][]int{{0, 0, 1, 1, 2}, {0, 1, 1, 2, 2}}}
	agents := impl.Model{Facts: []int{0, 0, 1, 2}, Blocks: [][]int{{0, 1, 2, 3}, {0, 1, 2, 1}, {0, 1, 1, 2}}}
	cases := []struct {
		m    impl.Model
		v    int
		w    int
		want string
	}{
		{one, 0, 1, "K0--a"}, {one, 1, 0, "-K0--a"}, {one, 0, 2, "a"}, {one, 2, 0, "-a"}, {one, 1, 2, "a"}, {one, 2, 1, "-a"},
		{overlap, 0, 2, "-K0-&aa"}, {overlap, 2, 0, "-K0-&b-a"}, {overlap, 1, 3, "a"}, {overlap, 3, 1, "-a"},
		{wide, 0, 3, "-K0-&b&-a-a"}, {wide, 3, 0, "-K0-&a&ba"}, {wide, 0, 6, "-K0-&a-b"}, {wide, 6, 0, "-K0-&a&ba"}, {wide, 1, 4, "-K0-&b&-a-a"},
		{sub, 0, 2, "K0-&ab"}, {sub, 2, 0, "-K0-&ab"}, {sub, 1, 3, "K0-&ab"}, {many, 0, 3, "-K0-a"}, {many, 3, 0, "K0-a"},
		{long, 2, 3, "K1-&aa"}, {long, 3, 2, "-K1-&aa"}, {long, 0, 3, "K1-a"}, {long, 3, 0, "-K1-a"}, {long, 3, 1, "-K1-&aa"}, {long, 3, 4, "-a"},
		{long, 0, 2, "K0-&-K1-a-K1-&aa"}, {long, 2, 0, "-K0-&-K1-a-K1-&aa"}, {long, 0, 1, "K1--K0-&-K1-a-K1-&aa"}, {long, 1, 0, "-K1--K0-&-K1-a-K1-&aa"},
		{agents, 0, 1, "K1-b"}, {agents, 1, 0, "-K1-b"}, {agents, 3, 2, "-a"},
	}
	for _, c := range cases {
		f, ok := impl.DifferenceOf(c.m, c.v, c.w)
		if got := impl.FormatFormula(f); !ok || got != c.want {
			t.Errorf("DifferenceOf(%v, %d, %d) = %s, %v, want %s", c.m, c.v, c.w, got, ok, c.want)
		}
	}
}

func TestDifferenceOfFacts(t *testing.T) {
	for v := range 16 {
		for w := range 16 {
			m := impl.Model{Facts: []int{v, w}, Blocks: [][]int{{0, 0}}}
			f, ok := impl.DifferenceOf(m, 0, 1)
			want := []string{"", "a", "b", "a", "c", "a", "b", "a", "d", "a", "b", "a", "c", "a", "b", "a"}[v^w]
			if fact := strings.Index("abcd", want); want != "" && v>>fact&1 == 0 {
				want = "-" + want
			}
			if got := impl.FormatFormula(f); ok != (v != w) || got != want {
				t.Errorf("DifferenceOf the facts %d and %d = %s, %v, want %s", v, w, got, ok, want)
			}
		}
	}
}

// checkDifferences compares DifferenceOf all worlds of a valid model with the second way, and with the truth of what it
// returns. It returns how many differences are too long.
func checkDifferences(t *testing.T, m impl.Model) int {
	t.Helper()
	steps := plainSteps(m, m)
	tooLong := 0
	for v := range m.Facts {
		for w := range m.Facts {
			f, ok := impl.DifferenceOf(m, v, w)
			if len(m.Facts) > 8 || lastOf(steps)[v][w] {
				if ok || len(f) != 0 {
					t.Errorf("DifferenceOf(%v, %d, %d) = %v, %v", m, v, w, f, ok)
				}
				continue
			}
			want := plainDifference(m, steps, v, w)
			if countNodes(want) > 40 {
				tooLong++
				if ok || len(f) != 0 {
					t.Errorf("DifferenceOf(%v, %d, %d) = %v, %v, though it has %d nodes", m, v, w, f, ok, countNodes(want))
				}
				continue
			}
			if !ok || !slices.Equal(f, read(t, want)) {
				t.Errorf("DifferenceOf(%v, %d, %d) = %s, %v, want %s", m, v, w, impl.FormatFormula(f), ok, want)
			}
			if truth, ok := impl.TruthOf(m, f); !ok || !truth[v] || truth[w] {
				t.Errorf("DifferenceOf(%v, %d, %d) = %s, which is true in %v", m, v, w, want, worldsOf(truth))
			}
		}
	}
	return tooLong
}

func TestEveryDifferenceHasAFormula(t *testing.T) {
	for _, m := range bisimModels() {
		if tooLong := checkDifferences(t, m); len(m.Facts) <= 4 && tooLong > 0 {
			t.Errorf("%d differences in %v are too long", tooLong, m)
		}
	}
}

// deepModel returns a model with up to 8 worlds of which only the last one has a fact.
func deepModel(d *dice) impl.Model {
	worlds := 5 + d.below(4)
	m := randomModel(d, worlds, 1+d.below(3), 3+d.below(3))
	return withFacts(m, func(world int) int { return (world + 1) / worlds })
}

func TestDifferencesThatAreLong(t *testing.T) {
	d := dice(41)
	tooLong := 0
	for range 3000 {
		tooLong += checkDifferences(t, deepModel(&d))
	}
	if tooLong < 100 {
		t.Errorf("only %d differences are too long", tooLong)
	}
}

func TestDifferencesOfTheGreatestSize(t *testing.T) {
	m := impl.Model{
		Facts:  []int{0, 0, 0, 0, 0, 0, 0, 1},
		Blocks: [][]int{{0, 1, 1, 2, 2, 2, 3, 4}, {0, 0, 1, 0, 0, 0, 2, 1}, {0, 1, 0, 2, 0, 2, 0, 3}},
	}
	want := "K0-&-K1-&a&a&a&aa&-K1-&a&a&a&aa-K1-&a&a&a&aa"
	f, ok := impl.DifferenceOf(m, 3, 1)
	if got := impl.FormatFormula(f); !ok || len(f) != 40 || got != want {
		t.Errorf("DifferenceOf(%v, 3, 1) = %s, %v, want %s", m, got, ok, want)
	}
	if f, ok := impl.DifferenceOf(m, 1, 3); ok || len(f) != 0 {
		t.Errorf("DifferenceOf(%v, 1, 3) = %v, %v, though it has 41 nodes", m, f, ok)
	}
}

func TestDifferenceOfModelsOfAllSizes(t *testing.T) {
	for worlds := 2; worlds <= 18; worlds++ {
		for agents := 1; agents <= 4; agents++ {
			m := withFacts(manyWorlds(worlds, agents), func(world int) int { return world % 2 })
			want := worlds <= 8 && agents <= 3
			if f, ok := impl.DifferenceOf(m, 0, 1); ok != want || (impl.FormatFormula(f) == "-a") != want {
				t.Errorf("DifferenceOf two of %d worlds for %d agents = %v, %v", worlds, agents, f, ok)
			}
		}
	}
}

func TestDifferenceOfWorldsThatDoNotExist(t *testing.T) {
	models := []impl.Model{twoChildren(), threeChildren(), {Facts: []int{1, 0}, Blocks: [][]int{{0, 1}}}, {Facts: []int{5}, Blocks: [][]int{{0}, {0}}}}
	for _, m := range models {
		n := len(m.Facts)
		for _, v := range someNumbers() {
			for _, w := range someNumbers() {
				want := 0 <= min(v, w) && max(v, w) < n && v != w
				if f, ok := impl.DifferenceOf(m, v, w); ok != want || len(f) > 0 != want {
					t.Errorf("DifferenceOf(%v, %d, %d) = %v, %v", m, v, w, f, ok)
				}
			}
		}
	}
}

func TestIsLeast(t *testing.T) {
	cases := []struct {
		m    impl.Model
		want bool
	}{
		{manyWorlds(1, 1), true}, {manyWorlds(2, 1), false}, {twoChildren(), true}, {threeChildren(), true}, {longModel(), true},
		{withEnds(), false}, {withEnds(0), true}, {withEnds(0, 15), false},
		{impl.Model{Facts: []int{0, 1}, Blocks: [][]int{{0, 1}}}, false},
		{impl.Model{Facts: []int{0, 1}, Blocks: [][]int{{0, 0}}}, true},
		{impl.Model{Facts: []int{0, 1}, Blocks: [][]int{{0, 1}, {0, 0}}, Actual: 1}, true},
		{impl.Model{Facts: []int{0, 1, 0}, Blocks: [][]int{{0, 0, 1}, {0, 1, 1}}}, true},
		{impl.Model{Facts: []int{0, 1, 0}, Blocks: [][]int{{0, 0, 1}, {0, 1, 2}}}, false},
		{impl.Model{Facts: []int{0, 1, 0}, Blocks: [][]int{{0, 0, 1}, {0, 1, 1}, {0, 1, 2}}, Actual: 2}, true},
		{impl.Model{Facts: []int{0, 1, 0}, Blocks: [][]int{{0, 0, 0}, {0, 1, 1}}}, true},
		{impl.Model{Facts: []int{0, 1, 0}, Blocks: [][]int{{0, 0, 0}, {0, 1, 0}}}, false},
	}
	for _, c := range cases {
		if got := impl.IsLeast(c.m); got != c.want {
			t.Errorf("IsLeast(%v) = %v", c.m, got)
		}
	}
	for _, m := range bisimModels() {
		want := len(plainReached(m, m.Actual)) == len(m.Facts) && slices.Equal(plainClasses(m), numbers(0, len(m.Facts)-1))
		if got := impl.IsLeast(m); got != want {
			t.Errorf("IsLeast(%v) = %v", m, got)
		}
	}
}

func TestClassesOfWhatIsNotValid(t *testing.T) {
	for name, m := range invalidModels() {
		if got := impl.ClassesOf(m); len(got) != 0 {
			t.Errorf("ClassesOf is %v: %s", got, name)
		}
		least, ok := impl.LeastModel(m)
		checkModel(t, "LeastModel of "+name, least, ok, impl.Model{}, false)
		for _, n := range []impl.Model{m, twoChildren(), manyWorlds(1, 1), manyWorlds(2, 3), {}} {
			if impl.AreAlike(m, n) || impl.AreAlike(n, m) {
				t.Errorf("AreAlike is true: %s", name)
			}
		}
		for _, v := range []int{-1, 0, 1, 2, math.MinInt, math.MaxInt} {
			for _, w := range []int{-1, 0, 1, 2, math.MinInt, math.MaxInt} {
				if f, ok := impl.DifferenceOf(m, v, w); ok || len(f) != 0 {
					t.Errorf("DifferenceOf %d and %d is %v, %v: %s", v, w, f, ok, name)
				}
			}
		}
		if impl.IsLeast(m) {
			t.Errorf("IsLeast is true: %s", name)
		}
	}
}

// callAllClasses calls every function of the layer, and returns the models, lists and formulas that it gets.
func callAllClasses(m impl.Model, n impl.Model) ([]impl.Model, [][]int, []impl.Node) {
	impl.AreAlike(m, n)
	impl.IsLeast(m)
	least, _ := impl.LeastModel(m)
	f, _ := impl.DifferenceOf(m, 0, 1)
	return []impl.Model{least}, [][]int{impl.ClassesOf(m)}, f
}

func TestClassArgumentsAreNotModified(t *testing.T) {
	models := bisimModels()
	for _, m := range invalidModels() {
		models = append(models, m)
	}
	for i, m := range models {
		n := models[(i*17+3)%len(models)]
		first, second := roomyModel(m), roomyModel(n)
		callAllClasses(first, second)
		callAllClasses(first, first)
		if !isRoomyModel(first, m) || !isRoomyModel(second, n) {
			t.Errorf("an argument or the room behind it was changed: %d and %d worlds", len(m.Facts), len(n.Facts))
		}
	}
}

func TestClassResultsAreNew(t *testing.T) {
	for _, m := range bisimModels() {
		before := copyModel(m)
		keptModels, keptLists, keptFormula := callAllClasses(m, m)
		wantModels, wantLists, wantFormula := callAllClasses(before, before)
		want := slicesOf(wantModels, wantLists)
		checkNew(t, before, keptModels, keptLists, want)
		for i := range keptFormula[:cap(keptFormula)] {
			keptFormula[:cap(keptFormula)][i].Op = markedOp
		}
		if !equalModels(m, before) {
			t.Fatalf("a result shares memory with the argument %v", before)
		}
		againModels, againLists, againFormula := callAllClasses(m, m)
		if again := slicesOf(againModels, againLists); !slices.EqualFunc(again, want, slices.Equal[[]int]) || !slices.Equal(againFormula, wantFormula) {
			t.Fatalf("the results for %v differ from call to call", before)
		}
	}
}
