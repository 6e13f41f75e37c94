package tests

import (
	"fmt"
	"math"
	"slices"
	"strings"
	"testing"

	"loop.example/g00945/impl"
)

// plainConfused is a second way to find the least agent of a valid model who cannot tell two worlds apart; -1 if there is
// none.
func plainConfused(m impl.Model, v int, w int) int {
	return slices.IndexFunc(m.Blocks, func(blocks []int) bool { return blocks[v] == blocks[w] })
}

// plainShared is a second way to find how often all know that all know, and so on, what is true in some worlds.
func plainShared(m impl.Model, truth []bool) int {
	near := plainLinks(m, slices.Repeat([]bool{true}, len(m.Facts)), numbers(0, len(m.Blocks)-1))
	depth := -1
	for truth[m.Actual] && depth < 16 {
		depth++
		truth = near.always(truth, true)
	}
	return depth
}

// plainChain is a second way to find a chain of ignorance: from the end, the least list of each length from each world.
func plainChain(m impl.Model, truth []bool) []int {
	least := make([][]int, len(m.Facts))
	for world, is := range truth {
		if !is {
			least[world] = []int{world}
		}
	}
	for range m.Facts {
		if least[m.Actual] != nil {
			return least[m.Actual]
		}
		longer := make([][]int, len(m.Facts))
		for v := range longer {
			for w, rest := range least {
				if rest == nil || plainConfused(m, v, w) < 0 {
					continue
				}
				list := append([]int{v}, rest...)
				if longer[v] == nil || slices.Compare(list, longer[v]) < 0 {
					longer[v] = list
				}
			}
		}
		least = longer
	}
	return nil
}

// plainAgents is a second way to find the agents of a list of worlds.
func plainAgents(m impl.Model, list []int) ([]int, bool) {
	if slices.ContainsFunc(list, func(world int) bool { return world < 0 || world >= len(m.Facts) }) {
		return nil, false
	}
	var agents []int
	for i := range max(len(list)-1, 0) {
		agents = append(agents, plainConfused(m, list[i], list[i+1]))
	}
	if slices.Contains(agents, -1) {
		return nil, false
	}
	return agents, true
}

// plainWho is a second way to find the agents who know what is true in some worlds.
func plainWho(m impl.Model, truth []bool) []int {
	var agents []int
	for agent := range m.Blocks {
		if !slices.ContainsFunc(blockOf(m, agent, m.Actual), func(world int) bool { return !truth[world] }) {
			agents = append(agents, agent)
		}
	}
	return agents
}

// plainSpread is a second way to find the numbers of steps from a world: for all worlds at once, by way of any others.
func plainSpread(m impl.Model, from int) []int {
	const far = 1000
	var steps [][]int
	for v := range m.Facts {
		line := slices.Repeat([]int{far}, len(m.Facts))
		for w := range line {
			if plainConfused(m, v, w) >= 0 {
				line[w] = 1
			}
		}
		line[v] = 0
		steps = append(steps, line)
	}
	for by := range steps {
		for v := range steps {
			for w := range steps {
				steps[v][w] = min(steps[v][w], steps[v][by]+steps[by][w])
			}
		}
	}
	spread := steps[from]
	for world := range spread {
		if spread[world] >= far {
			spread[world] = -1
		}
	}
	return spread
}

// checkNumbers compares the result of a function with a list, or with a failure if there is none.
func checkNumbers(t *testing.T, label string, got []int, ok bool, want []int, wantOk bool) {
	t.Helper()
	checkResult(t, label, got, ok, want, wantOk, slices.Equal[[]int], func([]int) bool { return true })
}

// checkSharedAs compares what the functions say of a model and a formula with what they should say; the chain is nil if
// the formula is common knowledge.
func checkSharedAs(t *testing.T, m impl.Model, f []impl.Node, depth int, chain []int, who []int) {
	t.Helper()
	label := fmt.Sprintf("(%v, %s)", m, plainText(f, len(f)-1))
	if got := impl.SharedDepth(m, f); got != depth {
		t.Errorf("SharedDepth%s = %d, want %d", label, got, depth)
	}
	if got := impl.IsCommon(m, f); got != (chain == nil) {
		t.Errorf("IsCommon%s = %v", label, got)
	}
	got, ok := impl.IgnoranceChain(m, f)
	checkNumbers(t, "IgnoranceChain"+label, got, ok, chain, chain != nil)
	agents, agentsOk := plainAgents(m, got)
	got, ok = impl.ChainAgents(m, got)
	checkNumbers(t, "ChainAgents of IgnoranceChain"+label, got, ok, agents, agentsOk)
	if got := impl.WhoKnows(m, f); !slices.Equal(got, who) {
		t.Errorf("WhoKnows%s = %v, want %v", label, got, who)
	}
}

// checkShared compares what the functions say of a valid model and a valid formula with the second ways.
func checkShared(t *testing.T, m impl.Model, f []impl.Node) {
	t.Helper()
	truth, ok := plainTruth(m, f)
	if !ok {
		checkNotShared(t, plainText(f, len(f)-1), m, f)
		return
	}
	checkSharedAs(t, m, f, plainShared(m, truth), plainChain(m, truth), plainWho(m, truth))
}

// checkNotShared checks that every function of a formula fails for a model and a formula.
func checkNotShared(t *testing.T, label string, m impl.Model, f []impl.Node) {
	t.Helper()
	if got := impl.SharedDepth(m, f); got != -1 {
		t.Errorf("SharedDepth is %d: %s", got, label)
	}
	if impl.IsCommon(m, f) {
		t.Errorf("IsCommon is true: %s", label)
	}
	got, ok := impl.IgnoranceChain(m, f)
	checkNumbers(t, "IgnoranceChain of "+label, got, ok, nil, false)
	if got := impl.WhoKnows(m, f); len(got) != 0 {
		t.Errorf("WhoKnows is %v: %s", got, label)
	}
}

// checkSpread compares the numbers of steps from all worlds, those that there are and others, with the second way.
func checkSpread(t *testing.T, m impl.Model) {
	t.Helper()
	for _, world := range someNumbers() {
		var want []int
		if 0 <= world && world < len(m.Facts) {
			want = plainSpread(m, world)
		}
		if got := impl.SpreadOf(m, world); !slices.Equal(got, want) {
			t.Errorf("SpreadOf(%v, %d) = %v, want %v", m, world, got, want)
		}
	}
}

// pairedModel returns a model in which each agent takes each world for at most one other one, so that chains are long and
// there are many of them.
func pairedModel(d *dice, worlds int, agents int) impl.Model {
	m := impl.Model{Facts: make([]int, worlds), Actual: d.below(worlds)}
	for range agents {
		order := numbers(0, worlds-1)
		for i := range order {
			k := i + d.below(worlds-i)
			order[i], order[k] = order[k], order[i]
		}
		pairs := make([]int, worlds)
		for i, world := range order {
			pairs[world] = i / 2
		}
		m.Blocks = append(m.Blocks, plainNumbers(pairs))
	}
	return m
}

// falseIn returns a copy of a model in which the fact a is false in some worlds and true in the others.
func falseIn(m impl.Model, worlds ...int) impl.Model {
	return withFacts(m, func(world int) int {
		if slices.Contains(worlds, world) {
			return 0
		}
		return 1
	})
}

// chainModels returns models of all numbers of worlds and agents in which the fact a is false in at most 3 worlds.
func chainModels() []impl.Model {
	d := dice(53)
	var all []impl.Model
	for worlds := 1; worlds <= 16; worlds++ {
		for agents := 1; agents <= 3; agents++ {
			for k := range 24 {
				m := pairedModel(&d, worlds, agents)
				if k%4 == 0 {
					m = randomModel(&d, worlds, agents, max(worlds-1, 1))
				}
				var ends []int
				for range k % 5 % 4 {
					ends = append(ends, d.below(worlds))
				}
				all = append(all, falseIn(m, ends...))
			}
		}
	}
	return all
}

// line is the model of four worlds in a row, of which a is false in the first one.
func line(actual int) impl.Model {
	return impl.Model{Facts: []int{0, 1, 1, 1}, Blocks: [][]int{{0, 1, 1, 2}, {0, 0, 1, 1}}, Actual: actual}
}

func TestSharedKnowledge(t *testing.T) {
	cases := []struct {
		m     impl.Model
		text  string
		depth int
		chain []int
		who   []int
	}{
		{line(3), "a", 2, []int{3, 2, 1, 0}, []int{0, 1}},
		{line(2), "a", 1, []int{2, 1, 0}, []int{0, 1}},
		{line(1), "a", 0, []int{1, 0}, []int{0}},
		{line(0), "a", -1, []int{0}, nil},
		{line(3), "-a", -1, []int{3}, nil},
		{line(0), "-a", 0, []int{0, 1}, []int{0}},
		{line(3), "T", 16, nil, []int{0, 1}},
		{line(0), "-T", -1, []int{0}, nil},
		{line(3), "Ea", 1, []int{3, 2, 1}, []int{0, 1}},
		{line(3), "EEa", 0, []int{3, 2}, []int{0}},
		{line(3), "EEEa", -1, []int{3}, nil},
		{line(3), "Ca", -1, []int{3}, nil},
		{line(3), "!aCa", 16, nil, []int{0, 1}},
		{line(3), "!Eaa", 16, nil, []int{0, 1}},
		{twoChildren(), "-&-a-b", 1, []int{3, 1, 0}, []int{0, 1}},
		{twoChildren(), "a", 0, []int{3, 2}, []int{1}},
		{twoChildren(), "b", 0, []int{3, 1}, []int{0}},
		{twoChildren(), "K0b", 0, []int{3, 1}, []int{0}},
		{twoChildren(), "&ab", 0, []int{3, 1}, nil},
		{twoChildren(), "E-&-a-b", 0, []int{3, 1}, nil},
		{twoChildren(), "c", -1, []int{3}, nil},
		{twoChildren(), "W0b", 16, nil, []int{0, 1}},
		{twoChildren(), "C-&-a-b", -1, []int{3}, nil},
		{twoChildren(), "!-&-a-bC-&-a-b", 16, nil, []int{0, 1}},
		{threeChildren(), "-&-a&-b-c", 2, []int{7, 3, 1, 0}, []int{0, 1, 2}},
		{threeChildren(), "-&-b-c", 1, []int{7, 3, 1}, []int{0, 1, 2}},
		{threeChildren(), "c", 0, []int{7, 3}, []int{0, 1}},
		{threeChildren(), "a", 0, []int{7, 6}, []int{1, 2}},
		{threeChildren(), "&ac", 0, []int{7, 3}, []int{1}},
		{threeChildren(), "&a&bc", 0, []int{7, 3}, nil},
		{twoParts(0), "a", 0, []int{0, 1}, []int{1}},
		{twoParts(1), "a", -1, []int{1}, nil},
		{twoParts(2), "a", 16, nil, []int{0, 1}},
		{twoParts(3), "a", 16, nil, []int{0, 1}},
		{twoParts(3), "b", 0, []int{3, 2}, nil},
		{manyWorlds(1, 1), "T", 16, nil, []int{0}},
		{manyWorlds(1, 3), "a", -1, []int{0}, nil},
		{manyWorlds(16, 3), "-a", 16, nil, []int{0, 1, 2}},
		{falseIn(manyWorlds(16, 1), 9, 12), "a", 0, []int{0, 9}, nil},
		{falseIn(manyWorlds(16, 1), 9, 12), "b", -1, []int{0}, nil},
	}
	for _, c := range cases {
		checkSharedAs(t, c.m, read(t, c.text), c.depth, c.chain, c.who)
		checkShared(t, c.m, read(t, c.text))
	}
}

func TestSharedKnowledgeOfChildren(t *testing.T) {
	for world := range 8 {
		m, _ := impl.MoveTo(threeChildren(), world)
		dirty := []int{0, 1, 1, 2, 1, 2, 2, 3}[world]
		if got := impl.SharedDepth(m, read(t, "-&-a&-b-c")); got != dirty-1 {
			t.Errorf("with %d dirty children, the depth is %d", dirty, got)
		}
	}
	m := threeChildren()
	for _, c := range []struct {
		actual int
		chain  []int
		agents []int
	}{
		{7, []int{7, 3, 1, 0}, []int{2, 1, 0}}, {6, []int{6, 2, 0}, []int{2, 1}}, {5, []int{5, 1, 0}, []int{2, 0}},
		{3, []int{3, 1, 0}, []int{1, 0}}, {4, []int{4, 0}, []int{2}}, {2, []int{2, 0}, []int{1}}, {1, []int{1, 0}, []int{0}}, {0, []int{0}, nil},
	} {
		m.Actual = c.actual
		chain, ok := impl.IgnoranceChain(m, read(t, "-&-a&-b-c"))
		checkNumbers(t, fmt.Sprintf("IgnoranceChain in the world %d", c.actual), chain, ok, c.chain, true)
		agents, ok := impl.ChainAgents(m, chain)
		checkNumbers(t, fmt.Sprintf("ChainAgents in the world %d", c.actual), agents, ok, c.agents, true)
	}
}

// walk returns the worlds from one to another one in a row.
func walk(from int, to int) []int {
	if from <= to {
		return numbers(from, to)
	}
	back := numbers(to, from)
	slices.Reverse(back)
	return back
}

func TestSharedKnowledgeOnALongModel(t *testing.T) {
	f := read(t, "a")
	for actual := range 16 {
		m := longModel()
		m.Actual = actual
		for end := range 16 {
			far := falseIn(m, end)
			steps := max(end-actual, actual-end)
			chain, ok := impl.IgnoranceChain(far, f)
			checkNumbers(t, fmt.Sprintf("IgnoranceChain from %d to %d", actual, end), chain, ok, walk(actual, end), true)
			if got := impl.SharedDepth(far, f); got != steps-1 || impl.IsCommon(far, f) {
				t.Errorf("SharedDepth from %d to %d = %d", actual, end, got)
			}
			checkShared(t, far, f)
			// A world with an odd number is near to the one before for the agent 0, and to the next one for the agent 1.
			agents, ok := impl.ChainAgents(far, chain)
			for i, agent := range agents {
				if want := min(chain[i], chain[i+1]) % 2; agent != want {
					t.Errorf("ChainAgents of %v = %v", chain, agents)
				}
			}
			if !ok || len(agents) != steps {
				t.Errorf("ChainAgents of %v = %v, %v", chain, agents, ok)
			}
			// With an end on either side, the nearer one counts, and the lower one if both are equally near.
			for other := actual + 1; end < actual && other < 16; other++ {
				nearest := end
				if other-actual < steps {
					nearest = other
				}
				chain, ok = impl.IgnoranceChain(falseIn(m, end, other), f)
				checkNumbers(t, fmt.Sprintf("IgnoranceChain from %d to %d or %d", actual, end, other), chain, ok, walk(actual, nearest), true)
			}
		}
		checkSharedAs(t, falseIn(m), f, 16, nil, []int{0, 1})
	}
}

func TestSharedKnowledgeOfAllShortFormulas(t *testing.T) {
	checkShort(t, checkShared, 3)
}

func TestSharedKnowledgeOfLongFormulas(t *testing.T) {
	checkSome(t, checkShared, randomFormulas(), append(randomModels(), longModel(), threeChildren()))
}

func TestSharedKnowledgeOfNestedFormulas(t *testing.T) {
	d := dice(59)
	for _, m := range append(randomModels(), longModel(), twoChildren(), threeChildren()) {
		for depth := 1; depth <= 5; depth++ {
			for range 4 {
				f := read(t, nestedFormula(&d, depth, len(m.Blocks)))
				checkShared(t, m, f)
				if g, ok := impl.Negate(f); ok {
					checkShared(t, m, g)
				}
			}
		}
	}
}

func TestSharedKnowledgeOfTheLongestFormulas(t *testing.T) {
	m := falseIn(longModel(), 0)
	not := strings.Repeat("-", 38)
	checkSharedAs(t, m, read(t, not+"a"), 14, walk(15, 0), []int{0, 1})
	// These have 40 nodes, so that no OpEvery can be written before them.
	checkSharedAs(t, m, read(t, "K0"+not+"a"), 13, walk(15, 1), []int{0, 1})
	checkSharedAs(t, m, read(t, "E"+not+"a"), 13, walk(15, 1), []int{0, 1})
	checkSharedAs(t, m, read(t, not+"-a"), -1, []int{15}, nil)
	checkSharedAs(t, m, read(t, strings.Repeat("--", 19)+"ET"), 16, nil, []int{0, 1})
	checkSharedAs(t, m, read(t, strings.Repeat("--", 19)+"K0a"), 13, walk(15, 1), []int{0, 1})
	checkSharedAs(t, m, chain(40), -1, []int{15}, nil)
	checkSharedAs(t, m, chain(39), 16, nil, []int{0, 1})
	checkNotShared(t, "41 nodes", m, chain(41))
}

func TestSharedKnowledgeOfManyChains(t *testing.T) {
	f := read(t, "a")
	lengths := map[int]int{}
	for _, m := range chainModels() {
		for world := range m.Facts {
			m.Actual = world
			checkShared(t, m, f)
			chain, _ := impl.IgnoranceChain(m, f)
			lengths[len(chain)]++
		}
	}
	for length := range 9 {
		if lengths[length] < 20 {
			t.Errorf("only %d chains have %d worlds", lengths[length], length)
		}
	}
}

// isChain reports whether a list begins with the actual world, has each world near to the one before, and ends with a
// world in which something is false.
func isChain(m impl.Model, truth []bool, list []int) bool {
	_, ok := plainAgents(m, list)
	return ok && list[0] == m.Actual && !truth[list[len(list)-1]]
}

func TestChainsAreTheLeastOfTheShortest(t *testing.T) {
	ties := 0
	for _, m := range smallModels() {
		for set := range 1 << len(m.Facts) {
			truth := make([]bool, len(m.Facts))
			marked := withFacts(m, func(world int) int { return set >> world & 1 })
			for world := range truth {
				truth[world] = set>>world&1 == 1
			}
			var chains [][]int
			for n := 1; n <= len(m.Facts) && chains == nil; n++ {
				for _, list := range allLists(numbers(0, len(m.Facts)-1), n) {
					if isChain(m, truth, list) {
						chains = append(chains, list)
					}
				}
			}
			got, ok := impl.IgnoranceChain(marked, read(t, "a"))
			if chains == nil {
				checkNumbers(t, fmt.Sprintf("IgnoranceChain(%v)", marked), got, ok, nil, false)
				continue
			}
			checkNumbers(t, fmt.Sprintf("IgnoranceChain(%v)", marked), got, ok, slices.MinFunc(chains, slices.Compare[[]int]), true)
			if len(chains) > 1 {
				ties++
			}
		}
	}
	if ties < 1000 {
		t.Errorf("only %d models have several shortest chains", ties)
	}
}

func TestSharedKnowledgeIsAsDeepAsTheShortestChainIsLong(t *testing.T) {
	deep, common := 0, 0
	check := func(m impl.Model, f []impl.Node) {
		depth := impl.SharedDepth(m, f)
		list, ok := impl.IgnoranceChain(m, f)
		agents, agentsOk := impl.ChainAgents(m, list)
		if ok == impl.IsCommon(m, f) || ok == (depth == impl.MaxWorlds) || ok && len(list) != depth+2 || !agentsOk || len(agents) != max(len(list)-1, 0) {
			t.Errorf("in %v, %v has the depth %d and the chain %v, %v with the agents %v", m, f, depth, list, ok, agents)
		}
		if depth > 1 && ok {
			deep++
		}
		if !ok {
			common++
		}
	}
	forLaws(func(m impl.Model, x string, y string, agent int) {
		check(m, read(t, x))
		check(m, read(t, "-"+y))
	})
	for _, m := range chainModels() {
		for world := range m.Facts {
			m.Actual = world
			check(m, read(t, "a"))
		}
	}
	if deep < 500 || common < 500 {
		t.Errorf("only %d formulas are deep, and only %d are common knowledge", deep, common)
	}
}

func TestSharedDepthCountsWhatAllKnow(t *testing.T) {
	check := func(m impl.Model, text string) {
		depth := impl.SharedDepth(m, read(t, text))
		for k := range 18 {
			deep := strings.Repeat("E", k) + text
			if got, want := impl.Holds(m, read(t, deep)), k <= depth || depth == 16; got != want {
				t.Errorf("%s is %v in %v, and the depth %d", deep, got, m, depth)
			}
			if got, want := impl.SharedDepth(m, read(t, deep)), max(depth-k, -1); depth < 16 && got != want || depth == 16 && got != 16 {
				t.Errorf("SharedDepth(%v, %s) = %d, but for %s it is %d", m, deep, got, text, depth)
			}
		}
	}
	forLaws(func(m impl.Model, x string, y string, agent int) { check(m, x) })
	for _, m := range chainModels() {
		check(m, "a")
	}
}

func TestCommonKnowledgeIsSharedWithoutEnd(t *testing.T) {
	check := func(m impl.Model, text string) {
		f := read(t, text)
		common := impl.IsCommon(m, f)
		if common != impl.Holds(m, read(t, "C"+text)) || common != impl.IsSilent(m, f) || common != (impl.SharedDepth(m, f) == 16) {
			t.Errorf("IsCommon(%v, %s) = %v", m, text, common)
		}
	}
	forLaws(func(m impl.Model, x string, y string, agent int) {
		check(m, x)
		check(m, y)
	})
	f := read(t, "a")
	for _, m := range append(sampleModels(), chainModels()...) {
		check(m, "a")
		if left, ok := impl.Announce(m, f); ok && !impl.IsCommon(left, f) {
			t.Errorf("a is not common knowledge after it has been announced in %v", m)
		}
	}
}

func TestWhoKnowsWhatIsKnown(t *testing.T) {
	forLaws(func(m impl.Model, x string, y string, agent int) {
		who := impl.WhoKnows(m, read(t, x))
		if got, want := slices.Contains(who, agent), impl.Holds(m, written(t, "K0X", x, "", agent)); got != want {
			t.Errorf("WhoKnows(%v, %s) = %v, but agent %d knows it: %v", m, x, who, agent, want)
		}
		if all := len(who) == len(m.Blocks); all != impl.Holds(m, read(t, "E"+x)) || all != (impl.SharedDepth(m, read(t, x)) >= 1) {
			t.Errorf("WhoKnows(%v, %s) = %v", m, x, who)
		}
		// An agent who is told a fact that is true knows it.
		told, _ := impl.TellFact(m, agent, 0)
		if got := impl.WhoKnows(told, read(t, "a")); slices.Contains(got, agent) != impl.Holds(m, read(t, "a")) {
			t.Errorf("WhoKnows(%v, a) = %v", told, got)
		}
	})
}

func TestWhoKnowsOfThreeAgents(t *testing.T) {
	// Each agent of the set takes the world 0 for the world in which a is false.
	for set := range 8 {
		m := impl.Model{Facts: []int{1, 0}}
		var want []int
		for agent := range 3 {
			confused := set >> agent & 1
			m.Blocks = append(m.Blocks, []int{0, 1 - confused})
			if confused == 0 {
				want = append(want, agent)
			}
		}
		if got := impl.WhoKnows(m, read(t, "a")); !slices.Equal(got, want) {
			t.Errorf("WhoKnows(%v, a) = %v, want %v", m, got, want)
		}
		m.Actual = 1
		if got := impl.WhoKnows(m, read(t, "a")); len(got) != 0 {
			t.Errorf("WhoKnows(%v, a) = %v, though it is false", m, got)
		}
		if got := impl.WhoKnows(m, read(t, "-a")); !slices.Equal(got, want) {
			t.Errorf("WhoKnows(%v, -a) = %v, want %v", m, got, want)
		}
	}
}

func TestSharedKnowledgeOfWhatIsNotValid(t *testing.T) {
	checkWhatIsNotValid(t, checkNotShared)
}

func TestSharedKnowledgeOfAgentsThatAreMissing(t *testing.T) {
	checkAgentsThatAreMissing(t, checkShared, checkNotShared)
}

func TestChainAgents(t *testing.T) {
	m := impl.Model{Facts: make([]int, 5), Blocks: [][]int{{0, 0, 1, 2, 3}, {0, 1, 1, 2, 3}, {0, 0, 0, 1, 2}}}
	cases := []struct {
		list []int
		want []int
		ok   bool
	}{
		{nil, nil, true},
		{[]int{}, nil, true},
		{[]int{0}, nil, true},
		{[]int{4}, nil, true},
		{[]int{0, 1}, []int{0}, true},
		{[]int{1, 0}, []int{0}, true},
		{[]int{1, 2}, []int{1}, true},
		{[]int{2, 1}, []int{1}, true},
		{[]int{0, 2}, []int{2}, true},
		{[]int{2, 0}, []int{2}, true},
		{[]int{0, 1, 2}, []int{0, 1}, true},
		{[]int{0, 1, 2, 0, 1}, []int{0, 1, 2, 0}, true},
		{[]int{3, 3}, []int{0}, true},
		{[]int{2, 2, 2, 1, 1}, []int{0, 0, 1, 0}, true},
		{[]int{0, 3}, nil, false},
		{[]int{3, 4}, nil, false},
		{[]int{0, 1, 3}, nil, false},
		{[]int{3, 0, 1}, nil, false},
		{[]int{0, 1, 4, 1, 0}, nil, false},
		{[]int{5}, nil, false},
		{[]int{-1}, nil, false},
		{[]int{0, 5}, nil, false},
		{[]int{5, 0}, nil, false},
		{[]int{0, -1}, nil, false},
		{[]int{-1, 0}, nil, false},
		{[]int{5, 5}, nil, false},
		{[]int{-1, -1}, nil, false},
		{[]int{0, 1, 16}, nil, false},
		{[]int{0, math.MaxInt, 0}, nil, false},
		{[]int{math.MinInt, 0}, nil, false},
	}
	for _, c := range cases {
		got, ok := impl.ChainAgents(m, c.list)
		checkNumbers(t, fmt.Sprintf("ChainAgents of %v", c.list), got, ok, c.want, c.ok)
	}
}

func TestChainAgentsOfAllShortLists(t *testing.T) {
	for _, m := range smallModels() {
		for length := range 4 {
			for _, list := range allLists(numbers(-1, len(m.Facts)), length) {
				want, wantOk := plainAgents(m, list)
				got, ok := impl.ChainAgents(m, list)
				if ok != wantOk || !slices.Equal(got, want) {
					t.Fatalf("ChainAgents(%v, %v) = %v, %v, want %v, %v", m, list, got, ok, want, wantOk)
				}
			}
		}
	}
}

func TestChainAgentsOfLongLists(t *testing.T) {
	d := dice(61)
	for _, m := range append(randomModels(), chainModels()...) {
		list := []int{m.Actual}
		for range 40 {
			near := slices.DeleteFunc(numbers(0, len(m.Facts)-1), func(w int) bool { return plainConfused(m, list[len(list)-1], w) < 0 })
			list = append(list, near[d.below(len(near))])
		}
		want, _ := plainAgents(m, list)
		got, ok := impl.ChainAgents(m, list)
		checkNumbers(t, fmt.Sprintf("ChainAgents(%v, %v)", m, list), got, ok, want, true)
		for _, world := range []int{-1, len(m.Facts), 16, d.below(len(m.Facts))} {
			changed := slices.Clone(list)
			changed[d.below(len(list))] = world
			want, wantOk := plainAgents(m, changed)
			got, ok := impl.ChainAgents(m, changed)
			checkNumbers(t, fmt.Sprintf("ChainAgents(%v, %v)", m, changed), got, ok, want, wantOk)
		}
	}
	for _, n := range []int{17, 40, 41, 1000, 100000} {
		got, ok := impl.ChainAgents(line(0), make([]int, n))
		if !ok || !slices.Equal(got, make([]int, n-1)) {
			t.Errorf("ChainAgents of %d worlds has %d agents, %v", n, len(got), ok)
		}
		got, ok = impl.ChainAgents(line(0), append(make([]int, n), 2))
		checkNumbers(t, fmt.Sprintf("ChainAgents of %d worlds and another one", n), got, ok, nil, false)
	}
}

func TestChainAgentsOfWorldsThatDoNotExist(t *testing.T) {
	for _, m := range append(randomModels(), longModel()) {
		for _, world := range someNumbers() {
			for _, list := range [][]int{{world}, {world, world}, {m.Actual, world}, {world, m.Actual}, {m.Actual, m.Actual, world, m.Actual}} {
				want, wantOk := plainAgents(m, list)
				got, ok := impl.ChainAgents(m, list)
				checkNumbers(t, fmt.Sprintf("ChainAgents(%v, %v)", m, list), got, ok, want, wantOk)
			}
		}
	}
	for name, m := range invalidModels() {
		for _, list := range [][]int{nil, {}, {0}, {0, 0}, {0, 1}, {1, 0}, {m.Actual}, {-1}} {
			got, ok := impl.ChainAgents(m, list)
			checkNumbers(t, fmt.Sprintf("ChainAgents of %v: %s", list, name), got, ok, nil, false)
		}
	}
}

func TestSpreadOf(t *testing.T) {
	islands := impl.Model{Facts: make([]int, 6), Blocks: [][]int{{0, 1, 2, 1, 3, 4}, {0, 1, 2, 3, 4, 3}, {0, 1, 2, 3, 0, 4}}}
	for world, want := range [][]int{
		{0, -1, -1, -1, 1, -1}, {-1, 0, -1, 1, -1, 2}, {-1, -1, 0, -1, -1, -1}, {-1, 1, -1, 0, -1, 1}, {1, -1, -1, -1, 0, -1}, {-1, 2, -1, 1, -1, 0},
	} {
		if got := impl.SpreadOf(islands, world); !slices.Equal(got, want) {
			t.Errorf("SpreadOf the world %d = %v, want %v", world, got, want)
		}
	}
	for world := range 16 {
		want := append(walk(world, 0), numbers(1, 15-world)...)
		if got := impl.SpreadOf(longModel(), world); !slices.Equal(got, want) {
			t.Errorf("SpreadOf the world %d of a long model = %v, want %v", world, got, want)
		}
	}
	for world, want := range [][]int{{0, 1, 1, 2, 1, 2, 2, 3}, {1, 0, 2, 1, 2, 1, 3, 2}} {
		if got := impl.SpreadOf(threeChildren(), world); !slices.Equal(got, want) {
			t.Errorf("SpreadOf the world %d of children = %v, want %v", world, got, want)
		}
	}
	for _, m := range append(sampleModels(), chainModels()...) {
		checkSpread(t, m)
	}
	for name, m := range invalidModels() {
		for _, world := range []int{-1, 0, 1, m.Actual} {
			if got := impl.SpreadOf(m, world); len(got) != 0 {
				t.Errorf("SpreadOf is %v: %s", got, name)
			}
		}
	}
}

func TestSpreadsAreTheLengthsOfChains(t *testing.T) {
	f := read(t, "a")
	for _, m := range append(randomModels(), chainModels()...) {
		for world := range m.Facts {
			spread := impl.SpreadOf(m, world)
			moved, _ := impl.MoveTo(m, world)
			if again := impl.SpreadOf(moved, world); !slices.Equal(again, spread) {
				t.Errorf("SpreadOf(%v, %d) depends on the actual world", m, world)
			}
			for end, steps := range spread {
				chain, ok := impl.IgnoranceChain(falseIn(moved, end), f)
				if ok != (steps >= 0) || len(chain) != steps+1 || impl.SpreadOf(m, end)[world] != steps {
					t.Errorf("SpreadOf(%v, %d) is %v, but the chain to %d is %v", m, world, spread, end, chain)
				}
				if slices.Contains(impl.ReachedFrom(m, world), end) != (steps >= 0) {
					t.Errorf("SpreadOf(%v, %d) is %v, but ReachedFrom %v", m, world, spread, impl.ReachedFrom(m, world))
				}
			}
		}
	}
}

// callAllDepths calls every function of the layer, and returns the lists that it gets.
func callAllDepths(m impl.Model, f []impl.Node, list []int) [][]int {
	impl.SharedDepth(m, f)
	impl.IsCommon(m, f)
	chain, _ := impl.IgnoranceChain(m, f)
	agents, _ := impl.ChainAgents(m, list)
	return [][]int{chain, agents, impl.WhoKnows(m, f), impl.SpreadOf(m, 0)}
}

func TestDepthArgumentsAreNotModified(t *testing.T) {
	forArguments(func(m impl.Model, f []impl.Node, g []impl.Node) {
		for _, list := range [][]int{nil, {m.Actual}, {m.Actual, m.Actual, m.Actual}, {0, 0, 20}} {
			model, formula, worlds := roomyModel(m), roomyFormula(f), roomyList(list)
			callAllDepths(model, formula, worlds)
			if !isRoomyModel(model, m) || !isRoomyFormula(formula, f) || !isRoomyList(worlds, list) {
				t.Errorf("an argument or the room behind it was changed: %d worlds, %d nodes", len(m.Facts), len(f))
			}
		}
	})
}

func TestDepthResultsAreNew(t *testing.T) {
	formulas := []string{"a", "-a", "T", "Ea", "-K0a"}
	for i, m := range append(sampleModels(), chainModels()...) {
		f := read(t, formulas[i%len(formulas)])
		list, formulaBefore := []int{m.Actual, m.Actual, m.Actual}, slices.Clone(f)
		before, listBefore := copyModel(m), slices.Clone(list)
		kept := callAllDepths(m, f, list)
		want := callAllDepths(before, formulaBefore, listBefore)
		checkNew(t, before, nil, kept, want)
		if !equalModels(m, before) || !slices.Equal(f, formulaBefore) || !slices.Equal(list, listBefore) {
			t.Fatalf("a result shares memory with the arguments %v and %v", before, formulaBefore)
		}
		if again := callAllDepths(m, f, list); !slices.EqualFunc(again, want, slices.Equal[[]int]) {
			t.Fatalf("the results for %v and %v differ from call to call", before, formulaBefore)
		}
	}
}
