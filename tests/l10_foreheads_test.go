package tests

import (
	"fmt"
	"math"
	"slices"
	"sync"
	"testing"

	"loop.example/g00945/impl"
)

// hasFact is a second way to find out whether a fact is set.
func hasFact(facts int, fact int) bool {
	return facts/[]int{1, 2, 4, 8}[fact]%2 == 1
}

// countDirty is a second way to count the children, at most 3, who are dirty.
func countDirty(dirty int) int {
	return []int{0, 1, 1, 2, 1, 2, 2, 3}[dirty]
}

// areChildren reports whether there can be so many children of whom just these are dirty.
func areChildren(children int, dirty int) bool {
	return 1 <= children && children <= 3 && 0 <= dirty && dirty < []int{1, 2, 4, 8}[children]
}

// plainForeheads is a second way to make the model of children: a block of a child has what it sees of the others.
func plainForeheads(children int, dirty int) impl.Model {
	worlds := []int{1, 2, 4, 8}[children]
	m := impl.Model{Facts: numbers(0, worlds-1), Actual: dirty}
	for child := range children {
		var seen []int
		for _, facts := range m.Facts {
			seen = append(seen, facts&^[]int{1, 2, 4}[child])
		}
		m.Blocks = append(m.Blocks, plainNumbers(seen))
	}
	return m
}

// plainFather is a second way to tell the agents of a valid model that the fact of one of them is set.
func plainFather(m impl.Model) (impl.Model, bool) {
	var left []int
	for world, facts := range m.Facts {
		if facts&[]int{0, 1, 3, 7}[len(m.Blocks)] != 0 {
			left = append(left, world)
		}
	}
	if !slices.Contains(left, m.Actual) {
		return impl.Model{}, false
	}
	return plainRestrict(m, left), true
}

// plainAnswers is a second way to find what the agents of a valid model say in a world.
func plainAnswers(m impl.Model, world int) []bool {
	var said []bool
	for agent := range m.Blocks {
		said = append(said, !slices.ContainsFunc(blockOf(m, agent, world), func(other int) bool {
			return hasFact(m.Facts[other], agent) != hasFact(m.Facts[world], agent)
		}))
	}
	return said
}

// plainRound is a second way to let all agents of a valid model say something at once.
func plainRound(m impl.Model) (impl.Model, []bool) {
	said := plainAnswers(m, m.Actual)
	left := slices.DeleteFunc(numbers(0, len(m.Facts)-1), func(world int) bool { return !slices.Equal(plainAnswers(m, world), said) })
	return plainRestrict(m, left), said
}

// plainUntil is a second way to count the rounds until an agent of a valid model knows, as long as any world is left out.
func plainUntil(m impl.Model, agent int) int {
	for round := 1; ; round++ {
		left, said := plainRound(m)
		if said[agent] {
			return round
		}
		if len(left.Facts) == len(m.Facts) {
			return 0
		}
		m = left
	}
}

// plainPlay is a second way to find what children say, by how many of them are dirty, at least one.
func plainPlay(children int, dirty int) [][]bool {
	var play [][]bool
	for round := 1; len(play) == 0 || slices.Contains(play[len(play)-1], false); round++ {
		var said []bool
		for child := range children {
			first := countDirty(dirty)
			if !hasFact(dirty, child) {
				first++
			}
			said = append(said, round >= first)
		}
		play = append(play, said)
	}
	return play
}

// answersOf returns the answers that are written as y and n.
func answersOf(text string) []bool {
	var said []bool
	for _, letter := range text {
		said = append(said, letter == 'y')
	}
	return said
}

// equalRounds reports whether the answers of two lists of rounds are the same.
func equalRounds(first [][]bool, second [][]bool) bool {
	return slices.EqualFunc(first, second, slices.Equal[[]bool])
}

// withActual returns a copy of a model with another actual world.
func withActual(m impl.Model, world int) impl.Model {
	moved := copyModel(m)
	moved.Actual = world
	return moved
}

// childModels returns the models of all numbers of children, of whom none are dirty.
func childModels() []impl.Model {
	return []impl.Model{plainForeheads(1, 0), plainForeheads(2, 0), plainForeheads(3, 0)}
}

// lateModel returns a model of at least 3 worlds in a row in which at first only the agent 0 knows, in the world 0 alone,
// and each world that is left out lets an agent know in the next one; but in the last two worlds nobody ever knows.
func lateModel(worlds int) impl.Model {
	m := impl.Model{}
	var first, second []int
	for world := range worlds {
		m.Facts = append(m.Facts, 1+world%2)
		first = append(first, (world+1)/2)
		second = append(second, world/2)
	}
	m.Blocks = [][]int{first, second}
	// The agent who would have the last world in a block of its own takes it for the two before.
	last := m.Blocks[worlds%2]
	last[worlds-1] = last[worlds-2]
	return m
}

// lateModels returns the late models of all sizes.
func lateModels() []impl.Model {
	var all []impl.Model
	for worlds := 3; worlds <= 16; worlds++ {
		all = append(all, lateModel(worlds))
	}
	return all
}

// factModels returns models of all numbers of worlds and agents in which few worlds differ in the facts of the agents, so
// that some agents know them.
func factModels() []impl.Model {
	d := dice(67)
	var all []impl.Model
	for worlds := 1; worlds <= 16; worlds++ {
		for agents := 1; agents <= 3; agents++ {
			for _, fine := range []int{2, 5, 9, 14} {
				m := randomModel(&d, worlds, agents, fine)
				all = append(all, m)
				all = append(all, withFacts(m, func(world int) int { return m.Facts[world] & 8 }))
				all = append(all, withFacts(m, func(world int) int { return m.Facts[world] & m.Facts[(world+1)%worlds] }))
				all = append(all, withFacts(m, func(world int) int { return m.Blocks[0][world] % 8 }))
			}
			paired := pairedModel(&d, worlds, agents)
			all = append(all, withFacts(paired, func(int) int { return d.below(16) }))
		}
	}
	return all
}

// roundModels returns the models with which the functions of the layer are compared with the second ways; each of their
// worlds is the actual one in one of them.
func roundModels() []impl.Model {
	all := append(twinModels(), smallModels()...)
	for _, m := range append(append(append(childModels(), lateModels()...), factModels()...), longModel()) {
		for world := range m.Facts {
			all = append(all, withActual(m, world))
		}
	}
	return all
}

// checkRounds compares what the functions say of a valid model with the second ways, and returns the greatest number of
// rounds.
func checkRounds(t *testing.T, m impl.Model) int {
	t.Helper()
	want, wantOk := plainFather(m)
	got, ok := impl.FatherSays(m)
	checkModel(t, fmt.Sprintf("FatherSays(%v)", m), got, ok, want, wantOk)
	want, heard := plainRound(m)
	got, said, ok := impl.SayRound(m)
	checkModel(t, fmt.Sprintf("SayRound(%v)", m), got, ok, want, true)
	if !slices.Equal(said, heard) {
		t.Errorf("the answers of SayRound(%v) = %v, want %v", m, said, heard)
	}
	most := 0
	for agent := range m.Blocks {
		until := plainUntil(m, agent)
		if got := impl.RoundsUntil(m, agent); got != until {
			t.Errorf("RoundsUntil(%v, %d) = %d, want %d", m, agent, got, until)
		}
		most = max(most, until)
	}
	return most
}

// checkPlay compares PlayForeheads with the rounds that there should be.
func checkPlay(t *testing.T, children int, dirty int, want [][]bool, wantOk bool) {
	t.Helper()
	got, ok := impl.PlayForeheads(children, dirty)
	checkResult(t, fmt.Sprintf("PlayForeheads(%d, %d)", children, dirty), got, ok, want, wantOk, equalRounds, func([][]bool) bool { return true })
}

func TestForeheadModel(t *testing.T) {
	one := impl.Model{Facts: []int{0, 1}, Blocks: [][]int{{0, 0}}}
	three := threeChildren()
	three.Actual = 5
	for _, c := range []struct {
		children int
		dirty    int
		want     impl.Model
		ok       bool
	}{
		{1, 0, one, true},
		{2, 3, twoChildren(), true},
		{3, 7, threeChildren(), true},
		{3, 5, three, true},
		{0, 0, impl.Model{}, false},
		{1, 2, impl.Model{}, false},
		{1, -1, impl.Model{}, false},
		{2, 4, impl.Model{}, false},
		{3, 8, impl.Model{}, false},
		{4, 0, impl.Model{}, false},
		{4, 15, impl.Model{}, false},
		{-1, 0, impl.Model{}, false},
	} {
		got, ok := impl.ForeheadModel(c.children, c.dirty)
		checkModel(t, fmt.Sprintf("ForeheadModel(%d, %d)", c.children, c.dirty), got, ok, c.want, c.ok)
	}
}

func TestForeheadModelOfAllNumbers(t *testing.T) {
	for _, children := range someNumbers() {
		for _, dirty := range someNumbers() {
			want, wantOk := impl.Model{}, areChildren(children, dirty)
			if wantOk {
				want = plainForeheads(children, dirty)
			}
			got, ok := impl.ForeheadModel(children, dirty)
			checkModel(t, fmt.Sprintf("ForeheadModel(%d, %d)", children, dirty), got, ok, want, wantOk)
		}
	}
}

func TestChildrenSeeAllOthersButNotThemselves(t *testing.T) {
	for children := 1; children <= 3; children++ {
		for dirty := range 1 << children {
			m, _ := impl.ForeheadModel(children, dirty)
			free, _ := impl.FreeModel(children, children)
			if !slices.Equal(m.Facts, free.Facts) || m.Actual != dirty {
				t.Errorf("the worlds of ForeheadModel(%d, %d) are %v", children, dirty, m)
			}
			for child := range children {
				for fact := range children {
					own := plainFormat(child) + []string{"a", "b", "c"}[fact]
					if got := impl.HoldsEverywhere(m, read(t, "W"+own)); got != (fact != child) {
						t.Errorf("W%s is %v in ForeheadModel(%d, %d)", own, got, children, dirty)
					}
					if fact == child && !impl.HoldsEverywhere(m, read(t, "-W"+own)) {
						t.Errorf("child %d sees itself in ForeheadModel(%d, %d)", child, children, dirty)
					}
				}
				for v := range m.Facts {
					for w := range m.Facts {
						if got, want := impl.SameBlock(m, child, v, w), v == w || v^w == 1<<child; got != want {
							t.Errorf("child %d of %d takes %d for %d: %v", child, children, v, w, got)
						}
					}
				}
			}
		}
	}
}

func TestFatherSays(t *testing.T) {
	facts := []int{0, 1, 2, 3, 4, 8, 12, 6}
	three := impl.Model{Facts: []int{1, 2, 3, 4, 5, 6, 7}, Blocks: [][]int{{0, 1, 1, 2, 2, 3, 3}, {0, 1, 0, 2, 3, 2, 3}, {0, 1, 2, 3, 0, 1, 2}}, Actual: 6}
	for _, c := range []struct {
		m    impl.Model
		want impl.Model
		ok   bool
	}{
		{twoChildren(), impl.Model{Facts: []int{1, 2, 3}, Blocks: [][]int{{0, 1, 1}, {0, 1, 0}}, Actual: 2}, true},
		{threeChildren(), three, true},
		{three, three, true},
		{plainForeheads(1, 1), impl.Model{Facts: []int{1}, Blocks: [][]int{{0}}}, true},
		{plainForeheads(1, 0), impl.Model{}, false},
		{plainForeheads(2, 0), impl.Model{}, false},
		{plainForeheads(3, 0), impl.Model{}, false},
		// Facts that belong to no agent do not count.
		{impl.Model{Facts: facts, Blocks: [][]int{make([]int, 8)}, Actual: 3}, impl.Model{Facts: []int{1, 3}, Blocks: [][]int{{0, 0}}, Actual: 1}, true},
		{impl.Model{Facts: facts, Blocks: [][]int{make([]int, 8)}, Actual: 2}, impl.Model{}, false},
		{impl.Model{Facts: facts, Blocks: [][]int{make([]int, 8)}, Actual: 7}, impl.Model{}, false},
		{impl.Model{Facts: facts, Blocks: [][]int{make([]int, 8), numbers(0, 7)}, Actual: 2}, impl.Model{Facts: []int{1, 2, 3, 6}, Blocks: [][]int{{0, 0, 0, 0}, {0, 1, 2, 3}}, Actual: 1}, true},
		{impl.Model{Facts: facts, Blocks: [][]int{make([]int, 8), numbers(0, 7)}, Actual: 4}, impl.Model{}, false},
		{impl.Model{Facts: facts, Blocks: [][]int{numbers(0, 7), make([]int, 8), make([]int, 8)}, Actual: 6}, impl.Model{Facts: []int{1, 2, 3, 4, 12, 6}, Blocks: [][]int{numbers(0, 5), make([]int, 6), make([]int, 6)}, Actual: 4}, true},
		{impl.Model{Facts: facts, Blocks: [][]int{numbers(0, 7), make([]int, 8), make([]int, 8)}, Actual: 5}, impl.Model{}, false},
	} {
		got, ok := impl.FatherSays(c.m)
		checkModel(t, fmt.Sprintf("FatherSays(%v)", c.m), got, ok, c.want, c.ok)
	}
}

func TestFatherSaysIsAnAnnouncement(t *testing.T) {
	said, lies := 0, 0
	for _, m := range roundModels() {
		f := read(t, []string{"--a", "-&-a-b", "-&-a&-b-c"}[len(m.Blocks)-1])
		want, wantOk := impl.Announce(m, f)
		got, ok := impl.FatherSays(m)
		checkModel(t, fmt.Sprintf("FatherSays(%v)", m), got, ok, want, wantOk)
		if ok != impl.Holds(m, f) {
			t.Errorf("FatherSays(%v) = %v, but what he says is %v", m, ok, impl.Holds(m, f))
		}
		if !ok {
			lies++
			continue
		}
		said++
		if !impl.IsCommon(got, f) {
			t.Errorf("what the father says is not common knowledge in %v", got)
		}
		again, ok := impl.FatherSays(got)
		checkModel(t, fmt.Sprintf("FatherSays(%v)", got), again, ok, got, true)
	}
	if said < 1000 || lies < 1000 {
		t.Errorf("the father is right in %d models and wrong in %d", said, lies)
	}
}

// afterFather is the model of children, of whom some are dirty, after the father has spoken.
func afterFather(children int, dirty int) impl.Model {
	m, _ := plainFather(plainForeheads(children, dirty))
	return m
}

func TestSayRound(t *testing.T) {
	// The agent 0 knows everywhere, the agent 1 in the first three worlds, and the agent 2 in the first two.
	mixed := impl.Model{Facts: []int{1, 1, 4, 0, 11}, Blocks: [][]int{{0, 0, 1, 1, 2}, {0, 1, 1, 2, 2}, {0, 1, 2, 2, 2}}}
	for _, c := range []struct {
		m    impl.Model
		want impl.Model
		said string
	}{
		{twoChildren(), twoChildren(), "nn"},
		{threeChildren(), threeChildren(), "nnn"},
		{plainForeheads(1, 1), plainForeheads(1, 1), "n"},
		{afterFather(1, 1), impl.Model{Facts: []int{1}, Blocks: [][]int{{0}}}, "y"},
		{afterFather(2, 1), impl.Model{Facts: []int{1}, Blocks: [][]int{{0}, {0}}}, "yn"},
		{afterFather(2, 2), impl.Model{Facts: []int{2}, Blocks: [][]int{{0}, {0}}}, "ny"},
		{afterFather(2, 3), impl.Model{Facts: []int{3}, Blocks: [][]int{{0}, {0}}}, "nn"},
		{afterFather(3, 4), impl.Model{Facts: []int{4}, Blocks: [][]int{{0}, {0}, {0}}}, "nny"},
		{afterFather(3, 6), impl.Model{Facts: []int{3, 5, 6, 7}, Blocks: [][]int{{0, 1, 2, 2}, {0, 1, 2, 1}, {0, 1, 2, 0}}, Actual: 2}, "nnn"},
		{mixed, impl.Model{Facts: []int{1, 1}, Blocks: [][]int{{0, 0}, {0, 1}, {0, 1}}}, "yyy"},
		{withActual(mixed, 1), impl.Model{Facts: []int{1, 1}, Blocks: [][]int{{0, 0}, {0, 1}, {0, 1}}, Actual: 1}, "yyy"},
		{withActual(mixed, 2), impl.Model{Facts: []int{4}, Blocks: [][]int{{0}, {0}, {0}}}, "yyn"},
		{withActual(mixed, 3), impl.Model{Facts: []int{0, 11}, Blocks: [][]int{{0, 1}, {0, 0}, {0, 0}}}, "ynn"},
		{withActual(mixed, 4), impl.Model{Facts: []int{0, 11}, Blocks: [][]int{{0, 1}, {0, 0}, {0, 0}}, Actual: 1}, "ynn"},
		{manyWorlds(1, 1), manyWorlds(1, 1), "y"},
		{manyWorlds(16, 3), manyWorlds(16, 3), "yyy"},
		{falseIn(manyWorlds(16, 3), 15), falseIn(manyWorlds(16, 3), 15), "nyy"},
	} {
		got, said, ok := impl.SayRound(c.m)
		checkModel(t, fmt.Sprintf("SayRound(%v)", c.m), got, ok, c.want, true)
		if !slices.Equal(said, answersOf(c.said)) {
			t.Errorf("the answers of SayRound(%v) = %v, want %s", c.m, said, c.said)
		}
	}
}

func TestRoundsOfManyModels(t *testing.T) {
	counts := map[int]int{}
	for _, m := range roundModels() {
		counts[checkRounds(t, m)]++
	}
	for rounds := range 16 {
		least := 1
		if rounds < 4 {
			least = 100
		}
		if counts[rounds] < least {
			t.Errorf("only %d models have %d rounds", counts[rounds], rounds)
		}
	}
}

func TestSayRoundIsAnAnnouncementOfAllAnswers(t *testing.T) {
	fewer := 0
	for _, m := range roundModels() {
		got, said, ok := impl.SayRound(m)
		f := read(t, "T")
		for agent, knows := range said {
			g := read(t, []string{"W0a", "W1b", "W2c"}[agent])
			if knows != impl.Holds(m, g) {
				t.Errorf("agent %d says %v in %v", agent, knows, m)
			}
			if !knows {
				g, _ = impl.Negate(g)
			}
			f, _ = impl.Conjoin(f, g)
		}
		want, wantOk := impl.Announce(m, f)
		if !wantOk || len(said) != len(m.Blocks) {
			t.Errorf("the answers %v are not true in %v", said, m)
		}
		checkModel(t, fmt.Sprintf("SayRound(%v)", m), got, ok, want, true)
		if len(got.Facts) < len(m.Facts) {
			fewer++
		}
	}
	if fewer < 1000 {
		t.Errorf("only %d rounds leave worlds out", fewer)
	}
}

func TestSayRoundBringsTheAnswersNearer(t *testing.T) {
	for _, m := range roundModels() {
		left, said, _ := impl.SayRound(m)
		for agent, knows := range said {
			// Who knows goes on knowing, and who never knows goes on not knowing.
			until, next := impl.RoundsUntil(m, agent), impl.RoundsUntil(left, agent)
			if knows != (until == 1) || knows && next != 1 || !knows && next != max(until-1, 0) {
				t.Errorf("RoundsUntil(%v, %d) = %d and after a round %d, but the answer is %v", m, agent, until, next, knows)
			}
		}
	}
}

func TestRoundsUntil(t *testing.T) {
	for _, c := range []struct {
		m    impl.Model
		want []int
	}{
		{afterFather(2, 3), []int{2, 2}},
		{afterFather(2, 1), []int{1, 2}},
		{afterFather(2, 2), []int{2, 1}},
		{afterFather(3, 7), []int{3, 3, 3}},
		{afterFather(3, 5), []int{2, 3, 2}},
		{afterFather(3, 2), []int{2, 1, 2}},
		{afterFather(1, 1), []int{1}},
		{twoChildren(), []int{0, 0}},
		{threeChildren(), []int{0, 0, 0}},
		{plainForeheads(1, 0), []int{0}},
		{plainForeheads(1, 1), []int{0}},
		{manyWorlds(1, 2), []int{1, 1}},
		{manyWorlds(16, 3), []int{1, 1, 1}},
		{falseIn(manyWorlds(16, 2), 15), []int{0, 1}},
		{falseIn(manyWorlds(16, 1), 0), []int{0}},
		{withActual(lateModel(5), 1), []int{3, 2}},
		{withActual(lateModel(16), 13), []int{15, 14}},
		{withActual(lateModel(16), 14), []int{0, 0}},
		{withActual(lateModel(15), 12), []int{13, 14}},
	} {
		for agent, want := range c.want {
			if got := impl.RoundsUntil(c.m, agent); got != want {
				t.Errorf("RoundsUntil(%v, %d) = %d, want %d", c.m, agent, got, want)
			}
		}
	}
}

func TestRoundsUntilOfLateAnswers(t *testing.T) {
	for worlds := 3; worlds <= 16; worlds++ {
		for world := range worlds {
			m := withActual(lateModel(worlds), world)
			for agent := range 2 {
				want := world + 1 + (world+agent)%2
				if world >= worlds-2 {
					want = 0
				}
				if got := impl.RoundsUntil(m, agent); got != want {
					t.Errorf("RoundsUntil of agent %d in the world %d of %d is %d, want %d", agent, world, worlds, got, want)
				}
			}
		}
	}
}

func TestRoundsUntilOfAgentsThatAreMissing(t *testing.T) {
	for _, m := range append(childModels(), afterFather(1, 1), afterFather(2, 3), afterFather(3, 7), manyWorlds(1, 1), manyWorlds(16, 3), longModel()) {
		for _, agent := range someNumbers() {
			want := 0
			if 0 <= agent && agent < len(m.Blocks) {
				want = plainUntil(m, agent)
			}
			if got := impl.RoundsUntil(m, agent); got != want {
				t.Errorf("RoundsUntil(%v, %d) = %d, want %d", m, agent, got, want)
			}
		}
	}
}

func TestPlayForeheads(t *testing.T) {
	for _, c := range []struct {
		children int
		dirty    int
		want     []string
	}{
		{1, 1, []string{"y"}},
		{2, 1, []string{"yn", "yy"}},
		{2, 2, []string{"ny", "yy"}},
		{2, 3, []string{"nn", "yy"}},
		{3, 1, []string{"ynn", "yyy"}},
		{3, 2, []string{"nyn", "yyy"}},
		{3, 3, []string{"nnn", "yyn", "yyy"}},
		{3, 4, []string{"nny", "yyy"}},
		{3, 5, []string{"nnn", "yny", "yyy"}},
		{3, 6, []string{"nnn", "nyy", "yyy"}},
		{3, 7, []string{"nnn", "nnn", "yyy"}},
	} {
		var want [][]bool
		for _, said := range c.want {
			want = append(want, answersOf(said))
		}
		checkPlay(t, c.children, c.dirty, want, true)
	}
	for children := range 5 {
		checkPlay(t, children, 0, nil, false)
	}
}

func TestPlayForeheadsOfAllNumbers(t *testing.T) {
	for _, children := range someNumbers() {
		for _, dirty := range someNumbers() {
			var want [][]bool
			wantOk := areChildren(children, dirty) && dirty > 0
			if wantOk {
				want = plainPlay(children, dirty)
			}
			checkPlay(t, children, dirty, want, wantOk)
		}
	}
}

func TestDirtyChildrenKnowFirst(t *testing.T) {
	for children := 1; children <= 3; children++ {
		for dirty := 1; dirty < 1<<children; dirty++ {
			m, ok := impl.ForeheadModel(children, dirty)
			told, toldOk := impl.FatherSays(m)
			play, playOk := impl.PlayForeheads(children, dirty)
			if !ok || !toldOk || !playOk {
				t.Fatalf("%d children cannot play if %d are dirty", children, dirty)
			}
			for child := range children {
				want := countDirty(dirty)
				if !hasFact(dirty, child) {
					want++
				}
				if got := impl.RoundsUntil(told, child); got != want {
					t.Errorf("child %d of %d, of whom %d are dirty, knows in round %d, want %d", child, children, dirty, got, want)
				}
				if got := impl.RoundsUntil(m, child); got != 0 {
					t.Errorf("child %d of %d, of whom %d are dirty, knows in round %d, though the father is silent", child, children, dirty, got)
				}
				first := slices.IndexFunc(play, func(said []bool) bool { return said[child] })
				if first+1 != want {
					t.Errorf("child %d of %d, of whom %d are dirty, says so in round %d of the play, want %d", child, children, dirty, first+1, want)
				}
			}
		}
	}
}

func TestPlayForeheadsIsSayRoundAgainAndAgain(t *testing.T) {
	for children := 1; children <= 3; children++ {
		for dirty := 1; dirty < 1<<children; dirty++ {
			m, _ := impl.ForeheadModel(children, dirty)
			m, _ = impl.FatherSays(m)
			play, _ := impl.PlayForeheads(children, dirty)
			for round, want := range play {
				// So far nobody knows until as many rounds are over as children are dirty, but one.
				if round < countDirty(dirty) {
					left := slices.DeleteFunc(numbers(1, 1<<children-1), func(facts int) bool { return countDirty(facts) <= round })
					if !slices.Equal(m.Facts, left) {
						t.Errorf("before round %d of PlayForeheads(%d, %d), the worlds are %v", round+1, children, dirty, m.Facts)
					}
				}
				next, said, ok := impl.SayRound(m)
				if !ok || !slices.Equal(said, want) {
					t.Errorf("round %d of PlayForeheads(%d, %d) is %v, but SayRound %v", round+1, children, dirty, want, said)
				}
				if all := !slices.Contains(said, false); all != (round == len(play)-1) {
					t.Errorf("PlayForeheads(%d, %d) = %v", children, dirty, play)
				}
				m = next
			}
		}
	}
}

func TestRoundsOfWhatIsNotValid(t *testing.T) {
	for name, m := range invalidModels() {
		got, ok := impl.FatherSays(m)
		checkModel(t, "FatherSays: "+name, got, ok, impl.Model{}, false)
		got, said, ok := impl.SayRound(m)
		checkModel(t, "SayRound: "+name, got, ok, impl.Model{}, false)
		if len(said) != 0 {
			t.Errorf("the answers of SayRound are %v: %s", said, name)
		}
		for _, agent := range []int{-1, 0, 1, 2, 3, 99999, math.MinInt, math.MaxInt} {
			if got := impl.RoundsUntil(m, agent); got != 0 {
				t.Errorf("RoundsUntil agent %d is %d: %s", agent, got, name)
			}
		}
	}
}

// callAllRounds calls every function of the layer that takes a model, and some others, and returns the models and answers
// that it gets.
func callAllRounds(m impl.Model) ([]impl.Model, [][]bool) {
	children, dirty := len(m.Facts)%4, m.Actual%8
	impl.RoundsUntil(m, 0)
	impl.RoundsUntil(m, len(m.Blocks)-1)
	made, _ := impl.ForeheadModel(children, dirty)
	told, _ := impl.FatherSays(m)
	left, said, _ := impl.SayRound(m)
	play, _ := impl.PlayForeheads(children, dirty)
	return []impl.Model{made, told, left}, append([][]bool{said}, play...)
}

func TestForeheadArgumentsAreNotModified(t *testing.T) {
	models := roundModels()
	for _, m := range invalidModels() {
		models = append(models, m)
	}
	for _, m := range models {
		roomy := roomyModel(m)
		callAllRounds(roomy)
		if !isRoomyModel(roomy, m) {
			t.Errorf("an argument or the room behind it was changed: %d worlds", len(m.Facts))
		}
	}
}

// checkNewAnswers overwrites all lists of answers, up to their capacities, and checks that this changes no other one.
func checkNewAnswers(t *testing.T, m impl.Model, answers [][]bool, want [][]bool) {
	t.Helper()
	for i, said := range answers {
		for j := range said[:cap(said)] {
			said[:cap(said)][j] = !said[:cap(said)][j]
		}
		if !equalRounds(answers[i+1:], want[i+1:]) {
			t.Fatalf("two lists of answers for %v share memory", m)
		}
	}
}

func TestForeheadResultsAreNew(t *testing.T) {
	for _, m := range roundModels() {
		before := copyModel(m)
		kept, keptAnswers := callAllRounds(m)
		wantModels, wantAnswers := callAllRounds(before)
		want := slicesOf(wantModels, nil)
		checkNew(t, before, kept, nil, want)
		checkNewAnswers(t, before, keptAnswers, wantAnswers)
		if !equalModels(m, before) {
			t.Fatalf("a result shares memory with the argument %v", before)
		}
		again, againAnswers := callAllRounds(m)
		if !slices.EqualFunc(slicesOf(again, nil), want, slices.Equal[[]int]) || !equalRounds(againAnswers, wantAnswers) {
			t.Fatalf("the results for %v differ from call to call", before)
		}
	}
}

func TestForeheadResultsDoNotDependOnOtherCalls(t *testing.T) {
	models := append(append(childModels(), lateModels()...), factModels()...)
	var callers sync.WaitGroup
	for caller := range 8 {
		callers.Go(func() {
			for i := range models {
				m := models[(i+caller*11)%len(models)]
				want, heard := plainRound(m)
				got, said, ok := impl.SayRound(m)
				if !ok || !equalModels(got, want) || !slices.Equal(said, heard) {
					t.Errorf("SayRound(%v) = %v, %v, %v", m, got, said, ok)
				}
				if got, want := impl.RoundsUntil(m, len(m.Blocks)-1), plainUntil(m, len(m.Blocks)-1); got != want {
					t.Errorf("RoundsUntil(%v, %d) = %d, want %d", m, len(m.Blocks)-1, got, want)
				}
				if got, _ := impl.PlayForeheads(3, 1+i%7); !equalRounds(got, plainPlay(3, 1+i%7)) {
					t.Errorf("PlayForeheads(3, %d) = %v", 1+i%7, got)
				}
			}
		})
	}
	callers.Wait()
}
