package tests

import (
	"math"
	"slices"
	"strings"
	"testing"

	"loop.example/g00945/impl"
)

// links has for each two worlds whether the second one counts in the first one.
type links [][]bool

// plainLinks returns which worlds, of those that have not been left out, some of the agents cannot tell apart.
func plainLinks(m impl.Model, left []bool, agents []int) links {
	var all links
	for v := range m.Facts {
		line := make([]bool, len(m.Facts))
		for w := range m.Facts {
			for _, agent := range agents {
				if left[v] && left[w] && m.Blocks[agent][v] == m.Blocks[agent][w] {
					line[w] = true
				}
			}
		}
		all = append(all, line)
	}
	return all
}

// closed returns the links by way of any other worlds.
func (l links) closed() links {
	for by := range l {
		for v := range l {
			for w := range l {
				l[v][w] = l[v][w] || l[v][by] && l[by][w]
			}
		}
	}
	return l
}

// always returns for each world whether a value stands in all worlds that count in it.
func (l links) always(truth []bool, value bool) []bool {
	var all []bool
	for v := range l {
		good := true
		for w, linked := range l[v] {
			good = good && (!linked || truth[w] == value)
		}
		all = append(all, good)
	}
	return all
}

// plainTrue is a second way to find out where the node at an index of a valid formula is true: worlds are left out
// but keep their numbers. What it says of worlds that are left out means nothing.
func plainTrue(m impl.Model, left []bool, f []impl.Node, i int) []bool {
	node := f[i]
	var first, second []bool
	if parts(node) > 0 {
		first = plainTrue(m, left, f, node.A)
	}
	if node.Op == impl.OpAfter {
		fewer := slices.Clone(left)
		for w := range fewer {
			fewer[w] = left[w] && first[w]
		}
		second = plainTrue(m, fewer, f, node.B)
	} else if parts(node) == 2 {
		second = plainTrue(m, left, f, node.B)
	}
	agents := numbers(0, len(m.Blocks)-1)
	switch node.Op {
	case impl.OpKnow:
		return plainLinks(m, left, []int{node.N}).always(first, true)
	case impl.OpEvery:
		return plainLinks(m, left, agents).always(first, true)
	case impl.OpCommon:
		return plainLinks(m, left, agents).closed().always(first, true)
	case impl.OpWhether:
		first, second = plainLinks(m, left, []int{node.N}).always(first, true), plainLinks(m, left, []int{node.N}).always(first, false)
	}
	truth := make([]bool, len(m.Facts))
	for w, facts := range m.Facts {
		switch node.Op {
		case impl.OpFact:
			truth[w] = facts/[]int{1, 2, 4, 8}[node.N]%2 == 1
		case impl.OpTrue:
			truth[w] = true
		case impl.OpNot:
			truth[w] = !first[w]
		case impl.OpAnd:
			truth[w] = first[w] && second[w]
		case impl.OpWhether:
			truth[w] = first[w] || second[w]
		case impl.OpAfter:
			truth[w] = !first[w] || second[w]
		}
	}
	return truth
}

// plainTruth is a second way to find the truth of a valid formula in a valid model.
func plainTruth(m impl.Model, f []impl.Node) ([]bool, bool) {
	for _, node := range f {
		if (node.Op == impl.OpKnow || node.Op == impl.OpWhether) && node.N >= len(m.Blocks) {
			return nil, false
		}
	}
	return plainTrue(m, slices.Repeat([]bool{true}, len(m.Facts)), f, len(f)-1), true
}

// worldsOf returns the worlds for which a list is true.
func worldsOf(truth []bool) []int {
	var worlds []int
	for w, in := range truth {
		if in {
			worlds = append(worlds, w)
		}
	}
	return worlds
}

// checkTruth compares what the functions of one formula say with the second way.
func checkTruth(t *testing.T, m impl.Model, f []impl.Node) {
	t.Helper()
	want, wantOk := plainTruth(m, f)
	text := plainText(f, len(f)-1)
	if got, ok := impl.TruthOf(m, f); ok != wantOk || !slices.Equal(got, want) {
		t.Errorf("TruthOf(%v, %s) = %v, %v, want %v, %v", m, text, got, ok, want, wantOk)
	}
	if got := impl.Holds(m, f); got != (wantOk && want[m.Actual]) {
		t.Errorf("Holds(%v, %s) = %v", m, text, got)
	}
	if got := impl.HoldsEverywhere(m, f); got != (wantOk && !slices.Contains(want, false)) {
		t.Errorf("HoldsEverywhere(%v, %s) = %v", m, text, got)
	}
	if got := impl.WorldsWhere(m, f); !slices.Equal(got, worldsOf(want)) {
		t.Errorf("WorldsWhere(%v, %s) = %v, want %v", m, text, got, worldsOf(want))
	}
}

// checkNoTruth checks that every function fails for a model and a formula.
func checkNoTruth(t *testing.T, label string, m impl.Model, f []impl.Node) {
	t.Helper()
	if got, ok := impl.TruthOf(m, f); ok || len(got) != 0 {
		t.Errorf("TruthOf is %v, %v: %s", got, ok, label)
	}
	if impl.Holds(m, f) || impl.HoldsEverywhere(m, f) {
		t.Errorf("Holds or HoldsEverywhere is true: %s", label)
	}
	if got := impl.WorldsWhere(m, f); len(got) != 0 {
		t.Errorf("WorldsWhere is %v: %s", got, label)
	}
	truth := []impl.Node{{Op: impl.OpTrue}}
	if impl.AreEquivalentIn(m, f, f) || impl.AreEquivalentIn(m, f, truth) || impl.AreEquivalentIn(m, truth, f) || impl.AreEquivalentIn(m, f, nil) {
		t.Errorf("AreEquivalentIn is true: %s", label)
	}
}

// twoChildren is the model of two children who see the forehead of each other: the fact k is that child k is dirty.
func twoChildren() impl.Model {
	return impl.Model{Facts: []int{0, 1, 2, 3}, Blocks: [][]int{{0, 0, 1, 1}, {0, 1, 0, 1}}, Actual: 3}
}

func TestTruthOf(t *testing.T) {
	cases := []struct {
		text string
		want []int
	}{
		{"a", []int{1, 3}}, {"b", []int{2, 3}}, {"c", nil}, {"d", nil}, {"T", []int{0, 1, 2, 3}},
		{"-a", []int{0, 2}}, {"-T", nil}, {"--b", []int{2, 3}}, {"&ab", []int{3}}, {"&a-b", []int{1}}, {"&-ab", []int{2}},
		{"K0b", []int{2, 3}}, {"K1b", nil}, {"K0a", nil}, {"K1a", []int{1, 3}}, {"K0-b", []int{0, 1}}, {"K0T", []int{0, 1, 2, 3}}, {"K0-T", nil},
		{"W0b", []int{0, 1, 2, 3}}, {"W0a", nil}, {"W1a", []int{0, 1, 2, 3}}, {"W0&ab", []int{0, 1}}, {"W1&ab", []int{0, 2}}, {"W0T", []int{0, 1, 2, 3}}, {"W1-T", []int{0, 1, 2, 3}},
		{"Ea", nil}, {"E-&-a-b", []int{3}}, {"E-&ab", []int{0}}, {"ET", []int{0, 1, 2, 3}}, {"EE-&-a-b", nil},
		{"C-&-a-b", nil}, {"CT", []int{0, 1, 2, 3}}, {"CW0b", []int{0, 1, 2, 3}}, {"C-K0a", []int{0, 1, 2, 3}},
		{"!ab", []int{0, 2, 3}}, {"!ba", []int{0, 1, 3}}, {"!aa", []int{0, 1, 2, 3}}, {"!a-a", []int{0, 2}}, {"!-aa", []int{1, 3}},
		{"!-&-a-bK0a", []int{0, 1}}, {"!-&-a-bE-&-a-b", []int{0, 1, 2, 3}}, {"!-&-a-bC-&-a-b", []int{0, 1, 2, 3}},
		{"!-&-a-b!K0aEb", []int{0, 2, 3}}, {"!-&-a-b!&-W0a-W1bK0&ab", []int{0, 1, 2, 3}}, {"!-&-a-b!&-W0a-W1b-T", []int{0, 1, 2}},
		{"!&a-K0aK0a", []int{0, 1, 2, 3}}, {"!&a-K0a&a-K0a", []int{0, 2}}, {"!!aba", []int{1, 3}}, {"!a!bC&ab", []int{0, 1, 2, 3}},
	}
	m := twoChildren()
	for _, c := range cases {
		f := read(t, c.text)
		if got, ok := impl.TruthOf(m, f); !ok || len(got) != 4 || !slices.Equal(worldsOf(got), c.want) {
			t.Errorf("TruthOf %s = %v, %v, want the worlds %v", c.text, got, ok, c.want)
		}
		checkTruth(t, m, f)
	}
}

func TestTruthOfFacts(t *testing.T) {
	m := impl.Model{Blocks: [][]int{make([]int, 16)}}
	for facts := range 16 {
		m.Facts = append(m.Facts, 15-facts)
	}
	for fact, letter := range []string{"a", "b", "c", "d"} {
		for world, facts := range m.Facts {
			at, _ := impl.MoveTo(m, world)
			want := []bool{facts&1 > 0, facts&2 > 0, facts&4 > 0, facts&8 > 0}[fact]
			if got := impl.Holds(at, read(t, letter)); got != want {
				t.Errorf("the fact %s is %v for %d", letter, got, facts)
			}
		}
	}
}

func TestTruthOfAnnouncementsThatLeaveNoWorld(t *testing.T) {
	models := append(randomModels(), twoChildren(), longModel(), manyWorlds(1, 1))
	for _, m := range models {
		for _, text := range []string{"!-TT", "!-T-T", "!-Ta", "!-TK0-T", "!-TW0a", "!-T-ET", "!-TC-T", "!-T!T-T", "!-T!-T-T", "!-T!a&b-T", "!T!-T-T", "E!-T-T", "K0!-TC-T", "!&a-aK0b"} {
			if !impl.HoldsEverywhere(m, read(t, text)) {
				t.Errorf("%s is not true everywhere in %v", text, m)
			}
		}
	}
}

// someCheck compares what the functions of a layer say of a valid model and a valid formula with a second way.
type someCheck func(t *testing.T, m impl.Model, f []impl.Node)

// checkSome calls a check with each formula and some models.
func checkSome(t *testing.T, check someCheck, formulas [][]impl.Node, models []impl.Model) {
	t.Helper()
	for i, f := range formulas {
		for k := range 12 {
			check(t, models[(i*7919+k*104729)%len(models)], f)
		}
	}
}

// checkShort calls a check with formulas of up to a number of nodes: with some small models, and if they have at most 2
// nodes with all of them.
func checkShort(t *testing.T, check someCheck, nodes int) {
	t.Helper()
	models := append(smallModels(), twoChildren())
	checkSome(t, check, formulasUpTo(nodes), models)
	short := formulasUpTo(2)
	for _, m := range models {
		for _, f := range short {
			check(t, m, f)
		}
	}
}

func TestTruthOfAllShortFormulas(t *testing.T) {
	checkShort(t, checkTruth, 4)
}

func TestTruthOfLongFormulas(t *testing.T) {
	checkSome(t, checkTruth, randomFormulas(), append(randomModels(), longModel()))
}

// nestedFormula returns a formula of depth up to a number in which announcements and knowledge alternate, with facts
// and negations at the ends.
func nestedFormula(d *dice, depth int, agents int) string {
	if depth == 0 {
		return []string{"a", "b", "-a", "-b", "-&ab", "-&-a-b", "c", "T"}[d.below(8)]
	}
	agent := plainFormat(d.below(agents))
	inner := nestedFormula(d, depth-1, agents)
	switch d.below(8) {
	case 0, 1, 2:
		return "!" + nestedFormula(d, min(depth-1, 1), agents) + inner
	case 3:
		return "K" + agent + inner
	case 4:
		return "-W" + agent + inner
	case 5:
		return "E" + inner
	case 6:
		return "-C" + inner
	}
	return "-" + inner
}

func TestTruthOfNestedAnnouncements(t *testing.T) {
	d := dice(11)
	for _, m := range append(randomModels(), longModel(), twoChildren()) {
		for depth := 2; depth <= 7; depth++ {
			for range 6 {
				if f, ok := impl.ParseFormula(nestedFormula(&d, depth, len(m.Blocks))); ok {
					checkTruth(t, m, f)
				}
			}
		}
	}
}

func TestTruthOfTheLongestFormulas(t *testing.T) {
	long, one := longModel(), manyWorlds(1, 1)
	for _, head := range []string{"-", "K0", "K1", "W0", "W1", "E", "C", "-C", "!T", "!-a", "&a"} {
		text := "a"
		for {
			f, ok := impl.ParseFormula(head + text)
			if !ok {
				break
			}
			text = head + text
			checkTruth(t, long, f)
			if !strings.Contains(head, "1") {
				checkTruth(t, one, f)
			}
		}
	}
}

func TestTruthOfDoesNotDependOnTheOrderOfNodes(t *testing.T) {
	models := append(randomModels(), longModel())
	for i, f := range append(formulasOf(4), randomFormulas()...) {
		m := models[(i*31)%len(models)]
		g := read(t, plainText(f, len(f)-1))
		first, firstOk := impl.TruthOf(m, f)
		second, secondOk := impl.TruthOf(m, g)
		if firstOk != secondOk || !slices.Equal(first, second) {
			t.Errorf("TruthOf(%v) of %v is %v and of %v is %v", m, f, first, g, second)
		}
	}
}

func TestTruthOfDoesNotDependOnTheActualWorld(t *testing.T) {
	d := dice(13)
	for _, m := range append(randomModels(), longModel()) {
		for range 20 {
			f := read(t, nestedFormula(&d, 3, len(m.Blocks)))
			want, wantOk := impl.TruthOf(m, f)
			for world := range m.Facts {
				at, _ := impl.MoveTo(m, world)
				got, ok := impl.TruthOf(at, f)
				if ok != wantOk || !slices.Equal(got, want) || impl.Holds(at, f) != want[world] {
					t.Errorf("the truth in %v depends on the actual world", m)
				}
			}
		}
	}
}

// noCheck checks that every function of a layer fails for a model and a formula.
type noCheck func(t *testing.T, label string, m impl.Model, f []impl.Node)

// checkWhatIsNotValid calls a check with models and formulas of which at least one is not valid.
func checkWhatIsNotValid(t *testing.T, check noCheck) {
	t.Helper()
	for name, m := range invalidModels() {
		for _, text := range []string{"a", "-a", "T", "-T", "K0a", "K0T", "Ea", "CT", "!-aT", "!-Ta"} {
			check(t, name+" and "+text, m, read(t, text))
		}
	}
	for name, f := range invalidLists() {
		for _, m := range []impl.Model{twoChildren(), longModel(), manyWorlds(1, 1), manyWorlds(16, 3)} {
			check(t, name, m, f)
		}
		for other, m := range invalidModels() {
			check(t, name+" and "+other, m, f)
		}
	}
}

// checkAgentsThatAreMissing calls a check with models and formulas that name agents, or another one if the model does
// not have the agent.
func checkAgentsThatAreMissing(t *testing.T, check someCheck, missing noCheck) {
	t.Helper()
	for agents := 1; agents <= 3; agents++ {
		for worlds := 1; worlds <= 16; worlds++ {
			m := manyWorlds(worlds, agents)
			for agent := range 3 {
				for _, text := range []string{"K0a", "K0T", "W0a", "-K0T", "-K0a", "&aK0b", "-&aK0b", "&W0ba", "EK0a", "E-K0a", "CW0a", "!K0ab", "!aW0b", "!-TK0a", "!!-TK0-TT", "&TK0-!TW0c"} {
					f := written(t, text, "", "", agent)
					if agent >= agents {
						missing(t, plainText(f, len(f)-1), m, f)
						continue
					}
					check(t, m, f)
				}
			}
		}
	}
}

func TestTruthOfWhatIsNotValid(t *testing.T) {
	checkWhatIsNotValid(t, checkNoTruth)
}

func TestTruthOfAgentsThatAreMissing(t *testing.T) {
	checkAgentsThatAreMissing(t, func(t *testing.T, m impl.Model, f []impl.Node) {
		checkTruth(t, m, f)
		if _, ok := impl.TruthOf(m, f); !ok {
			t.Errorf("TruthOf %s fails for %d agents", plainText(f, len(f)-1), len(m.Blocks))
		}
	}, checkNoTruth)
}

func TestAreEquivalentIn(t *testing.T) {
	m := twoChildren()
	cases := []struct {
		first  string
		second string
		want   bool
	}{
		{"a", "a", true}, {"a", "--a", true}, {"a", "b", false}, {"a", "-a", false}, {"T", "W0b", true}, {"-T", "K0a", true}, {"c", "d", true},
		{"W0a", "-&-K0a-K0-a", true}, {"K0b", "b", true}, {"K1b", "b", false}, {"&ab", "E-&-a-b", true}, {"a", "&ab", false}, {"&ab", "a", false},
		{"K2a", "K2a", false}, {"K2a", "a", false}, {"a", "W2a", false}, {"K2a", "-T", false}, {"-T", "K2a", false},
	}
	for _, c := range cases {
		if got := impl.AreEquivalentIn(m, read(t, c.first), read(t, c.second)); got != c.want {
			t.Errorf("AreEquivalentIn of %s and %s = %v", c.first, c.second, got)
		}
	}
}

func TestAreEquivalentInOfManyFormulas(t *testing.T) {
	models := append(smallModels(), randomModels()...)
	list := append(formulasUpTo(3), randomFormulas()...)
	for i, f := range list {
		for k := range 10 {
			m := models[(i*7919+k*104729)%len(models)]
			g := list[(i*31+k*977)%len(list)]
			first, firstOk := plainTruth(m, f)
			second, secondOk := plainTruth(m, g)
			want := firstOk && secondOk && slices.Equal(first, second)
			if impl.AreEquivalentIn(m, f, g) != want || impl.AreEquivalentIn(m, g, f) != want || impl.AreEquivalentIn(m, f, f) != firstOk {
				t.Errorf("AreEquivalentIn(%v) of %v and %v is not %v", m, f, g, want)
			}
		}
	}
}

// plainKnowsWhich is a second way to find out whether an agent of a valid model knows all facts.
func plainKnowsWhich(m impl.Model, agent int) bool {
	blocks := m.Blocks[agent]
	for world, facts := range m.Facts {
		if blocks[world] == blocks[m.Actual] && facts != m.Facts[m.Actual] {
			return false
		}
	}
	return true
}

func TestKnowsWhich(t *testing.T) {
	m := impl.Model{Facts: []int{5, 5, 4, 7, 0}, Blocks: [][]int{{0, 0, 1, 1, 2}, {0, 1, 0, 1, 2}, {0, 1, 2, 3, 0}}}
	for world, want := range [][]bool{{true, false, false}, {true, false, true}, {false, false, true}, {false, false, true}, {true, true, false}} {
		at, _ := impl.MoveTo(m, world)
		for agent := range 3 {
			if got := impl.KnowsWhich(at, agent); got != want[agent] {
				t.Errorf("KnowsWhich of agent %d in the world %d = %v", agent, world, got)
			}
		}
	}
	for _, m := range sampleModels() {
		for _, agent := range someNumbers() {
			want := 0 <= agent && agent < len(m.Blocks) && plainKnowsWhich(m, agent)
			if got := impl.KnowsWhich(m, agent); got != want {
				t.Errorf("KnowsWhich(%v, %d) = %v", m, agent, got)
			}
		}
	}
	for name, m := range invalidModels() {
		for _, agent := range []int{-1, 0, 1, 2, 3, math.MinInt, math.MaxInt} {
			if impl.KnowsWhich(m, agent) {
				t.Errorf("KnowsWhich of agent %d is true: %s", agent, name)
			}
		}
	}
}

func TestKnowingWhichIsKnowingWhetherEveryFact(t *testing.T) {
	for _, m := range sampleModels() {
		for agent := range m.Blocks {
			w := "W" + plainFormat(agent)
			f := read(t, "&&"+w+"a"+w+"b&"+w+"c"+w+"d")
			if impl.KnowsWhich(m, agent) != impl.Holds(m, f) {
				t.Errorf("KnowsWhich(%v, %d) is not the truth of %s", m, agent, plainText(f, len(f)-1))
			}
		}
	}
}

// written returns the formula of a law, in which X and Y stand for formulas and 0 for an agent.
func written(t *testing.T, law string, x string, y string, agent int) []impl.Node {
	t.Helper()
	return read(t, strings.NewReplacer("X", x, "Y", y, "0", plainFormat(agent)).Replace(law))
}

// shortFormula returns the text of a formula that is so short that all laws of it can be written.
func shortFormula(d *dice, agents int) string {
	for {
		text := nestedFormula(d, 1+d.below(2), agents)
		if f, ok := impl.ParseFormula(text); ok && len(f) <= 6 {
			return text
		}
	}
}

// forLaws calls a check with models, formulas and agents for which laws have to hold.
func forLaws(check func(m impl.Model, x string, y string, agent int)) {
	d := dice(17)
	for i, m := range sampleModels() {
		if i%5 == 0 || len(m.Facts) > 4 {
			for agent := range m.Blocks {
				check(m, shortFormula(&d, len(m.Blocks)), shortFormula(&d, len(m.Blocks)), agent)
			}
		}
	}
}

func TestLawsOfKnowledge(t *testing.T) {
	same := [][2]string{
		{"K0X", "&XK0X"}, {"K0X", "K0K0X"}, {"-K0X", "K0-K0X"}, {"K0&XY", "&K0XK0Y"}, {"K0T", "T"}, {"K0-T", "-T"},
		{"W0X", "-&-K0X-K0-X"}, {"W0X", "W0-X"}, {"W0X", "K0W0X"}, {"&XW0X", "K0X"},
		{"EX", "&XEX"}, {"EX", "&K0XEX"}, {"ET", "T"}, {"E&XY", "&EXEY"},
		{"CX", "&XECX"}, {"CX", "CCX"}, {"CX", "K0CX"}, {"-CX", "C-CX"}, {"CX", "&EXCX"}, {"CX", "&XCEX"}, {"C&XY", "&CXCY"},
	}
	forLaws(func(m impl.Model, x string, y string, agent int) {
		for _, pair := range same {
			if !impl.AreEquivalentIn(m, written(t, pair[0], x, y, agent), written(t, pair[1], x, y, agent)) {
				t.Errorf("%s and %s differ in %v for %s, %s and agent %d", pair[0], pair[1], m, x, y, agent)
			}
		}
	})
}

func TestWhatEveryoneKnowsIsWhatEachOneKnows(t *testing.T) {
	each := []string{"K0X", "&K0XK1X", "&K0X&K1XK2X"}
	forLaws(func(m impl.Model, x string, y string, agent int) {
		second := read(t, strings.ReplaceAll(each[len(m.Blocks)-1], "X", x))
		if !impl.AreEquivalentIn(m, read(t, "E"+x), second) {
			t.Errorf("E%s and %v differ in %v", x, second, m)
		}
	})
}

func TestCommonKnowledgeIsTheGreatestFixedPoint(t *testing.T) {
	forLaws(func(m impl.Model, x string, y string, agent int) {
		common := read(t, "C"+x)
		if deep := read(t, strings.Repeat("E", 16)+x); !impl.AreEquivalentIn(m, common, deep) {
			t.Errorf("C%s is not what all know that all know and so on in %v", x, m)
		}
		if impl.HoldsEverywhere(m, read(t, "-&"+x+"-E"+x)) && !impl.AreEquivalentIn(m, common, read(t, x)) {
			t.Errorf("C%s and %s differ in %v, though all know it wherever it is true", x, x, m)
		}
		if got, want := impl.WorldsWhere(m, common), reachesOnly(m, impl.WorldsWhere(m, read(t, x))); !slices.Equal(got, want) {
			t.Errorf("C%s is true in %v of %v, want %v", x, got, m, want)
		}
	})
}

// reachesOnly returns the worlds from which only some worlds are reached.
func reachesOnly(m impl.Model, worlds []int) []int {
	var all []int
	for world := range m.Facts {
		out := slices.ContainsFunc(impl.ReachedFrom(m, world), func(w int) bool { return !slices.Contains(worlds, w) })
		if !out {
			all = append(all, world)
		}
	}
	return all
}

func TestKnowledgeOnALongModel(t *testing.T) {
	m := longModel()
	for world := range m.Facts {
		m.Facts[world] = min(world, 1)
	}
	for k := range 20 {
		deep := read(t, strings.Repeat("E", k)+"a")
		if got, want := impl.WorldsWhere(m, deep), numbers(k+1, 15); !slices.Equal(got, want) {
			t.Errorf("with %d times E, a is true in %v, want %v", k, got, want)
		}
	}
	if got := impl.WorldsWhere(m, read(t, "Ca")); len(got) != 0 {
		t.Errorf("a is common knowledge in %v", got)
	}
	if !impl.HoldsEverywhere(m, read(t, "!aCa")) || !impl.HoldsEverywhere(m, read(t, "C!aCa")) {
		t.Error("a is not common knowledge after it has been announced")
	}
}

func TestLawsOfAnnouncements(t *testing.T) {
	same := [][2]string{
		{"!XT", "T"}, {"!X-T", "-X"}, {"!TX", "X"}, {"!-TX", "T"}, {"!Xa", "-&X-a"}, {"!Xb", "-&X-b"}, {"!Xd", "-&X-d"},
		{"!X-Y", "-&X!XY"}, {"!X&Ya", "&!XY!Xa"}, {"!XK0Y", "-&X-K0!XY"}, {"!XW0Y", "-&X&-K0!XY-K0!X-Y"}, {"!XEY", "-&X-E!XY"},
		{"!X!Yb", "!&X!XYb"}, {"!X!YK0a", "!&X!XYK0a"}, {"!X!YCa", "!&X!XYCa"}, {"!aCa", "T"}, {"!-&-a-bC-&-a-b", "T"},
	}
	forLaws(func(m impl.Model, x string, y string, agent int) {
		for _, pair := range same {
			if !impl.AreEquivalentIn(m, written(t, pair[0], x, y, agent), written(t, pair[1], x, y, agent)) {
				t.Errorf("%s and %s differ in %v for %s, %s and agent %d", pair[0], pair[1], m, x, y, agent)
			}
		}
	})
}

func TestAnnouncementsLeaveWorldsOut(t *testing.T) {
	forLaws(func(m impl.Model, x string, y string, agent int) {
		worlds := impl.WorldsWhere(m, read(t, x))
		after := read(t, "!"+x+y)
		for world := range m.Facts {
			at, _ := impl.MoveTo(m, world)
			left, ok := impl.RestrictModel(at, worlds)
			if want := !ok || impl.Holds(left, read(t, y)); impl.Holds(at, after) != want {
				t.Errorf("!%s%s is not %v in the world %d of %v", x, y, want, world, m)
			}
		}
	})
}

const markedOp = 101

// roomyFormula returns a copy of a list of nodes with marks behind its end.
func roomyFormula(f []impl.Node) []impl.Node {
	return append(slices.Clone(f), impl.Node{Op: markedOp}, impl.Node{Op: markedOp})[:len(f)]
}

// isRoomyFormula reports whether a list and the marks behind it are still as roomyFormula has made them.
func isRoomyFormula(f []impl.Node, want []impl.Node) bool {
	n := len(want)
	whole := f[:n+2]
	return slices.Equal(whole[:n], want) && whole[n] == impl.Node{Op: markedOp} && whole[n+1] == impl.Node{Op: markedOp}
}

// callAllWith calls every function of the layer, and returns the lists that it gets.
func callAllWith(m impl.Model, f []impl.Node, g []impl.Node) ([]bool, []int) {
	impl.Holds(m, f)
	impl.HoldsEverywhere(m, f)
	impl.AreEquivalentIn(m, f, g)
	impl.KnowsWhich(m, 0)
	truth, _ := impl.TruthOf(m, f)
	return truth, impl.WorldsWhere(m, f)
}

// forArguments calls a function with many models and formulas, valid or not.
func forArguments(call func(m impl.Model, f []impl.Node, g []impl.Node)) {
	models := append(smallModels(), randomModels()...)
	for _, m := range invalidModels() {
		models = append(models, m)
	}
	formulas := append(formulasUpTo(2), randomFormulas()...)
	for _, f := range invalidLists() {
		formulas = append(formulas, f)
	}
	for i := range 4000 {
		call(models[i%len(models)], formulas[i*7%len(formulas)], formulas[i*31%len(formulas)])
	}
}

func TestTruthArgumentsAreNotModified(t *testing.T) {
	forArguments(func(m impl.Model, f []impl.Node, g []impl.Node) {
		model, first, second := roomyModel(m), roomyFormula(f), roomyFormula(g)
		callAllWith(model, first, second)
		callAllWith(model, first, first)
		if !isRoomyModel(model, m) || !isRoomyFormula(first, f) || !isRoomyFormula(second, g) {
			t.Errorf("an argument or the room behind it was changed: %d worlds, %d nodes", len(m.Facts), len(f))
		}
	})
}

func TestTruthResultsAreNew(t *testing.T) {
	models := append(smallModels(), randomModels()...)
	formulas := randomFormulas()
	for i := range 4000 {
		m, f := models[i%len(models)], formulas[i*7%len(formulas)]
		before, formulaBefore := copyModel(m), slices.Clone(f)
		keptTruth, keptWorlds := callAllWith(m, f, f)
		wantTruth, wantWorlds := slices.Clone(keptTruth), slices.Clone(keptWorlds)
		truth, worlds := callAllWith(m, f, f)
		if !slices.Equal(truth, wantTruth) || !slices.Equal(worlds, wantWorlds) {
			t.Errorf("the results for %v and %v differ from call to call", m, f)
		}
		for w := range truth[:cap(truth)] {
			truth[:cap(truth)][w] = !truth[:cap(truth)][w]
		}
		for k := range worlds[:cap(worlds)] {
			worlds[:cap(worlds)][k] = -1
		}
		if !slices.Equal(keptTruth, wantTruth) || !slices.Equal(keptWorlds, wantWorlds) {
			t.Errorf("two results for %v and %v share memory", m, f)
		}
		if !equalModels(m, before) || !slices.Equal(f, formulaBefore) {
			t.Errorf("a result shares memory with the arguments %v and %v", before, formulaBefore)
		}
	}
}
