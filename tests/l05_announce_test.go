package tests

import (
	"fmt"
	"slices"
	"strings"
	"testing"

	"loop.example/g00945/impl"
)

// plainAnnounce is a second way to announce a valid formula in a valid model.
func plainAnnounce(m impl.Model, f []impl.Node) (impl.Model, bool) {
	truth, ok := plainTruth(m, f)
	if !ok || !truth[m.Actual] {
		return impl.Model{}, false
	}
	return plainRestrict(m, worldsOf(truth)), true
}

// plainHolds is a second way to find out whether a valid formula is true in the actual world of a valid model.
func plainHolds(m impl.Model, f []impl.Node) bool {
	truth, ok := plainTruth(m, f)
	return ok && truth[m.Actual]
}

// plainSilent is a second way to find out whether the announcement of a valid formula tells nobody anything.
func plainSilent(m impl.Model, f []impl.Node) bool {
	truth, ok := plainTruth(m, f)
	return ok && !slices.ContainsFunc(plainReached(m, m.Actual), func(world int) bool { return !truth[world] })
}

// checkAnnounced compares what the functions of one formula say with the second way.
func checkAnnounced(t *testing.T, m impl.Model, f []impl.Node) {
	t.Helper()
	want, wantOk := plainAnnounce(m, f)
	label := fmt.Sprintf("(%v, %s)", m, plainText(f, len(f)-1))
	got, ok := impl.Announce(m, f)
	checkModel(t, "Announce"+label, got, ok, want, wantOk)
	got, ok = impl.AnnounceAll(m, [][]impl.Node{f})
	checkModel(t, "AnnounceAll"+label, got, ok, want, wantOk)
	if got := impl.WorldsLeft(m, f); got != len(want.Facts) {
		t.Errorf("WorldsLeft%s = %d, want %d", label, got, len(want.Facts))
	}
	if got := impl.StaysTrue(m, f); got != (wantOk && plainHolds(want, f)) {
		t.Errorf("StaysTrue%s = %v", label, got)
	}
	if got, want := impl.IsSilent(m, f), plainSilent(m, f); got != want {
		t.Errorf("IsSilent%s = %v", label, got)
	}
}

// checkMeets compares MeetsAfter with the second way to announce.
func checkMeets(t *testing.T, m impl.Model, f []impl.Node, g []impl.Node) {
	t.Helper()
	_, firstOk := plainTruth(m, f)
	_, secondOk := plainTruth(m, g)
	left, ok := plainAnnounce(m, f)
	want := firstOk && secondOk && len(f)+len(g) < 40 && (!ok || plainHolds(left, g))
	if got := impl.MeetsAfter(m, f, g); got != want {
		t.Errorf("MeetsAfter(%v, %s, %s) = %v", m, plainText(f, len(f)-1), plainText(g, len(g)-1), got)
	}
}

// checkAll compares AnnounceAll with announcements one after the other.
func checkAll(t *testing.T, m impl.Model, list [][]impl.Node) {
	t.Helper()
	want, wantOk := m, len(list) <= 20
	for _, f := range list {
		if wantOk {
			want, wantOk = plainAnnounce(want, f)
		}
	}
	got, ok := impl.AnnounceAll(m, list)
	checkModel(t, fmt.Sprintf("AnnounceAll(%v) of %d formulas", m, len(list)), got, ok, want, wantOk)
}

// checkNoAnnouncement checks that every function fails for a model and a formula.
func checkNoAnnouncement(t *testing.T, label string, m impl.Model, f []impl.Node) {
	t.Helper()
	truth := []impl.Node{{Op: impl.OpTrue}}
	falsehood := []impl.Node{{Op: impl.OpTrue}, {Op: impl.OpNot}}
	got, ok := impl.Announce(m, f)
	checkModel(t, "Announce of "+label, got, ok, impl.Model{}, false)
	for _, list := range [][][]impl.Node{{f}, {f, truth}, {truth, f}, {f, f}, {f, falsehood}, {truth, truth, f, truth}} {
		got, ok = impl.AnnounceAll(m, list)
		checkModel(t, "AnnounceAll of "+label, got, ok, impl.Model{}, false)
	}
	if got := impl.WorldsLeft(m, f); got != 0 {
		t.Errorf("WorldsLeft is %d: %s", got, label)
	}
	if impl.StaysTrue(m, f) || impl.IsSilent(m, f) {
		t.Errorf("StaysTrue or IsSilent is true: %s", label)
	}
	for _, pair := range [][2][]impl.Node{{f, f}, {f, truth}, {truth, f}, {falsehood, f}, {f, falsehood}} {
		if impl.MeetsAfter(m, pair[0], pair[1]) {
			t.Errorf("MeetsAfter is true: %s", label)
		}
	}
}

// readAll returns the formulas with the texts that are separated by spaces.
func readAll(t *testing.T, texts string) [][]impl.Node {
	t.Helper()
	var list [][]impl.Node
	for _, text := range strings.Fields(texts) {
		list = append(list, read(t, text))
	}
	return list
}

// threeChildren is the model of three children who see the foreheads of each other, of whom all are dirty.
func threeChildren() impl.Model {
	return impl.Model{
		Facts:  numbers(0, 7),
		Blocks: [][]int{{0, 0, 1, 1, 2, 2, 3, 3}, {0, 1, 0, 1, 2, 3, 2, 3}, {0, 1, 2, 3, 0, 1, 2, 3}},
		Actual: 7,
	}
}

// twoParts is the model of four worlds of which the first two are not reached from the others, and a is false in the
// world 1 alone.
func twoParts(actual int) impl.Model {
	return impl.Model{Facts: []int{1, 0, 1, 3}, Blocks: [][]int{{0, 0, 1, 1}, {0, 1, 2, 2}}, Actual: actual}
}

func TestAnnounce(t *testing.T) {
	cases := []struct {
		text string
		want impl.Model
	}{
		{"T", twoChildren()},
		{"W0b", twoChildren()},
		{"-&-a-b", impl.Model{Facts: []int{1, 2, 3}, Blocks: [][]int{{0, 1, 1}, {0, 1, 0}}, Actual: 2}},
		{"a", impl.Model{Facts: []int{1, 3}, Blocks: [][]int{{0, 1}, {0, 0}}, Actual: 1}},
		{"b", impl.Model{Facts: []int{2, 3}, Blocks: [][]int{{0, 0}, {0, 1}}, Actual: 1}},
		{"-K0a", twoChildren()},
		{"K1a", impl.Model{Facts: []int{1, 3}, Blocks: [][]int{{0, 1}, {0, 0}}, Actual: 1}},
		{"&ab", impl.Model{Facts: []int{3}, Blocks: [][]int{{0}, {0}}}},
		{"E-&-a-b", impl.Model{Facts: []int{3}, Blocks: [][]int{{0}, {0}}}},
		{"!-&-a-b-K0a", impl.Model{Facts: []int{0, 2, 3}, Blocks: [][]int{{0, 1, 1}, {0, 0, 1}}, Actual: 2}},
		{"-&a-b", impl.Model{Facts: []int{0, 2, 3}, Blocks: [][]int{{0, 1, 1}, {0, 0, 1}}, Actual: 2}},
	}
	for _, c := range cases {
		f := read(t, c.text)
		got, ok := impl.Announce(twoChildren(), f)
		checkModel(t, "Announce "+c.text, got, ok, c.want, true)
		if got := impl.WorldsLeft(twoChildren(), f); got != len(c.want.Facts) {
			t.Errorf("WorldsLeft %s = %d, want %d", c.text, got, len(c.want.Facts))
		}
	}
}

func TestAnnounceWhatIsFalse(t *testing.T) {
	for _, text := range []string{"-a", "-T", "&a-b", "c", "K0a", "C-&-a-b", "!a-T", "&aK0a", "W1b"} {
		m, f := twoChildren(), read(t, text)
		got, ok := impl.Announce(m, f)
		checkModel(t, "Announce "+text, got, ok, impl.Model{}, false)
		if impl.WorldsLeft(m, f) != 0 || impl.StaysTrue(m, f) || impl.IsSilent(m, f) {
			t.Errorf("%s can be announced, though it is false", text)
		}
	}
	for actual := range 4 {
		m := twoParts(actual)
		got, ok := impl.Announce(m, read(t, "a"))
		want := impl.Model{Facts: []int{1, 1, 3}, Blocks: [][]int{{0, 1, 1}, {0, 1, 1}}, Actual: max(actual-1, 0)}
		checkModel(t, "Announce a", got, ok, want, actual != 1)
	}
}

func TestAnnounceInTheModelWithAllWorlds(t *testing.T) {
	free, _ := impl.FreeModel(4, 3)
	for world := range 16 {
		m, _ := impl.MoveTo(free, world)
		for _, text := range []string{"T", "a", "b", "-c", "-d", "&ab", "-&-c-d", "&&ab&cd", "&&-a-b&-c-d", "-K0a", "-K2-T", "-Cd"} {
			checkAnnounced(t, m, read(t, text))
		}
	}
}

func TestAnnounceAllShortFormulas(t *testing.T) {
	checkShort(t, checkAnnounced, 3)
}

func TestAnnounceLongFormulas(t *testing.T) {
	checkSome(t, checkAnnounced, randomFormulas(), append(randomModels(), longModel(), threeChildren()))
}

func TestAnnounceNestedFormulas(t *testing.T) {
	d := dice(19)
	for _, m := range append(randomModels(), longModel(), twoChildren(), threeChildren()) {
		for depth := 1; depth <= 5; depth++ {
			for range 6 {
				f := read(t, nestedFormula(&d, depth, len(m.Blocks)))
				checkAnnounced(t, m, f)
				// One of a formula and its negation can be announced.
				if g, ok := impl.Negate(f); ok {
					checkAnnounced(t, m, g)
				}
			}
		}
	}
}

func TestAnnounceWhatIsNotValid(t *testing.T) {
	checkWhatIsNotValid(t, checkNoAnnouncement)
}

func TestAnnounceWhatNamesMissingAgents(t *testing.T) {
	checkAgentsThatAreMissing(t, checkAnnounced, checkNoAnnouncement)
}

func TestStaysTrue(t *testing.T) {
	cases := []struct {
		text string
		want bool
	}{
		{"a", true}, {"T", true}, {"-K0a", true}, {"&aK1a", true}, {"-a", false}, {"-T", false}, {"K0a", false}, {"K2a", false},
		{"&b-K1b", false}, {"&a-K0a", false}, {"-&-aK0b", true}, {"-W0a", true}, {"-&-a-b", true}, {"-C-&-a-b", true},
		{"&-&-a-b-C-&-a-b", false}, {"-&-&a-K0a-&b-K1b", true}, {"!aCa", true}, {"!-a-T", true},
	}
	for _, c := range cases {
		if got := impl.StaysTrue(twoChildren(), read(t, c.text)); got != c.want {
			t.Errorf("StaysTrue %s = %v", c.text, got)
		}
	}
}

func TestWhatAnAgentDoesNotKnowIsNotSuccessful(t *testing.T) {
	for agents := 1; agents <= 3; agents++ {
		free, _ := impl.FreeModel(2, agents)
		m, _ := impl.MoveTo(free, 3)
		for agent := range agents {
			f := written(t, "&a-K0a", "", "", agent)
			if !impl.Holds(m, f) || impl.StaysTrue(m, f) || impl.IsSilent(m, f) || impl.WorldsLeft(m, f) != 2 {
				t.Errorf("the announcement that agent %d does not know a is successful", agent)
			}
			if !impl.MeetsAfter(m, f, written(t, "K0a", "", "", agent)) || !impl.MeetsAfter(m, f, read(t, "Ca")) || impl.MeetsAfter(m, f, f) {
				t.Errorf("agent %d does not learn a", agent)
			}
			told, _ := impl.TellFact(m, agent, 0)
			if impl.Holds(told, f) || impl.StaysTrue(told, f) || impl.WorldsLeft(told, f) != 0 || !impl.MeetsAfter(told, f, read(t, "-T")) {
				t.Errorf("it can be announced that agent %d does not know a, who knows it", agent)
			}
		}
	}
}

// plainFormulas are texts of formulas of facts alone.
const plainFormulas = "a b c d -a -b -c -d T &ab -&ab &a-b -&-a-b -&-cd --a"

func TestFactsStayTrueAndBecomeCommonKnowledge(t *testing.T) {
	for _, m := range sampleModels() {
		for _, f := range readAll(t, plainFormulas) {
			holds := impl.Holds(m, f)
			if impl.StaysTrue(m, f) != holds {
				t.Errorf("StaysTrue(%v, %v) is not %v", m, f, holds)
			}
			for _, head := range []string{"C", "E", "K0", "W0"} {
				if !impl.MeetsAfter(m, f, read(t, head+plainText(f, len(f)-1))) {
					t.Errorf("%v does not become known (%s) in %v", f, head, m)
				}
			}
		}
	}
}

func TestIsSilent(t *testing.T) {
	cases := []struct {
		text string
		want []bool
	}{
		{"T", []bool{true, true, true, true}},
		{"-T", []bool{false, false, false, false}},
		{"a", []bool{false, false, true, true}},
		{"b", []bool{false, false, false, false}},
		{"-b", []bool{true, true, false, false}},
		{"K0a", []bool{false, false, true, true}},
		{"-K0a", []bool{true, true, false, false}},
		{"W1a", []bool{true, true, true, true}},
		{"W2a", []bool{false, false, false, false}},
		{"Ca", []bool{false, false, true, true}},
		{"!-ab", []bool{false, false, true, true}},
	}
	for _, c := range cases {
		for actual, want := range c.want {
			if got := impl.IsSilent(twoParts(actual), read(t, c.text)); got != want {
				t.Errorf("IsSilent %s in the world %d = %v", c.text, actual, got)
			}
		}
	}
	m := longModel()
	for far := range 15 {
		m.Facts = slices.Repeat([]int{1}, 16)
		m.Facts[far] = 0
		if impl.IsSilent(m, read(t, "a")) || !impl.IsSilent(m, read(t, "T")) || impl.WorldsLeft(m, read(t, "a")) != 15 {
			t.Errorf("the announcement of a, which is false in the world %d alone, is silent", far)
		}
	}
}

func TestWhatIsSilentIsCommonKnowledgeAndChangesNothing(t *testing.T) {
	silent := 0
	forLaws(func(m impl.Model, x string, y string, agent int) {
		f, g := read(t, x), read(t, y)
		is := impl.IsSilent(m, f)
		if is != impl.Holds(m, read(t, "C"+x)) {
			t.Errorf("IsSilent(%v, %s) = %v", m, x, is)
		}
		if !is {
			return
		}
		silent++
		left, ok := impl.Announce(m, f)
		if !ok || !impl.StaysTrue(m, f) || impl.Holds(left, g) != impl.Holds(m, g) || impl.MeetsAfter(m, f, g) != impl.Holds(m, g) {
			t.Errorf("the announcement of %s changes whether %s is true in %v", x, y, m)
		}
	})
	if silent < 100 {
		t.Errorf("only %d announcements are silent", silent)
	}
}

func TestMeetsAfter(t *testing.T) {
	cases := []struct {
		first  string
		second string
		want   bool
	}{
		{"a", "a", true}, {"a", "b", true}, {"a", "-a", false}, {"T", "K0b", true}, {"T", "K0a", false}, {"a", "K0a", true}, {"b", "K0a", false},
		{"-a", "-T", true}, {"-T", "-T", true}, {"-a", "a", true}, {"-T", "K0-T", true}, {"T", "-T", false}, {"a", "-T", false},
		{"-&-a-b", "C-&-a-b", true}, {"-&-a-b", "K0a", false}, {"-&-a-b", "!-W0aK0a", false}, {"-&-a-b", "!-W0aK1b", true},
		{"&a-K0a", "K0a", true}, {"&a-K0a", "&a-K0a", false},
		{"K2a", "T", false}, {"T", "K2a", false}, {"-T", "K2a", false}, {"-T", "W2T", false}, {"K2T", "-T", false},
	}
	for _, c := range cases {
		if got := impl.MeetsAfter(twoChildren(), read(t, c.first), read(t, c.second)); got != c.want {
			t.Errorf("MeetsAfter of %s and %s = %v", c.first, c.second, got)
		}
	}
}

func TestMeetsAfterOfTheGreatestSize(t *testing.T) {
	for n := 1; n <= 41; n++ {
		for k := 1; k <= 41; k++ {
			// A chain is true if its length is odd, and what is false can be followed by anything.
			want := n+k < 40 && (n%2 == 0 || k%2 == 1)
			if got := impl.MeetsAfter(twoChildren(), chain(n), chain(k)); got != want {
				t.Errorf("MeetsAfter of %d and %d nodes = %v", n, k, got)
			}
		}
	}
}

func TestMeetsAfterOfManyFormulas(t *testing.T) {
	models := append(sampleModels(), twoChildren(), threeChildren())
	list := append(formulasUpTo(3), randomFormulas()...)
	for i, f := range list {
		for k := range 6 {
			m := models[(i*7919+k*104729)%len(models)]
			checkMeets(t, m, f, list[(i*31+k*977)%len(list)])
		}
	}
	forLaws(func(m impl.Model, x string, y string, agent int) {
		checkMeets(t, m, read(t, x), read(t, y))
		checkMeets(t, m, read(t, y), read(t, x))
		checkMeets(t, m, read(t, x), read(t, x))
	})
}

func TestAnnouncementsDoWhatTheirFormulasSay(t *testing.T) {
	forLaws(func(m impl.Model, x string, y string, agent int) {
		f, g := read(t, x), read(t, y)
		left, ok := impl.Announce(m, f)
		if ok != impl.Holds(m, f) || impl.WorldsLeft(m, f) != impl.CountWorlds(left) {
			t.Errorf("Announce(%v, %s) = %v, %v", m, x, left, ok)
		}
		if want := !ok || impl.Holds(left, g); impl.MeetsAfter(m, f, g) != want || impl.Holds(m, read(t, "!"+x+y)) != want {
			t.Errorf("MeetsAfter(%v, %s, %s) is not %v", m, x, y, want)
		}
		if restricted, same := impl.RestrictModel(m, impl.WorldsWhere(m, f)); same != ok || !impl.SameModel(restricted, left) {
			t.Errorf("Announce(%v, %s) = %v, want %v", m, x, left, restricted)
		}
		if impl.StaysTrue(m, f) != (ok && impl.MeetsAfter(m, f, f)) {
			t.Errorf("StaysTrue(%v, %s) is not %v", m, x, ok && impl.MeetsAfter(m, f, f))
		}
		both := read(t, "&"+x+"!"+x+y)
		first, firstOk := impl.AnnounceAll(m, [][]impl.Node{f, g})
		second, secondOk := impl.Announce(m, both)
		if firstOk != secondOk || !impl.SameModel(first, second) {
			t.Errorf("%s and then %s leave %v of %v, and both at once %v", x, y, first, m, second)
		}
	})
}

func TestAnnounceAll(t *testing.T) {
	one := impl.Model{Facts: []int{3}, Blocks: [][]int{{0}, {0}}}
	cases := []struct {
		texts string
		want  impl.Model
		ok    bool
	}{
		{"", twoChildren(), true},
		{"T T", twoChildren(), true},
		{"a b", one, true},
		{"b a", one, true},
		{"-&-a-b -W0a", impl.Model{Facts: []int{2, 3}, Blocks: [][]int{{0, 0}, {0, 1}}, Actual: 1}, true},
		{"-&-a-b &-W0a-W1b", one, true},
		{"-&-a-b &-W0a-W1b &K0aK1b C&ab", one, true},
		{"-&-a-b &-W0a-W1b &-W0a-W1b", impl.Model{}, false},
		{"&-W0a-W1b &-W0a-W1b", twoChildren(), true},
		{"-K0a a", impl.Model{Facts: []int{1, 3}, Blocks: [][]int{{0, 1}, {0, 0}}, Actual: 1}, true},
		{"a -K0a", impl.Model{}, false},
		{"&a-K0a &a-K0a", impl.Model{}, false},
		{"&a-K0a &b-K1b", one, true},
		{"-a", impl.Model{}, false},
		{"a -b", impl.Model{}, false},
		{"-a b", impl.Model{}, false},
		{"a -b b", impl.Model{}, false},
		{"a K2a", impl.Model{}, false},
		{"K2T a", impl.Model{}, false},
	}
	for _, c := range cases {
		got, ok := impl.AnnounceAll(twoChildren(), readAll(t, c.texts))
		checkModel(t, "AnnounceAll "+c.texts, got, ok, c.want, c.ok)
	}
}

func TestAnnounceAllOfThreeChildren(t *testing.T) {
	m := threeChildren()
	nobody := "&-W0a&-W1b-W2c"
	for k, want := range []int{8, 7, 4, 1, 0} {
		list := readAll(t, "-&-a&-b-c "+nobody+" "+nobody+" &W0a&W1bW2c")[:min(k, 4)]
		if k == 4 {
			list[3] = read(t, nobody)
		}
		got, ok := impl.AnnounceAll(m, list)
		if ok != (want > 0) || len(got.Facts) != want {
			t.Errorf("after %d announcements %v is left, %v, want %d worlds", k, got, ok, want)
		}
	}
}

func TestAnnounceAllOfManyFormulas(t *testing.T) {
	m := twoChildren()
	for n := range 60 {
		truths := slices.Repeat(readAll(t, "T"), n)
		got, ok := impl.AnnounceAll(m, truths)
		checkModel(t, fmt.Sprintf("AnnounceAll of %d formulas", n), got, ok, m, n <= 20)
		for i := range n {
			withFact := slices.Clone(truths)
			withFact[i] = read(t, "a")
			checkAll(t, m, withFact)
			withFact[i] = read(t, "-a")
			checkAll(t, m, withFact)
			withFact[i] = nil
			got, ok = impl.AnnounceAll(m, withFact)
			checkModel(t, fmt.Sprintf("AnnounceAll with nil as formula %d of %d", i, n), got, ok, impl.Model{}, false)
		}
	}
}

func TestAnnounceAllTakesALongModelApart(t *testing.T) {
	m := longModel()
	m.Actual = 7
	// Nobody knows all facts: this leaves out the worlds at both ends, again and again.
	nobody := "&-&W0a&W0b&W0cW0d-&W1a&W1b&W1cW1d"
	for n := range 22 {
		list := slices.Repeat(readAll(t, nobody), n)
		got, ok := impl.AnnounceAll(m, list)
		if want := max(16-2*n, 0); ok != (want > 0) || len(got.Facts) != want || ok && !slices.Equal(got.Facts, numbers(n, 15-n)) {
			t.Errorf("after %d announcements %v is left, %v, want %d worlds", n, got, ok, want)
		}
		checkAll(t, m, list)
	}
}

func TestAnnounceAllOfManyLists(t *testing.T) {
	d := dice(23)
	for _, m := range append(sampleModels(), twoChildren(), threeChildren()) {
		var list [][]impl.Node
		for range d.below(5) {
			list = append(list, read(t, nestedFormula(&d, d.below(3), len(m.Blocks))))
		}
		checkAll(t, m, list)
		// Formulas that are true when their turn comes, so that the whole list can be announced.
		left := m
		var good [][]impl.Node
		for range 2 + d.below(4) {
			text := nestedFormula(&d, d.below(3), len(m.Blocks))
			if !plainHolds(left, read(t, text)) {
				text = "-" + text
			}
			good = append(good, read(t, text))
			left, _ = plainAnnounce(left, good[len(good)-1])
		}
		got, ok := impl.AnnounceAll(m, good)
		checkModel(t, fmt.Sprintf("AnnounceAll(%v) of true formulas", m), got, ok, left, true)
	}
}

func TestAnnounceAllOfNothing(t *testing.T) {
	for _, list := range [][][]impl.Node{nil, {}} {
		for _, m := range sampleModels() {
			got, ok := impl.AnnounceAll(m, list)
			checkModel(t, "AnnounceAll of nothing", got, ok, m, true)
		}
		for name, m := range invalidModels() {
			got, ok := impl.AnnounceAll(m, list)
			checkModel(t, "AnnounceAll of nothing in "+name, got, ok, impl.Model{}, false)
		}
	}
}

// callAllAnnouncements calls every function of the layer, and returns the models that it gets.
func callAllAnnouncements(m impl.Model, f []impl.Node, g []impl.Node, list [][]impl.Node) []impl.Model {
	impl.StaysTrue(m, f)
	impl.IsSilent(m, f)
	impl.MeetsAfter(m, f, g)
	impl.WorldsLeft(m, f)
	one, _ := impl.Announce(m, f)
	nothing, _ := impl.AnnounceAll(m, nil)
	all, _ := impl.AnnounceAll(m, list)
	return []impl.Model{one, nothing, all}
}

func TestAnnouncementArgumentsAreNotModified(t *testing.T) {
	mark := []impl.Node{{Op: markedOp}}
	forArguments(func(m impl.Model, f []impl.Node, g []impl.Node) {
		model, first, second := roomyModel(m), roomyFormula(f), roomyFormula(g)
		list := [][]impl.Node{first, second, first, mark, mark}
		callAllAnnouncements(model, first, second, list[:3])
		callAllAnnouncements(model, first, first, list[:1])
		if !isRoomyModel(model, m) || !isRoomyFormula(first, f) || !isRoomyFormula(second, g) {
			t.Errorf("an argument or the room behind it was changed: %d worlds, %d nodes", len(m.Facts), len(f))
		}
		if !slices.EqualFunc(list, [][]impl.Node{f, g, f, mark, mark}, slices.Equal[[]impl.Node]) {
			t.Errorf("a list of formulas or the room behind it was changed: %d worlds, %d nodes", len(m.Facts), len(f))
		}
	})
}

func TestAnnouncementResultsAreNew(t *testing.T) {
	truth := []impl.Node{{Op: impl.OpTrue}}
	for i, m := range sampleModels() {
		// No world is left out, so that the model itself would be a right result but for its memory.
		list := slices.Repeat([][]impl.Node{truth}, 1+i%3)
		before := copyModel(m)
		kept := callAllAnnouncements(m, truth, truth, list)
		want := slicesOf(callAllAnnouncements(before, truth, truth, list), nil)
		checkNew(t, before, kept, nil, want)
		if !equalModels(m, before) || !slices.Equal(truth, []impl.Node{{Op: impl.OpTrue}}) {
			t.Fatalf("a result shares memory with the argument %v", before)
		}
		if again := slicesOf(callAllAnnouncements(m, truth, truth, list), nil); !slices.EqualFunc(again, want, slices.Equal[[]int]) {
			t.Fatalf("the results for %v differ from call to call", before)
		}
	}
}
