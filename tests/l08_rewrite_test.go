package tests

import (
	"slices"
	"strings"
	"testing"

	"loop.example/g00945/impl"
)

// partsOf returns the text of a node at an index of a valid formula without those of its parts, and the indices of these.
func partsOf(f []impl.Node, i int) (string, []int) {
	node := f[i]
	indices := []int{node.A, node.B}[:parts(node)]
	text := plainText(f, i)
	if node.Op == impl.OpKnow || node.Op == impl.OpWhether {
		return text[:2], indices
	}
	return text[:1], indices
}

// afterSize is a second way to find how many nodes the rewritten formula has that the part of a formula at an index is true
// after the announcement of a formula with so many nodes.
func afterSize(announced int, f []impl.Node, i int) int {
	node := f[i]
	switch node.Op {
	case impl.OpTrue:
		return 1
	case impl.OpFact:
		return announced + 4
	}
	inner := afterSize(announced, f, node.A)
	switch node.Op {
	case impl.OpNot:
		return announced + inner + 2
	case impl.OpAnd:
		return inner + afterSize(announced, f, node.B) + 1
	case impl.OpWhether:
		return 2*announced + 2*inner + 9
	}
	return announced + inner + 4
}

// plainAfter is a second way to write the rewritten formula that the part of a formula at an index is true after an
// announcement. It must be known that it is short enough.
func plainAfter(announced string, f []impl.Node, i int) string {
	node := f[i]
	law := map[int]string{
		impl.OpFact: "-&X-Y", impl.OpTrue: "T", impl.OpNot: "-&XY", impl.OpAnd: "&YZ",
		impl.OpKnow: "-&X-K0Y", impl.OpWhether: "-&X&-K0Y-K0-&XY", impl.OpEvery: "-&X-EY",
	}[node.Op]
	texts := []string{plainText(f, i), ""}
	_, indices := partsOf(f, i)
	for k, index := range indices {
		texts[k] = plainAfter(announced, f, index)
	}
	return strings.NewReplacer("X", announced, "Y", texts[0], "Z", texts[1], "0", plainFormat(node.N)).Replace(law)
}

// plainRewrite is a second way to write the part of a valid formula at an index without announcements; the text is empty
// if there is none.
func plainRewrite(t *testing.T, f []impl.Node, i int) string {
	t.Helper()
	head, indices := partsOf(f, i)
	texts := []string{head}
	for _, index := range indices {
		text := plainRewrite(t, f, index)
		if text == "" {
			return ""
		}
		texts = append(texts, text)
	}
	switch head {
	case "C":
		return ""
	case "!":
		b := read(t, texts[2])
		if afterSize(countNodes(texts[1]), b, len(b)-1) > 40 {
			return ""
		}
		return plainAfter(texts[1], b, len(b)-1)
	}
	text := strings.Join(texts, "")
	return unlessLong(text, countNodes(text))
}

// checkRewrittenAs compares what the functions say of a formula with the text of the rewritten one, or with a failure if
// this is empty.
func checkRewrittenAs(t *testing.T, f []impl.Node, want string) {
	t.Helper()
	text := plainText(f, len(f)-1)
	got, ok := impl.Rewrite(f)
	checkBuilt(t, "Rewrite "+text, got, ok, want)
	if impl.HasAnnouncements(got) {
		t.Errorf("Rewrite %s has announcements", text)
	}
	growth := 0
	if want != "" {
		growth = countNodes(want) - countNodes(text)
	}
	if got := impl.GrowthOf(f); got != growth {
		t.Errorf("GrowthOf(%s) = %d, want %d", text, got, growth)
	}
}

// checkRewritten compares what the functions say of a formula with the second way, and reports whether it is rewritten.
func checkRewritten(t *testing.T, f []impl.Node) bool {
	t.Helper()
	want := plainRewrite(t, f, len(f)-1)
	checkRewrittenAs(t, f, want)
	return want != ""
}

// announcingFormulas returns texts of formulas with announcements and without OpCommon.
func announcingFormulas() []string {
	var all []string
	for n := 3; n <= 6; n++ {
		for _, text := range textsFrom("b T", "- K1 W0 E", "& !", n) {
			if strings.Contains(text, "!") {
				all = append(all, text)
			}
		}
	}
	return all
}

func TestRewrite(t *testing.T) {
	for text, want := range map[string]string{
		// Without announcements, nothing changes.
		"a": "a", "T": "T", "-d": "-d", "&ab": "&ab", "K0a": "K0a", "W2-a": "W2-a", "EEa": "EEa", "--&TT": "--&TT", "K0T": "K0T",
		// The rules, by what is true after the announcement.
		"!ab": "-&a-b", "!aa": "-&a-a", "!Td": "-&T-d", "!aT": "T", "!TT": "T",
		"!a-b": "-&a-&a-b", "!a-T": "-&aT", "!a--T": "-&a-&aT",
		"!a&bc": "&-&a-b-&a-c", "!a&TT": "&TT", "!a&bT": "&-&a-bT", "!a&Tb": "&T-&a-b", "!a&b&cd": "&-&a-b&-&a-c-&a-d",
		"!aK0b": "-&a-K0-&a-b", "!aK2b": "-&a-K2-&a-b", "!aK1T": "-&a-K1T", "!aK0K1b": "-&a-K0-&a-K1-&a-b",
		"!aW0b": "-&a&-K0-&a-b-K0-&a-&a-b", "!aW2T": "-&a&-K2T-K2-&aT", "!TW1-b": "-&T&-K1-&T-&T-b-K1-&T-&T-&T-b",
		"!aEb": "-&a-E-&a-b", "!aET": "-&a-ET", "!aE-b": "-&a-E-&a-&a-b",
		// What is announced is rewritten first, and so is what is true after it.
		"!!abc": "-&-&a-b-c", "!!aTc": "-&T-c", "!!abT": "T", "!K0!abc": "-&K0-&a-b-c",
		"!a!bc": "-&a&-&a-b-&a-&a-c", "!a!bT": "T", "!a!b-T": "-&a&-&a-bT", "!aK0!Tb": "-&a-K0-&a&T-&a-&a-b",
		// Announcements within other operations.
		"-!ab": "--&a-b", "&!abc": "&-&a-bc", "&c!ab": "&c-&a-b", "&!ab!cd": "&-&a-b-&c-d", "K1!ab": "K1-&a-b", "W2!ab": "W2-&a-b",
		"E!ab": "E-&a-b", "W0!aT": "W0T", "&!aTb": "&Tb",
		// What is announced is not looked into if nothing has to be true after it.
		"!K0aT": "T", "!W1&abT": "T", "!!aW0bT": "T",
		"!&a-K0aK0a": "-&&a-K0a-K0-&&a-K0a-a",
	} {
		f := read(t, text)
		checkRewrittenAs(t, f, want)
		if second := plainRewrite(t, f, len(f)-1); second != want {
			t.Errorf("the test is wrong: it rewrites %s as %s", text, second)
		}
	}
}

func TestRewriteOfCommonKnowledge(t *testing.T) {
	for _, text := range []string{
		"Ca", "CT", "-Ca", "K0Ca", "W1CT", "ECa", "CCa", "&aCb", "&Cba", "!aCb", "!Cab", "!aCT", "!CTT", "!Ca!bT", "!bK0CT", "!b&aCT", "&!abCT", "C!ab",
		"!!CaTT", "!-CaT", "!aEC!bc",
	} {
		checkRewrittenAs(t, read(t, text), "")
	}
	for k := range 39 {
		checkRewrittenAs(t, read(t, strings.Repeat("-", k)+"Ca"), "")
		checkRewrittenAs(t, read(t, "C"+strings.Repeat("-", k)+"T"), "")
	}
}

func TestRewriteOfAllShortFormulas(t *testing.T) {
	for _, f := range sampleFormulas() {
		checkRewritten(t, f)
	}
	good := 0
	for _, text := range announcingFormulas() {
		if checkRewritten(t, read(t, text)) {
			good++
		}
	}
	if good < 3500 {
		t.Errorf("only %d formulas with announcements are rewritten", good)
	}
}

func TestRewriteOfNestedFormulas(t *testing.T) {
	d := dice(41)
	good, bad := 0, 0
	for depth := 1; depth <= 7; depth++ {
		for range 1500 {
			f, ok := impl.ParseFormula(nestedFormula(&d, depth, 3))
			if !ok || !impl.HasAnnouncements(f) {
				continue
			}
			if checkRewritten(t, f) {
				good++
			} else if impl.CountOp(f, impl.OpCommon) == 0 {
				bad++
			}
		}
	}
	if good < 1000 || bad < 1000 {
		t.Errorf("only %d formulas are rewritten, and only %d become too long", good, bad)
	}
}

func TestRewriteDoesNotDependOnTheOrderOfNodes(t *testing.T) {
	a, b := impl.Node{Op: impl.OpFact}, impl.Node{Op: impl.OpFact, N: 1}
	for _, c := range []struct {
		f    []impl.Node
		want string
	}{
		{[]impl.Node{b, a, {Op: impl.OpAnd, A: 1, B: 0}}, "&ab"},
		{[]impl.Node{b, a, {Op: impl.OpAfter, A: 1, B: 0}}, "-&a-b"},
		{[]impl.Node{b, a, {Op: impl.OpKnow, N: 2, A: 0}, {Op: impl.OpAfter, A: 1, B: 2}}, "-&a-K2-&a-b"},
		{[]impl.Node{a, b, {Op: impl.OpNot, A: 0}, {Op: impl.OpTrue}, {Op: impl.OpAnd, A: 3, B: 1}, {Op: impl.OpAfter, A: 2, B: 4}}, "&T-&-a-b"},
		{[]impl.Node{{Op: impl.OpTrue}, a, {Op: impl.OpAfter, A: 1, B: 0}}, "T"},
	} {
		checkRewrittenAs(t, c.f, c.want)
	}
}

func TestRewriteOfTheGreatestSize(t *testing.T) {
	// For each operation, how many nodes one of them, k times, has after the announcement of a.
	sizes := map[string]func(k int) int{
		"-":   func(k int) int { return 5 + 3*k },
		"&T":  func(k int) int { return 5 + 2*k },
		"&a":  func(k int) int { return 5 + 6*k },
		"K0":  func(k int) int { return 5 + 5*k },
		"E":   func(k int) int { return 5 + 5*k },
		"W1":  func(k int) int { return 16<<k - 11 },
		"W0-": func(k int) int { return 22<<k - 17 },
	}
	for head, size := range sizes {
		for k := range 39 {
			for outer := range 36 {
				text := strings.Repeat("-", outer) + "!a" + strings.Repeat(head, k) + "b"
				f, ok := impl.ParseFormula(text)
				if !ok {
					continue
				}
				nodes := size(k) + outer
				if ok := checkRewritten(t, f); ok != (nodes <= 40) || ok && impl.GrowthOf(f) != nodes-len(f) {
					t.Errorf("Rewrite %s is %v, and GrowthOf %d, want %d nodes", text, ok, impl.GrowthOf(f), nodes)
				}
			}
		}
	}
}

func TestRewriteOfPartsThatAreTooLong(t *testing.T) {
	for k := range 36 {
		for outer := range 36 {
			part := strings.Repeat("-", outer) + "!a" + strings.Repeat("-", k) + "b"
			short := 5+3*k+outer <= 40
			// Nothing is left of the part that is announced, but it must not be too long either.
			for text, want := range map[string]string{
				"!" + part + "T": "T", "&a!" + part + "T": "&aT", "!!" + part + "Tb": "-&T-b", "!b!" + part + "T": "T",
				"!!b" + part + "T": "", "!" + part + "-T": "", "!" + part + "b": "", "-" + part: "", "&a" + part: "", "&" + part + "a": "",
			} {
				f, ok := impl.ParseFormula(text)
				if !ok {
					continue
				}
				checkRewritten(t, f)
				if want != "" {
					checkRewrittenAs(t, f, map[bool]string{true: want}[short])
				}
			}
		}
	}
	for n := 1; n <= 38; n++ {
		text := "!" + strings.Repeat("-", n-1) + "aT"
		checkRewrittenAs(t, read(t, text), "T")
		if got := impl.GrowthOf(read(t, text)); got != -n-1 {
			t.Errorf("GrowthOf(%s) = %d, want %d", text, got, -n-1)
		}
	}
}

func TestRewriteOfWhatGrowsWithoutEnd(t *testing.T) {
	for _, head := range []string{"-", "K0", "W0", "W2-", "E", "&a", "&aW1", "&W0T", "W0K1", "!b", "!bW0"} {
		for j := range 20 {
			for k := range 39 {
				if f, ok := impl.ParseFormula(strings.Repeat("!a", j) + strings.Repeat(head, k) + "b"); ok {
					checkRewritten(t, f)
				}
				if f, ok := impl.ParseFormula(strings.Repeat("!", j) + strings.Repeat(head, k) + strings.Repeat("b", j+1)); ok {
					checkRewritten(t, f)
				}
			}
		}
	}
}

func TestRewriteOfWhatIsNotValid(t *testing.T) {
	for name, f := range invalidLists() {
		g, ok := impl.Rewrite(f)
		checkBuilt(t, "Rewrite of "+name, g, ok, "")
		if got := impl.GrowthOf(f); got != 0 {
			t.Errorf("GrowthOf is %d: %s", got, name)
		}
		g, ok = impl.Simplify(f)
		checkBuilt(t, "Simplify of "+name, g, ok, "")
	}
}

func TestHasAnnouncements(t *testing.T) {
	for _, f := range sampleFormulas() {
		text := plainText(f, len(f)-1)
		if got := impl.HasAnnouncements(f); got != strings.Contains(text, "!") {
			t.Errorf("HasAnnouncements(%s) = %v", text, got)
		}
	}
	after := impl.Node{Op: impl.OpAfter}
	for at := range 100 {
		f := chain(100)
		if impl.HasAnnouncements(f) {
			t.Error("HasAnnouncements of negations is true")
		}
		f[at] = after
		if !impl.HasAnnouncements(f) {
			t.Errorf("HasAnnouncements is false, though the node %d of 100 is an announcement", at)
		}
	}
	for _, f := range [][]impl.Node{nil, {}, {{}}, {{Op: 10}}, {{Op: -9}}, {{Op: 1<<32 + impl.OpAfter}}, {{N: 9, A: 9, B: 9}}} {
		if impl.HasAnnouncements(f) {
			t.Errorf("HasAnnouncements(%v) is true", f)
		}
	}
}

// checkSameTruth checks that two formulas are true in the same worlds of a model that has the agents of the first one.
func checkSameTruth(t *testing.T, m impl.Model, f []impl.Node, g []impl.Node) {
	t.Helper()
	first, ok := plainTruth(m, f)
	if !ok {
		return
	}
	second, ok := plainTruth(m, g)
	if !ok || !slices.Equal(first, second) || !impl.AreEquivalentIn(m, f, g) {
		t.Errorf("%s is true in %v of %v, and %s in %v", plainText(f, len(f)-1), worldsOf(first), m, plainText(g, len(g)-1), worldsOf(second))
	}
}

func TestRewritingKeepsTheTruth(t *testing.T) {
	models := append(sampleModels(), twoChildren(), threeChildren())
	for i, text := range announcingFormulas() {
		f := read(t, text)
		if g, ok := impl.Rewrite(f); ok {
			for k := range 8 {
				checkSameTruth(t, models[(i*7919+k*104729)%len(models)], f, g)
			}
		}
	}
	d := dice(43)
	for _, m := range models {
		for depth := range 4 {
			f := read(t, nestedFormula(&d, depth+1, len(m.Blocks)))
			if g, ok := impl.Rewrite(f); ok {
				checkSameTruth(t, m, f, g)
			}
		}
	}
}

func TestRewrittenFormulasSayWhatAnnouncementsDo(t *testing.T) {
	count := 0
	forLaws(func(m impl.Model, x string, y string, agent int) {
		after, ok := impl.Rewrite(read(t, "!"+x+y))
		if !ok {
			return
		}
		count++
		for world := range m.Facts {
			at, _ := impl.MoveTo(m, world)
			left, ok := impl.Announce(at, read(t, x))
			if want := !ok || impl.Holds(left, read(t, y)); impl.Holds(at, after) != want {
				t.Errorf("!%s%s is rewritten, but not %v in the world %d of %v", x, y, want, world, m)
			}
		}
	})
	if count < 400 {
		t.Errorf("only %d formulas are rewritten", count)
	}
}

func TestWhatIsRewrittenStaysAsItIs(t *testing.T) {
	for _, text := range announcingFormulas() {
		if g, ok := impl.Rewrite(read(t, text)); ok {
			checkRewrittenAs(t, g, plainText(g, len(g)-1))
		}
	}
}

// plainSimplify is a second way to simplify the text of a formula: from outside, until nothing changes.
func plainSimplify(t *testing.T, text string) string {
	t.Helper()
	f := read(t, text)
	head, indices := partsOf(f, len(f)-1)
	var texts []string
	for _, index := range indices {
		texts = append(texts, plainText(f, index))
	}
	switch {
	case head == "-" && texts[0][0] == '-':
		return plainSimplify(t, texts[0][1:])
	case head == "&" && (texts[1] == "T" || texts[0] == texts[1]):
		return plainSimplify(t, texts[0])
	case head == "&" && texts[0] == "T":
		return plainSimplify(t, texts[1])
	case strings.Contains("KWEC", head[:1]) && texts[0] == "T":
		return "T"
	}
	again := head
	for _, part := range texts {
		again += plainSimplify(t, part)
	}
	if again == text {
		return text
	}
	return plainSimplify(t, again)
}

// checkSimplified compares the simplified formula with a text.
func checkSimplified(t *testing.T, f []impl.Node, want string) {
	t.Helper()
	got, ok := impl.Simplify(f)
	checkBuilt(t, "Simplify "+plainText(f, len(f)-1), got, ok, want)
}

func TestSimplify(t *testing.T) {
	for text, want := range map[string]string{
		// Nothing is left out.
		"a": "a", "T": "T", "-a": "-a", "-T": "-T", "&ab": "&ab", "&a-a": "&a-a", "&-TT": "-T", "&-T-T": "-T", "K0a": "K0a", "K1-T": "K1-T",
		"W0-T": "W0-T", "E-T": "E-T", "C-T": "C-T", "!TT": "!TT", "!aT": "!aT", "!Ta": "!Ta", "!aa": "!aa",
		"K0K0a": "K0K0a", "&K0aK1a": "&K0aK1a", "&&ab&ba": "&&ab&ba", "&a&ab": "&a&ab", "-!-ab": "-!-ab", "-K0-a": "-K0-a",
		// The negation of a negation.
		"--a": "a", "---a": "-a", "----a": "a", "-----T": "-T", "--T": "T", "K0--a": "K0a", "--K0a": "K0a", "-K0--a": "-K0a", "!--a--b": "!ab", "--!ab": "!ab",
		// OpAnd with OpTrue.
		"&aT": "a", "&Ta": "a", "&TT": "T", "&T&Ta": "a", "&&aTT": "a", "&&TT&TT": "T", "&T-T": "-T", "&-aT": "-a", "&T&ab": "&ab", "&&abT": "&ab",
		// OpAnd of the same.
		"&aa": "a", "&-a-a": "-a", "&&ab&ab": "&ab", "&K0aK0a": "K0a", "&!ab!ab": "!ab", "&&aa&aa": "a", "&EaEa": "Ea",
		// Knowledge of OpTrue.
		"K0T": "T", "K2T": "T", "W0T": "T", "W1T": "T", "ET": "T", "CT": "T", "K0W1ECT": "T", "-K0T": "-T", "K0-K0T": "K0-T",
		// What is simplified inside can be simplified outside.
		"-&T-a": "a", "-&-aT": "a", "&a--a": "a", "&--aa": "a", "&a&aT": "a", "&&Taa": "a", "K0&TT": "T", "C--T": "T", "W1&T--T": "T", "&aK0T": "a",
		"&K0Ta": "a", "&CTET": "T", "-&K0T-a": "a", "--&aa": "a", "-&-a-a": "a", "!K0TCT": "!TT", "!&aa--b": "!ab", "K0!TT": "K0!TT", "&!TTa": "&!TTa",
		"&K0--aK0a": "K0a", "-&T--a": "-a", "!T--a": "!Ta", "C&aa": "Ca", "E&T&aa": "Ea",
	} {
		checkSimplified(t, read(t, text), want)
		if second := plainSimplify(t, text); second != want {
			t.Errorf("the test is wrong: it simplifies %s as %s", text, second)
		}
	}
}

// simpleTexts returns texts of formulas of which many can be simplified.
func simpleTexts() []string {
	var all []string
	for n := 1; n <= 6; n++ {
		all = append(all, textsFrom("a T", "- K1 W0 E C", "& !", n)...)
	}
	return all
}

func TestSimplifyOfManyFormulas(t *testing.T) {
	for _, f := range sampleFormulas() {
		checkSimplified(t, f, plainSimplify(t, plainText(f, len(f)-1)))
	}
	shorter := 0
	for _, text := range simpleTexts() {
		want := plainSimplify(t, text)
		checkSimplified(t, read(t, text), want)
		checkSimplified(t, read(t, want), want)
		if want != text {
			shorter++
		}
	}
	if shorter < 10000 {
		t.Errorf("only %d formulas become shorter", shorter)
	}
}

// padded returns the text of a valid formula with parts that say nothing, or without more of them if it would be too long.
func padded(d *dice, f []impl.Node, i int) string {
	text, indices := partsOf(f, i)
	for _, index := range indices {
		text += padded(d, f, index)
	}
	for range d.below(3) {
		text = []string{"--" + text, "&T" + text, "&" + text + "T", "&" + text + text, "&K1T" + text, "&" + text + "&TT", "&W0CT" + text, "&--T" + text}[d.below(8)]
	}
	return text
}

func TestSimplifyLeavesOutWhatSaysNothing(t *testing.T) {
	d := dice(47)
	long := 0
	for _, text := range []string{"a", "-b", "T", "-T", "&ab", "K0a", "-K2-c", "!TT", "!K0ab", "!aEb", "C-T", "W1-T", "&-T-a", "&aK0-&ab", "C!ab", "-&-a-b"} {
		for range 400 {
			f, ok := impl.ParseFormula(padded(&d, read(t, text), len(read(t, text))-1))
			if !ok {
				continue
			}
			checkSimplified(t, f, text)
			if len(f) > 30 {
				long++
			}
		}
	}
	if long < 200 {
		t.Errorf("only %d formulas are long", long)
	}
}

func TestSimplifyOfTheGreatestSize(t *testing.T) {
	for n := 1; n <= 45; n++ {
		want := map[bool]string{true: []string{"-T", "T"}[n%2]}[n <= 40]
		got, ok := impl.Simplify(chain(n))
		checkBuilt(t, "Simplify of a chain", got, ok, want)
	}
	for k := range 39 {
		checkSimplified(t, read(t, strings.Repeat("K0", k)+"T"), "T")
		checkSimplified(t, read(t, strings.Repeat("E", k)+"a"), strings.Repeat("E", k)+"a")
	}
	for k := range 20 {
		checkSimplified(t, read(t, strings.Repeat("&a", k)+"a"), "a")
		checkSimplified(t, read(t, strings.Repeat("&", k)+strings.Repeat("T", k)+"b"), "b")
		checkSimplified(t, read(t, strings.Repeat("!a", k)+"b"), strings.Repeat("!a", k)+"b")
	}
	half := strings.Repeat("E", 18) + "a"
	checkSimplified(t, read(t, "&"+half+half), half)
	checkSimplified(t, read(t, "&"+half+strings.Repeat("E", 18)+"b"), "&"+half+strings.Repeat("E", 18)+"b")
}

func TestSimplifyDoesNotDependOnTheOrderOfNodes(t *testing.T) {
	a, b, truth := impl.Node{Op: impl.OpFact}, impl.Node{Op: impl.OpFact, N: 1}, impl.Node{Op: impl.OpTrue}
	for _, c := range []struct {
		f    []impl.Node
		want string
	}{
		{[]impl.Node{b, a, {Op: impl.OpAnd, A: 1, B: 0}}, "&ab"},
		{[]impl.Node{truth, a, {Op: impl.OpAnd, A: 1, B: 0}}, "a"},
		{[]impl.Node{a, a, b, b, {Op: impl.OpAnd, A: 0, B: 2}, {Op: impl.OpAnd, A: 1, B: 3}, {Op: impl.OpAnd, A: 5, B: 4}}, "&ab"},
		{[]impl.Node{a, a, b, b, {Op: impl.OpAnd, A: 3, B: 0}, {Op: impl.OpAnd, A: 1, B: 2}, {Op: impl.OpAnd, A: 5, B: 4}}, "&&ab&ba"},
		{[]impl.Node{b, a, {Op: impl.OpNot, A: 0}, {Op: impl.OpNot, A: 2}, {Op: impl.OpAfter, A: 1, B: 3}}, "!ab"},
	} {
		checkSimplified(t, c.f, c.want)
	}
}

func TestSimplifyKeepsTheTruth(t *testing.T) {
	models := append(sampleModels(), twoChildren(), threeChildren())
	for i, text := range simpleTexts() {
		f := read(t, text)
		g, _ := impl.Simplify(f)
		for k := range 4 {
			checkSameTruth(t, models[(i*7919+k*104729)%len(models)], f, g)
		}
	}
	for i, text := range announcingFormulas() {
		f := read(t, text)
		g, ok := impl.Rewrite(f)
		if !ok {
			continue
		}
		h, _ := impl.Simplify(g)
		checkSameTruth(t, models[i*7919%len(models)], f, h)
		if len(h) > len(g) || impl.HasAnnouncements(h) {
			t.Errorf("Simplify of %v is %v", g, h)
		}
	}
}

// callAllRewritings calls every function of the layer, and returns the formulas that it gets.
func callAllRewritings(f []impl.Node) [][]impl.Node {
	impl.HasAnnouncements(f)
	impl.GrowthOf(f)
	without, _ := impl.Rewrite(f)
	simple, _ := impl.Simplify(f)
	return [][]impl.Node{without, simple}
}

func TestRewritingArgumentsAreNotModified(t *testing.T) {
	lists := sampleFormulas()
	for _, f := range invalidLists() {
		lists = append(lists, f)
	}
	for _, text := range announcingFormulas() {
		lists = append(lists, read(t, text))
	}
	for _, f := range lists {
		roomy := roomyFormula(f)
		callAllRewritings(roomy)
		if !isRoomyFormula(roomy, f) {
			t.Errorf("an argument or the room behind it was changed: %d nodes", len(f))
		}
	}
}

func TestRewritingResultsAreNew(t *testing.T) {
	for _, f := range sampleFormulas() {
		checkNewFormulas(t, f, callAllRewritings)
	}
	for _, text := range announcingFormulas() {
		checkNewFormulas(t, read(t, text), callAllRewritings)
	}
}
