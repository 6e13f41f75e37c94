package tests

import (
	"math"
	"slices"
	"strings"
	"testing"

	"loop.example/g00945/impl"
)

// parts returns how many nodes a node of a valid formula uses.
func parts(node impl.Node) int {
	switch node.Op {
	case impl.OpFact, impl.OpTrue:
		return 0
	case impl.OpAnd, impl.OpAfter:
		return 2
	}
	return 1
}

// plainText is a second way to write the node at an index of a valid formula.
func plainText(f []impl.Node, i int) string {
	node := f[i]
	switch node.Op {
	case impl.OpFact:
		return []string{"a", "b", "c", "d"}[node.N]
	case impl.OpTrue:
		return "T"
	case impl.OpNot:
		return "-" + plainText(f, node.A)
	case impl.OpAnd:
		return "&" + plainText(f, node.A) + plainText(f, node.B)
	case impl.OpKnow:
		return "K" + plainFormat(node.N) + plainText(f, node.A)
	case impl.OpWhether:
		return "W" + plainFormat(node.N) + plainText(f, node.A)
	case impl.OpEvery:
		return "E" + plainText(f, node.A)
	case impl.OpCommon:
		return "C" + plainText(f, node.A)
	}
	return "!" + plainText(f, node.A) + plainText(f, node.B)
}

// plainDepth is a second way to find the depth of the node at an index of a valid formula.
func plainDepth(f []impl.Node, i int) int {
	node := f[i]
	switch parts(node) {
	case 0:
		return 0
	case 2:
		return max(plainDepth(f, node.A), plainDepth(f, node.B))
	}
	if node.Op == impl.OpNot {
		return plainDepth(f, node.A)
	}
	return plainDepth(f, node.A) + 1
}

// firstOf returns the index of the first node of the part that ends at an index, or -1 if this part is not in the
// form of ParseFormula: the nodes of A, then those of B, then the node itself.
func firstOf(f []impl.Node, i int) int {
	node := f[i]
	switch parts(node) {
	case 0:
		return i
	case 1:
		if node.A != i-1 {
			return -1
		}
		return firstOf(f, node.A)
	}
	if node.B != i-1 {
		return -1
	}
	if first := firstOf(f, node.B); first < 0 || node.A != first-1 {
		return -1
	}
	return firstOf(f, node.A)
}

// inForm reports whether a valid formula is in the form of ParseFormula.
func inForm(f []impl.Node) bool {
	return firstOf(f, len(f)-1) == 0
}

// unaryNodes returns all nodes that use one node, which has an index.
func unaryNodes(a int) []impl.Node {
	list := []impl.Node{{Op: impl.OpNot, A: a}, {Op: impl.OpEvery, A: a}, {Op: impl.OpCommon, A: a}}
	for agent := range 3 {
		list = append(list, impl.Node{Op: impl.OpKnow, N: agent, A: a}, impl.Node{Op: impl.OpWhether, N: agent, A: a})
	}
	return list
}

// leafNodes returns all nodes that use none.
func leafNodes() []impl.Node {
	list := []impl.Node{{Op: impl.OpTrue}}
	for fact := range 4 {
		list = append(list, impl.Node{Op: impl.OpFact, N: fact})
	}
	return list
}

// nextNodes returns all nodes that can follow in a formula, if some indices are still to be used.
func nextNodes(open []int) []impl.Node {
	list := leafNodes()
	for _, a := range open {
		list = append(list, unaryNodes(a)...)
		for _, b := range open {
			if a != b {
				list = append(list, impl.Node{Op: impl.OpAnd, A: a, B: b}, impl.Node{Op: impl.OpAfter, A: a, B: b})
			}
		}
	}
	return list
}

// without returns the open indices after a node that stands at an index.
func without(open []int, node impl.Node, at int) []int {
	var left []int
	for _, i := range open {
		if !(parts(node) >= 1 && i == node.A) && !(parts(node) == 2 && i == node.B) {
			left = append(left, i)
		}
	}
	return append(left, at)
}

// formulasOf returns all valid formulas with a number of nodes, in all orders of their nodes.
func formulasOf(n int) [][]impl.Node {
	var all [][]impl.Node
	var extend func(f []impl.Node, open []int)
	extend = func(f []impl.Node, open []int) {
		if len(f) == n {
			if len(open) == 1 {
				all = append(all, slices.Clone(f))
			}
			return
		}
		for _, node := range nextNodes(open) {
			extend(append(slices.Clone(f), node), without(open, node, len(f)))
		}
	}
	extend(nil, nil)
	return all
}

// formulasUpTo returns all valid formulas with at most a number of nodes.
func formulasUpTo(n int) [][]impl.Node {
	var all [][]impl.Node
	for k := range n {
		all = append(all, formulasOf(k+1)...)
	}
	return all
}

// dice gives numbers that look random but are the same in every run.
type dice uint64

func (d *dice) below(n int) int {
	*d = *d*6364136223846793005 + 1442695040888963407
	return int(uint64(*d>>33) % uint64(n))
}

// randomFormula returns a valid formula with n nodes in some order.
func randomFormula(d *dice, n int) []impl.Node {
	var f []impl.Node
	var open []int
	for len(f) < n {
		// So many nodes may stay open at most that the rest of the nodes can still join them.
		most := n - len(f)
		var fits []impl.Node
		for _, node := range nextNodes(open) {
			if len(without(open, node, len(f))) <= most {
				fits = append(fits, node)
			}
		}
		node := fits[d.below(len(fits))]
		open = without(open, node, len(f))
		f = append(f, node)
	}
	return f
}

// randomFormulas returns valid formulas of all numbers of nodes.
func randomFormulas() [][]impl.Node {
	d := dice(1)
	var all [][]impl.Node
	for n := 1; n <= 40; n++ {
		for range 25 {
			all = append(all, randomFormula(&d, n))
		}
	}
	return all
}

// sampleFormulas returns all small formulas and some of every other size.
func sampleFormulas() [][]impl.Node {
	return append(formulasUpTo(4), randomFormulas()...)
}

// read returns the formula with a text, of which the test knows that there is one.
func read(t *testing.T, text string) []impl.Node {
	t.Helper()
	f, ok := impl.ParseFormula(text)
	if !ok {
		t.Fatalf("ParseFormula(%q) fails", text)
	}
	return f
}

// chain returns the formula of n nodes in which all but the first one deny the one before.
func chain(n int) []impl.Node {
	f := []impl.Node{{Op: impl.OpTrue}}
	for len(f) < n {
		f = append(f, impl.Node{Op: impl.OpNot, A: len(f) - 1})
	}
	return f
}

// invalidLists returns lists of nodes that are no formulas, for one reason each.
func invalidLists() map[string][]impl.Node {
	fact := impl.Node{Op: impl.OpFact}
	truth := impl.Node{Op: impl.OpTrue}
	return map[string][]impl.Node{
		"nil":                          nil,
		"empty":                        {},
		"zero node":                    {{}},
		"operation 10":                 {truth, {Op: 10}},
		"operation -1":                 {truth, {Op: -1}},
		"least operation":              {truth, {Op: math.MinInt}},
		"greatest operation":           {truth, {Op: math.MaxInt}},
		"fact 4":                       {{Op: impl.OpFact, N: 4}},
		"fact -1":                      {{Op: impl.OpFact, N: -1}},
		"greatest fact":                {{Op: impl.OpFact, N: math.MaxInt}},
		"fact with A":                  {fact, {Op: impl.OpFact, A: 1}},
		"fact with A of itself":        {{Op: impl.OpFact, A: 1}},
		"fact with B":                  {{Op: impl.OpFact, B: 1}},
		"truth with N":                 {{Op: impl.OpTrue, N: 1}},
		"truth with A":                 {{Op: impl.OpTrue, A: -1}},
		"truth with B":                 {{Op: impl.OpTrue, B: 2}},
		"negation first":               {{Op: impl.OpNot}},
		"negation with N":              {fact, {Op: impl.OpNot, N: 1}},
		"negation with B":              {fact, truth, {Op: impl.OpNot, A: 0, B: 1}},
		"negation of itself":           {fact, {Op: impl.OpNot, A: 1}},
		"negation of a later one":      {{Op: impl.OpNot, A: 1}, fact},
		"negation of -1":               {fact, {Op: impl.OpNot, A: -1}},
		"negation of the least index":  {fact, {Op: impl.OpNot, A: math.MinInt}},
		"negation of a great index":    {fact, {Op: impl.OpNot, A: math.MaxInt}},
		"agent 3 knows":                {fact, {Op: impl.OpKnow, N: 3}},
		"agent -1 knows":               {fact, {Op: impl.OpKnow, N: -1}},
		"agent 3 knows whether":        {fact, {Op: impl.OpWhether, N: 3}},
		"agent -1 knows whether":       {fact, {Op: impl.OpWhether, N: -1}},
		"all know with N":              {fact, {Op: impl.OpEvery, N: 1}},
		"all know with B":              {fact, {Op: impl.OpEvery, B: 1}},
		"common with N":                {fact, {Op: impl.OpCommon, N: 2}},
		"common with B":                {fact, {Op: impl.OpCommon, B: -1}},
		"know with B":                  {fact, {Op: impl.OpKnow, B: 1}},
		"whether with B":               {fact, {Op: impl.OpWhether, B: 1}},
		"conjunction with N":           {fact, truth, {Op: impl.OpAnd, N: 1, A: 0, B: 1}},
		"announcement with N":          {fact, truth, {Op: impl.OpAfter, N: 1, A: 0, B: 1}},
		"conjunction first":            {{Op: impl.OpAnd}},
		"conjunction of one twice":     {fact, {Op: impl.OpAnd}},
		"announcement of one twice":    {fact, {Op: impl.OpAfter}},
		"one of two used twice":        {fact, truth, {Op: impl.OpAnd, A: 1, B: 1}},
		"conjunction with itself":      {fact, {Op: impl.OpAnd, A: 0, B: 1}},
		"conjunction of itself":        {fact, {Op: impl.OpAnd, A: 1, B: 0}},
		"conjunction with index -1":    {fact, {Op: impl.OpAnd, A: 0, B: -1}},
		"conjunction with great index": {fact, {Op: impl.OpAnd, A: 0, B: math.MaxInt}},
		"two leaves":                   {fact, truth},
		"the first one unused":         {fact, truth, {Op: impl.OpNot, A: 1}},
		"the second one unused":        {fact, truth, {Op: impl.OpNot, A: 0}},
		"used by two":                  {fact, {Op: impl.OpNot}, {Op: impl.OpAnd, A: 0, B: 1}},
		"41 nodes":                     chain(41),
		"100000 nodes":                 chain(100000),
	}
}

func TestFormulaOk(t *testing.T) {
	for name, f := range invalidLists() {
		if impl.FormulaOk(f) {
			t.Errorf("FormulaOk is true: %s", name)
		}
	}
	for _, f := range sampleFormulas() {
		if !impl.FormulaOk(f) {
			t.Errorf("FormulaOk(%v) = false", f)
		}
	}
	for n := range 60 {
		if got := impl.FormulaOk(chain(n + 1)); got != (n < 40) {
			t.Errorf("FormulaOk of %d nodes = %v", n+1, got)
		}
	}
}

func TestFormulaOkOfAllLongConjunctions(t *testing.T) {
	for _, op := range []int{impl.OpAnd, impl.OpAfter} {
		for leaves := 2; leaves <= 25; leaves++ {
			f := slices.Repeat([]impl.Node{{Op: impl.OpTrue}}, leaves)
			f = append(f, impl.Node{Op: op, A: 0, B: 1})
			for i := 2; i < leaves; i++ {
				f = append(f, impl.Node{Op: op, A: len(f) - 1, B: i})
			}
			if got := impl.FormulaOk(f); got != (len(f) <= 40) {
				t.Errorf("FormulaOk of %d nodes = %v", len(f), got)
			}
		}
	}
}

// nodesFrom returns all nodes with fields from some lists.
func nodesFrom(ops []int, ns []int, indices []int) []impl.Node {
	var all []impl.Node
	for _, op := range ops {
		for _, n := range ns {
			for _, a := range indices {
				for _, b := range indices {
					all = append(all, impl.Node{Op: op, N: n, A: a, B: b})
				}
			}
		}
	}
	return all
}

// numbers returns the integers from one to another.
func numbers(from int, to int) []int {
	var list []int
	for n := from; n <= to; n++ {
		list = append(list, n)
	}
	return list
}

// shortList is a list of at most 3 nodes that can be compared.
type shortList struct {
	count int
	nodes [3]impl.Node
}

func key(f []impl.Node) shortList {
	k := shortList{count: len(f)}
	copy(k.nodes[:], f)
	return k
}

// validKeys returns the keys of all valid formulas with at most 3 nodes.
func validKeys() map[shortList]bool {
	valid := map[shortList]bool{}
	for _, f := range formulasUpTo(3) {
		valid[key(f)] = true
	}
	return valid
}

func TestFormulaOkOfAllShortLists(t *testing.T) {
	valid := validKeys()
	check := func(f ...impl.Node) {
		if got := impl.FormulaOk(f); got != valid[key(f)] {
			t.Errorf("FormulaOk(%v) = %v", f, got)
		}
	}
	for _, node := range nodesFrom(numbers(-3, 12), numbers(-3, 6), numbers(-3, 4)) {
		check(node)
	}
	two := nodesFrom(numbers(-1, 10), numbers(-1, 4), numbers(-1, 2))
	for _, first := range two {
		for _, second := range two {
			check(first, second)
		}
	}
	three := nodesFrom([]int{impl.OpFact, impl.OpNot, impl.OpAnd, impl.OpKnow, impl.OpEvery, impl.OpAfter}, []int{0, 2}, numbers(0, 2))
	for _, first := range three {
		for _, second := range three {
			for _, third := range three {
				check(first, second, third)
			}
		}
	}
}

// withField returns a copy of a list in which a field of a node has another value.
func withField(f []impl.Node, i int, field int, value int) []impl.Node {
	g := slices.Clone(f)
	*[]*int{&g[i].Op, &g[i].N, &g[i].A, &g[i].B}[field] = value
	return g
}

func TestFormulaOkAfterOneChange(t *testing.T) {
	valid := validKeys()
	values := append(numbers(-2, 11), 39, 40, 41, 1000, math.MinInt, math.MinInt+1, math.MaxInt-1, math.MaxInt)
	for _, f := range formulasUpTo(3) {
		for i := range f {
			for field := range 4 {
				for _, value := range values {
					g := withField(f, i, field, value)
					if got := impl.FormulaOk(g); got != valid[key(g)] {
						t.Errorf("FormulaOk(%v) = %v", g, got)
					}
				}
			}
		}
	}
}

func TestFormatFormula(t *testing.T) {
	cases := []struct {
		f    []impl.Node
		want string
	}{
		{[]impl.Node{{Op: impl.OpFact}}, "a"},
		{[]impl.Node{{Op: impl.OpFact, N: 1}}, "b"},
		{[]impl.Node{{Op: impl.OpFact, N: 2}}, "c"},
		{[]impl.Node{{Op: impl.OpFact, N: 3}}, "d"},
		{[]impl.Node{{Op: impl.OpTrue}}, "T"},
		{[]impl.Node{{Op: impl.OpTrue}, {Op: impl.OpNot}}, "-T"},
		{[]impl.Node{{Op: impl.OpTrue}, {Op: impl.OpKnow}}, "K0T"},
		{[]impl.Node{{Op: impl.OpTrue}, {Op: impl.OpKnow, N: 2}}, "K2T"},
		{[]impl.Node{{Op: impl.OpTrue}, {Op: impl.OpWhether, N: 1}}, "W1T"},
		{[]impl.Node{{Op: impl.OpTrue}, {Op: impl.OpEvery}}, "ET"},
		{[]impl.Node{{Op: impl.OpTrue}, {Op: impl.OpCommon}}, "CT"},
		{[]impl.Node{{Op: impl.OpFact}, {Op: impl.OpTrue}, {Op: impl.OpAnd, A: 0, B: 1}}, "&aT"},
		{[]impl.Node{{Op: impl.OpFact}, {Op: impl.OpTrue}, {Op: impl.OpAnd, A: 1, B: 0}}, "&Ta"},
		{[]impl.Node{{Op: impl.OpFact}, {Op: impl.OpTrue}, {Op: impl.OpAfter, A: 0, B: 1}}, "!aT"},
		{[]impl.Node{{Op: impl.OpFact}, {Op: impl.OpTrue}, {Op: impl.OpAfter, A: 1, B: 0}}, "!Ta"},
		{[]impl.Node{{Op: impl.OpFact, N: 3}, {Op: impl.OpFact, N: 1}, {Op: impl.OpNot, A: 0}, {Op: impl.OpAnd, A: 1, B: 2}, {Op: impl.OpCommon, A: 3}}, "C&b-d"},
		{chain(40), strings.Repeat("-", 39) + "T"},
	}
	for _, c := range cases {
		if got := impl.FormatFormula(c.f); got != c.want {
			t.Errorf("FormatFormula(%v) = %q, want %q", c.f, got, c.want)
		}
	}
	for _, f := range sampleFormulas() {
		if got, want := impl.FormatFormula(f), plainText(f, len(f)-1); got != want {
			t.Errorf("FormatFormula(%v) = %q, want %q", f, got, want)
		}
	}
	for name, f := range invalidLists() {
		if got := impl.FormatFormula(f); got != "" {
			t.Errorf("FormatFormula is %.20q: %s", got, name)
		}
	}
}

func TestParseFormula(t *testing.T) {
	cases := []struct {
		text string
		want []impl.Node
	}{
		{"a", []impl.Node{{Op: impl.OpFact}}},
		{"d", []impl.Node{{Op: impl.OpFact, N: 3}}},
		{"T", []impl.Node{{Op: impl.OpTrue}}},
		{"-b", []impl.Node{{Op: impl.OpFact, N: 1}, {Op: impl.OpNot}}},
		{"K0a", []impl.Node{{Op: impl.OpFact}, {Op: impl.OpKnow}}},
		{"W2c", []impl.Node{{Op: impl.OpFact, N: 2}, {Op: impl.OpWhether, N: 2}}},
		{"EET", []impl.Node{{Op: impl.OpTrue}, {Op: impl.OpEvery}, {Op: impl.OpEvery, A: 1}}},
		{"CT", []impl.Node{{Op: impl.OpTrue}, {Op: impl.OpCommon}}},
		{"&ab", []impl.Node{{Op: impl.OpFact}, {Op: impl.OpFact, N: 1}, {Op: impl.OpAnd, A: 0, B: 1}}},
		{"!ba", []impl.Node{{Op: impl.OpFact, N: 1}, {Op: impl.OpFact}, {Op: impl.OpAfter, A: 0, B: 1}}},
		{"K0&a-b", []impl.Node{{Op: impl.OpFact}, {Op: impl.OpFact, N: 1}, {Op: impl.OpNot, A: 1}, {Op: impl.OpAnd, A: 0, B: 2}, {Op: impl.OpKnow, A: 3}}},
		{"!-K1a&TW0b", []impl.Node{
			{Op: impl.OpFact}, {Op: impl.OpKnow, N: 1, A: 0}, {Op: impl.OpNot, A: 1},
			{Op: impl.OpTrue}, {Op: impl.OpFact, N: 1}, {Op: impl.OpWhether, N: 0, A: 4}, {Op: impl.OpAnd, A: 3, B: 5},
			{Op: impl.OpAfter, A: 2, B: 6},
		}},
		{strings.Repeat("-", 39) + "T", chain(40)},
	}
	for _, c := range cases {
		if got, ok := impl.ParseFormula(c.text); !ok || !slices.Equal(got, c.want) {
			t.Errorf("ParseFormula(%q) = %v, %v, want %v", c.text, got, ok, c.want)
		}
	}
}

func TestFormulasAreRecoveredFromTheirText(t *testing.T) {
	for _, f := range sampleFormulas() {
		text := impl.FormatFormula(f)
		g, ok := impl.ParseFormula(text)
		if !ok || !impl.FormulaOk(g) || len(g) != len(f) || !inForm(g) || plainText(g, len(g)-1) != text {
			t.Fatalf("ParseFormula(%q) = %v, %v", text, g, ok)
		}
		if inForm(f) != slices.Equal(f, g) {
			t.Errorf("ParseFormula(%q) = %v, for %v", text, g, f)
		}
	}
}

func TestParseFormulaRejectsOtherTexts(t *testing.T) {
	bad := []string{
		"", " ", "\n", "\x00", "\xff", "0", "1", "e", "A", "t", "k", "k0a", "Z", "`", "D", "+a", "|ab", "~a", "()", "(a)",
		"-", "&", "&a", "&&ab", "!", "!a", "!!ab", "K", "K0", "W", "W2", "E", "C", "-&a", "K0&a",
		"ab", "aT", "-ab", "&abc", "K0ab", "Ta", "a-", "aK0", "a ", " a", "- a", "& a b", "&a b", "&a,b", "a\n", "\na", "a\x00", "a\xff",
		"Ka", "K3a", "K4a", "K9a", "K-1a", "K 0a", "K00a", "K01a", "K10a", "KK0a", "K/a", "K:a", "K\x00a", "K\xffa", "K0", "K0K", "K0K1",
		"Wa", "W3a", "W-0a", "W00a", "W12a", "E0a", "C1a", "E 0a", "-0a", "T0", "a0", "0a",
		"\u2212a", "\u00e0", "\u0430", "K\u0660a", "K\uff10a", "-\u00e0", "\ufeffa", "\ufffd", "&\ufffda",
	}
	for _, text := range bad {
		if f, ok := impl.ParseFormula(text); ok || len(f) != 0 {
			t.Errorf("ParseFormula(%q) = %v, %v", text, f, ok)
		}
	}
}

// textsFrom returns the texts of all formulas with a number of nodes that begin with some texts: those of facts and OpTrue,
// of operations on one formula and of operations on two. They are made by the rules of the texts alone.
func textsFrom(leaves string, heads string, joints string, n int) []string {
	if n == 1 {
		return strings.Fields(leaves)
	}
	var all []string
	for _, text := range textsFrom(leaves, heads, joints, n-1) {
		for _, head := range strings.Fields(heads) {
			all = append(all, head+text)
		}
	}
	for k := 1; k < n-1; k++ {
		for _, first := range textsFrom(leaves, heads, joints, k) {
			for _, second := range textsFrom(leaves, heads, joints, n-1-k) {
				for _, joint := range strings.Fields(joints) {
					all = append(all, joint+first+second)
				}
			}
		}
	}
	return all
}

// textsOf returns the texts of all formulas with a number of nodes.
func textsOf(n int) []string {
	return textsFrom("a b c d T", "- E C K0 K1 K2 W0 W1 W2", "& !", n)
}

func TestParseFormulaOfAllShortTexts(t *testing.T) {
	good := map[string]bool{}
	for n := 1; n <= 4; n++ {
		for _, text := range textsOf(n) {
			good[text] = true
		}
	}
	for _, text := range append(allShortTexts(), allTexts("abde0123T-&KWEC! ", 4)...) {
		f, ok := impl.ParseFormula(text)
		if ok != good[text] || ok && impl.FormatFormula(f) != text || !ok && len(f) != 0 {
			t.Errorf("ParseFormula(%q) = %v, %v", text, f, ok)
		}
	}
	for text := range good {
		if f, ok := impl.ParseFormula(text); !ok || impl.FormatFormula(f) != text {
			t.Errorf("ParseFormula(%q) = %v, %v", text, f, ok)
		}
	}
}

func TestParseFormulaReadsEveryByte(t *testing.T) {
	for _, text := range []string{"K0&a-b", "!W1T&cEd", "C-K2&TT"} {
		for i := range len(text) {
			for b := range 256 {
				other := []byte(text)
				other[i] = byte(b)
				f, ok := impl.ParseFormula(string(other))
				if ok && impl.FormatFormula(f) != string(other) {
					t.Errorf("ParseFormula(%q) = %v", other, f)
				}
				if (b >= 128 || b <= 32) && ok {
					t.Errorf("ParseFormula(%q) succeeds", other)
				}
			}
			for _, cut := range []string{text[:i], text[:i] + text[i+1:]} {
				if f, ok := impl.ParseFormula(cut); ok && impl.FormatFormula(f) != cut {
					t.Errorf("ParseFormula(%q) = %v", cut, f)
				}
			}
			if _, ok := impl.ParseFormula(text[:i]); ok {
				t.Errorf("ParseFormula(%q) succeeds", text[:i])
			}
		}
	}
}

func TestParseFormulaOfManyNodes(t *testing.T) {
	for n := 1; n <= 60; n++ {
		for _, head := range []string{"-", "E", "C", "K0", "K2", "W1"} {
			text := strings.Repeat(head, n-1) + "d"
			f, ok := impl.ParseFormula(text)
			if ok != (n <= 40) || ok && (len(f) != n || impl.FormatFormula(f) != text) || !ok && len(f) != 0 {
				t.Errorf("ParseFormula of %d nodes with %s has %d, %v", n, head, len(f), ok)
			}
		}
	}
	for leaves := 1; leaves <= 30; leaves++ {
		n := 2*leaves - 1
		left := strings.Repeat("&", leaves-1) + strings.Repeat("a", leaves)
		right := strings.Repeat("!b", leaves-1) + "b"
		for _, text := range []string{left, right, "-" + left, "-" + right} {
			nodes := n + strings.Count(text, "-")
			f, ok := impl.ParseFormula(text)
			if ok != (nodes <= 40) || ok && (len(f) != nodes || impl.FormatFormula(f) != text) {
				t.Errorf("ParseFormula(%q) has %d nodes, %v", text, len(f), ok)
			}
		}
	}
}

func TestParseFormulaOfLongTexts(t *testing.T) {
	for _, part := range []string{"-", "&", "!a", "K0", "W", "E", "C1", "a", "T", " ", "&a", "\xff"} {
		long := strings.Repeat(part, 3000000)
		for _, text := range []string{long, long + "a", "a" + long, "&a" + long} {
			if f, ok := impl.ParseFormula(text); ok || len(f) != 0 {
				t.Errorf("ParseFormula of many %q succeeds", part)
			}
		}
	}
}

func TestSameFormula(t *testing.T) {
	list := append(formulasUpTo(3), randomFormulas()...)
	for i, f := range list {
		text := plainText(f, len(f)-1)
		if !impl.SameFormula(f, f) || !impl.SameFormula(f, slices.Clone(f)) || !impl.SameFormula(read(t, text), f) || !impl.SameFormula(f, read(t, text)) {
			t.Errorf("SameFormula of %s and itself is false", text)
		}
		for _, g := range list[max(0, i-30):i] {
			if got := impl.SameFormula(f, g); got != (text == plainText(g, len(g)-1)) {
				t.Errorf("SameFormula of %s and %s = %v", text, plainText(g, len(g)-1), got)
			}
		}
	}
	for _, pair := range [][2]string{
		{"a", "b"}, {"a", "T"}, {"Ea", "Ca"}, {"K0a", "K1a"}, {"K0a", "W0a"}, {"&ab", "&ba"}, {"&ab", "!ab"}, {"&aa", "a"}, {"a", "--a"},
		{"&a&bc", "&&abc"}, {"T", "-T"},
	} {
		if impl.SameFormula(read(t, pair[0]), read(t, pair[1])) || impl.SameFormula(read(t, pair[1]), read(t, pair[0])) {
			t.Errorf("SameFormula of %q is true", pair)
		}
	}
	good := read(t, "a")
	for name, f := range invalidLists() {
		if impl.SameFormula(f, f) || impl.SameFormula(f, good) || impl.SameFormula(good, f) || impl.SameFormula(f, nil) {
			t.Errorf("SameFormula is true: %s", name)
		}
	}
}

func TestDepthOf(t *testing.T) {
	cases := []struct {
		text string
		want int
	}{
		{"a", 0}, {"T", 0}, {"-a", 0}, {"&ab", 0}, {"!ab", 0}, {"---&a!bc", 0},
		{"K0a", 1}, {"W0a", 1}, {"Ea", 1}, {"Ca", 1}, {"-K2a", 1}, {"K2-a", 1}, {"K0T", 1},
		{"K0W1a", 2}, {"ECa", 2}, {"CEa", 2}, {"K0K0a", 2}, {"W0-W0a", 2}, {"K0&aK1b", 2}, {"K0&K1ab", 2},
		{"&aCb", 1}, {"&Cba", 1}, {"&K0aK1b", 1}, {"&K0K1aEb", 2}, {"&EbK0K1a", 2}, {"!K0ab", 1}, {"!aK0b", 1}, {"!K0aK0b", 1},
		{"!K0K1ab", 2}, {"K0!K1aEEb", 3}, {"K0!EEaK1b", 3}, {"K0!ab", 1}, {"K1W2ECd", 4},
		{strings.Repeat("E", 39) + "a", 39}, {strings.Repeat("K0", 39) + "a", 39}, {strings.Repeat("-", 39) + "a", 0},
	}
	for _, c := range cases {
		if got := impl.DepthOf(read(t, c.text)); got != c.want {
			t.Errorf("DepthOf(%s) = %d, want %d", c.text, got, c.want)
		}
	}
	for _, f := range sampleFormulas() {
		if got, want := impl.DepthOf(f), plainDepth(f, len(f)-1); got != want {
			t.Errorf("DepthOf(%v) = %d, want %d", f, got, want)
		}
	}
	for name, f := range invalidLists() {
		if got := impl.DepthOf(f); got != -1 {
			t.Errorf("DepthOf is %d: %s", got, name)
		}
	}
}

func TestCountOp(t *testing.T) {
	letters := map[int]string{
		impl.OpFact: "abcd", impl.OpTrue: "T", impl.OpNot: "-", impl.OpAnd: "&", impl.OpKnow: "K",
		impl.OpWhether: "W", impl.OpEvery: "E", impl.OpCommon: "C", impl.OpAfter: "!",
	}
	for _, f := range sampleFormulas() {
		text := plainText(f, len(f)-1)
		for _, op := range append(numbers(-2, 12), math.MinInt, math.MaxInt) {
			want := 0
			for _, letter := range letters[op] {
				want += strings.Count(text, string(letter))
			}
			if got := impl.CountOp(f, op); got != want {
				t.Errorf("CountOp(%s, %d) = %d, want %d", text, op, got, want)
			}
		}
	}
}

func TestCountOpOfInvalidLists(t *testing.T) {
	cases := []struct {
		f    []impl.Node
		op   int
		want int
	}{
		{nil, impl.OpTrue, 0},
		{nil, 0, 0},
		{[]impl.Node{}, impl.OpFact, 0},
		{[]impl.Node{{}}, 0, 1},
		{[]impl.Node{{Op: 77}, {Op: 77}, {Op: -1}}, 77, 2},
		{[]impl.Node{{Op: 77}, {Op: 77}, {Op: -1}}, -1, 1},
		{[]impl.Node{{Op: 77}, {Op: 77}, {Op: -1}}, impl.OpNot, 0},
		{[]impl.Node{{Op: impl.OpTrue}, {Op: impl.OpTrue}}, impl.OpTrue, 2},
		{chain(50), impl.OpNot, 49},
		{chain(50), impl.OpTrue, 1},
	}
	for _, c := range cases {
		if got := impl.CountOp(c.f, c.op); got != c.want {
			t.Errorf("CountOp of a list with %d nodes and %d = %d, want %d", len(c.f), c.op, got, c.want)
		}
	}
}

// checkBuilt compares what a function has built with a text, or with a failure if the text is empty.
func checkBuilt(t *testing.T, label string, f []impl.Node, ok bool, want string) {
	t.Helper()
	if want == "" {
		if ok || len(f) != 0 {
			t.Errorf("%s has %d nodes, %v, want a failure", label, len(f), ok)
		}
		return
	}
	if !ok || !impl.FormulaOk(f) || !inForm(f) || plainText(f, len(f)-1) != want {
		t.Errorf("%s = %v, %v, want %s", label, f, ok, want)
	}
}

// unlessLong returns a text if a formula with so many nodes is valid.
func unlessLong(text string, nodes int) string {
	if nodes > 40 {
		return ""
	}
	return text
}

func TestFormulasOfOneFormula(t *testing.T) {
	for _, f := range sampleFormulas() {
		text := plainText(f, len(f)-1)
		g, ok := impl.Negate(f)
		checkBuilt(t, "Negate", g, ok, unlessLong("-"+text, len(f)+1))
		for agent := range 3 {
			g, ok = impl.Known(agent, f)
			checkBuilt(t, "Known", g, ok, unlessLong("K"+plainFormat(agent)+text, len(f)+1))
		}
		for _, agent := range []int{-1, 3, 4, 10, -10, math.MinInt, math.MaxInt} {
			g, ok = impl.Known(agent, f)
			checkBuilt(t, "Known by no agent", g, ok, "")
		}
	}
}

func TestFormulasOfTwoFormulas(t *testing.T) {
	list := append(formulasUpTo(2), randomFormulas()...)
	for i, f := range list {
		for _, g := range [][]impl.Node{f, list[(i*7+3)%len(list)], list[(i*31+11)%len(list)], list[0]} {
			both := plainText(f, len(f)-1) + plainText(g, len(g)-1)
			h, ok := impl.Conjoin(f, g)
			checkBuilt(t, "Conjoin", h, ok, unlessLong("&"+both, len(f)+len(g)+1))
			h, ok = impl.After(f, g)
			checkBuilt(t, "After", h, ok, unlessLong("!"+both, len(f)+len(g)+1))
		}
	}
}

func TestFormulasOfTheGreatestSize(t *testing.T) {
	for n := 1; n <= 40; n++ {
		f := chain(n)
		text := plainText(f, n-1)
		g, ok := impl.Negate(f)
		checkBuilt(t, "Negate", g, ok, unlessLong("-"+text, n+1))
		g, ok = impl.Known(1, f)
		checkBuilt(t, "Known", g, ok, unlessLong("K1"+text, n+1))
		for m := 1; m <= 40; m++ {
			other := chain(m)
			both := text + plainText(other, m-1)
			g, ok = impl.Conjoin(f, other)
			checkBuilt(t, "Conjoin", g, ok, unlessLong("&"+both, n+m+1))
			g, ok = impl.After(f, other)
			checkBuilt(t, "After", g, ok, unlessLong("!"+both, n+m+1))
		}
	}
}

func TestFormulasOfInvalidLists(t *testing.T) {
	good := read(t, "&aK1b")
	for name, bad := range invalidLists() {
		f, ok := impl.Negate(bad)
		checkBuilt(t, "Negate of "+name, f, ok, "")
		f, ok = impl.Known(0, bad)
		checkBuilt(t, "Known of "+name, f, ok, "")
		f, ok = impl.Known(3, bad)
		checkBuilt(t, "Known by no agent of "+name, f, ok, "")
		for _, pair := range [][2][]impl.Node{{bad, good}, {good, bad}, {bad, bad}} {
			f, ok = impl.Conjoin(pair[0], pair[1])
			checkBuilt(t, "Conjoin of "+name, f, ok, "")
			f, ok = impl.After(pair[0], pair[1])
			checkBuilt(t, "After of "+name, f, ok, "")
		}
	}
}

// callAllOf calls every function of the layer that takes formulas, and returns the formulas that it gets.
func callAllOf(f []impl.Node, g []impl.Node) [][]impl.Node {
	impl.FormulaOk(f)
	impl.FormatFormula(f)
	impl.SameFormula(f, g)
	impl.DepthOf(f)
	impl.CountOp(f, impl.OpNot)
	parsed, _ := impl.ParseFormula(impl.FormatFormula(f))
	negated, _ := impl.Negate(f)
	conjoined, _ := impl.Conjoin(f, g)
	known, _ := impl.Known(1, f)
	after, _ := impl.After(f, g)
	return [][]impl.Node{parsed, negated, conjoined, known, after}
}

func TestFormulaArgumentsAreNotModified(t *testing.T) {
	mark := impl.Node{Op: 101, N: 102, A: 103, B: 104}
	// roomy returns a list with marks behind its end, up to its capacity.
	roomy := func(f []impl.Node) []impl.Node {
		return append(slices.Clone(f), mark, mark, mark, mark)[:len(f)]
	}
	lists := append(formulasUpTo(3), randomFormulas()...)
	for _, bad := range invalidLists() {
		lists = append(lists, bad)
	}
	for i, f := range lists {
		g := lists[(i*13+5)%len(lists)]
		first, second := roomy(f), roomy(g)
		callAllOf(first, second)
		callAllOf(first, first)
		for _, pair := range [][2][]impl.Node{{first, f}, {second, g}} {
			n := len(pair[1])
			whole := pair[0][:n+4]
			if !slices.Equal(whole[:n], pair[1]) || !slices.Equal(whole[n:], []impl.Node{mark, mark, mark, mark}) {
				t.Errorf("an argument or the room behind it was changed: %v", pair[1])
			}
		}
	}
}

// checkNewFormulas checks that the formulas that a call returns share no memory with its argument or with one another.
func checkNewFormulas(t *testing.T, f []impl.Node, call func(f []impl.Node) [][]impl.Node) {
	t.Helper()
	f = f[:len(f):len(f)]
	before := slices.Clone(f)
	kept := call(f)
	want := call(before)
	for _, result := range call(f) {
		result = result[:cap(result)]
		for i := range result {
			result[i] = impl.Node{Op: 99, N: 99, A: 99, B: 99}
		}
	}
	if !slices.Equal(f, before) {
		t.Fatalf("a result shares memory with the argument %v", before)
	}
	for i, result := range kept {
		if !slices.Equal(result, want[i]) {
			t.Fatalf("results share memory: %v is %v", want[i], result)
		}
	}
}

func TestFormulaResultsAreNew(t *testing.T) {
	for _, f := range append(formulasUpTo(2), randomFormulas()...) {
		checkNewFormulas(t, f, func(f []impl.Node) [][]impl.Node { return callAllOf(f, f) })
	}
}
