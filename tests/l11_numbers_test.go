package tests

import (
	"fmt"
	"math"
	"slices"
	"sync"
	"testing"

	"loop.example/g00945/impl"
)

// numbersAround returns the numbers that a pair can have and those around them, those around the number of answers that are
// given at most, and the ends of the range.
func numbersAround() []int {
	return append(numbers(-3, 43), 63, 64, 79, 80, 81, 99, 100, 101, 255, 256, math.MinInt, math.MinInt+1, math.MaxInt-1, math.MaxInt)
}

// plainUpTo is a second way to find all pairs of numbers up to a greatest one: each number between has two neighbours.
func plainUpTo(most int) []impl.Pair {
	if most < 1 || most > 40 {
		return nil
	}
	pairs := []impl.Pair{{A: 0, B: 1}}
	for a := 1; a < most; a++ {
		pairs = append(pairs, impl.Pair{A: a, B: a - 1}, impl.Pair{A: a, B: a + 1})
	}
	return append(pairs, impl.Pair{A: most, B: most - 1})
}

// seesSame reports whether a person sees the same number in two pairs.
func seesSame(p impl.Pair, q impl.Pair, first bool) bool {
	return first && p.B == q.B || !first && p.A == q.A
}

// plainKnows is a second way to find out whether a person knows the own number: by counting.
func plainKnows(list []impl.Pair, p impl.Pair, first bool) bool {
	same, equal := 0, 0
	for _, q := range list {
		if seesSame(p, q, first) {
			same++
		}
		if p.A == q.A && p.B == q.B {
			equal++
		}
	}
	return equal > 0 && same == equal
}

// plainAnswered is a second way to leave the pairs in which a person would give an answer.
func plainAnswered(list []impl.Pair, first bool, knows bool) []impl.Pair {
	return slices.DeleteFunc(slices.Clone(list), func(p impl.Pair) bool { return plainKnows(list, p, first) != knows })
}

// plainLeft is a second way to leave the pairs that are possible after answers in turn.
func plainLeft(most int, answers []bool) []impl.Pair {
	if len(answers) > 100 {
		return nil
	}
	left := plainUpTo(most)
	for turn, knows := range answers {
		left = plainAnswered(left, turn%2 == 0, knows)
	}
	return left
}

// plainTurn is a second way to count the answers for a pair that is possible. From the pairs with 0, each answer tells
// something of the next higher ones, and from those with the greatest number of the next lower ones; the first person
// begins if it sees the end, and the second one an answer later.
func plainTurn(most int, p impl.Pair) int {
	below, above := min(p.A, p.B)+1, most-max(p.A, p.B)+1
	if p.B%2 != 0 {
		below++
	}
	if p.B%2 != most%2 {
		above++
	}
	return min(below, above)
}

// untilTrue returns so many answers, of which just the last one is true.
func untilTrue(turns int) []bool {
	return append(make([]bool, turns-1), true)
}

// pairsFrom returns all pairs of some numbers.
func pairsFrom(from []int) []impl.Pair {
	var all []impl.Pair
	for _, a := range from {
		for _, b := range from {
			all = append(all, impl.Pair{A: a, B: b})
		}
	}
	return all
}

// shortPairLists returns all lists of up to 3 pairs of three numbers, and of 4 pairs of two numbers.
func shortPairLists() [][]impl.Pair {
	var all [][]impl.Pair
	for n := range 4 {
		all = append(all, allLists(pairsFrom([]int{0, 1, 2}), n)...)
	}
	return append(all, allLists(pairsFrom([]int{1, 2}), 4)...)
}

// randomPairLists returns lists of many lengths, with few or many numbers, of pairs that are valid or not.
func randomPairLists() [][]impl.Pair {
	d := dice(71)
	var all [][]impl.Pair
	for _, from := range [][]int{{3, 4}, numbers(0, 5), numbers(-20, 60), {math.MinInt, -1, 0, 1, math.MaxInt}} {
		for n := range 40 {
			var list []impl.Pair
			for range n {
				list = append(list, impl.Pair{A: from[d.below(len(from))], B: from[d.below(len(from))]})
			}
			all = append(all, list)
		}
	}
	for n := range 40 {
		pairs := plainUpTo(1 + n)
		all = append(all, pairs, slices.DeleteFunc(plainUpTo(40), func(impl.Pair) bool { return d.below(40) < n }))
		// Duplicates and another order of the pairs.
		slices.Reverse(pairs)
		all = append(all, append(pairs, pairs[:n]...))
	}
	return all
}

// somePairLists returns the lists with which the functions are compared with the second ways.
func somePairLists() [][]impl.Pair {
	return append(shortPairLists(), randomPairLists()...)
}

// pairsNear returns the pairs of a list, and some that differ from them in one number or two.
func pairsNear(list []impl.Pair) []impl.Pair {
	near := append(slices.Clone(list), impl.Pair{}, impl.Pair{A: 1, B: 1}, impl.Pair{A: math.MaxInt, B: math.MinInt})
	for i, p := range list {
		near = append(near, impl.Pair{A: p.B, B: p.A}, impl.Pair{A: p.A, B: p.B + 1}, impl.Pair{A: p.A - 1, B: p.B}, impl.Pair{A: p.A, B: list[len(list)-1-i].B})
	}
	return near
}

// checkPairs compares pairs with what they should be.
func checkPairs(t *testing.T, label string, got []impl.Pair, want []impl.Pair) {
	t.Helper()
	if !slices.Equal(got, want) {
		t.Errorf("%s = %v, want %v", label, got, want)
	}
}

// checkAnswers compares what the functions say of a pair with the answers that there should be.
func checkAnswers(t *testing.T, most int, p impl.Pair, want []bool, wantOk bool) {
	t.Helper()
	got, ok := impl.AnswersFor(most, p)
	checkResult(t, fmt.Sprintf("AnswersFor(%d, %v)", most, p), got, ok, want, wantOk, slices.Equal[[]bool], func([]bool) bool { return true })
	turn := 0
	if wantOk {
		turn = len(want)
	}
	if got := impl.TurnOf(most, p); got != turn {
		t.Errorf("TurnOf(%d, %v) = %d, want %d", most, p, got, turn)
	}
}

func TestPairOk(t *testing.T) {
	for _, c := range []struct {
		p    impl.Pair
		want bool
	}{
		{impl.Pair{A: 0, B: 1}, true},
		{impl.Pair{A: 1, B: 0}, true},
		{impl.Pair{A: 7, B: 8}, true},
		{impl.Pair{A: 8, B: 7}, true},
		{impl.Pair{A: 39, B: 40}, true},
		{impl.Pair{A: 40, B: 39}, true},
		{impl.Pair{A: 40, B: 41}, false},
		{impl.Pair{A: 41, B: 40}, false},
		{impl.Pair{A: 0, B: -1}, false},
		{impl.Pair{A: -1, B: 0}, false},
		{impl.Pair{A: 0, B: 0}, false},
		{impl.Pair{A: 5, B: 5}, false},
		{impl.Pair{A: 5, B: 7}, false},
		{impl.Pair{A: 7, B: 5}, false},
		{impl.Pair{A: 0, B: 40}, false},
		{impl.Pair{A: -2, B: -1}, false},
		{impl.Pair{A: 41, B: 42}, false},
		// Their difference wraps around to 1.
		{impl.Pair{A: math.MinInt, B: math.MaxInt}, false},
		{impl.Pair{A: math.MaxInt, B: math.MinInt}, false},
	} {
		if got := impl.PairOk(c.p); got != c.want {
			t.Errorf("PairOk(%v) = %v", c.p, got)
		}
	}
}

func TestPairOkOfAllNumbers(t *testing.T) {
	valid := plainUpTo(40)
	count := 0
	for _, p := range pairsFrom(numbersAround()) {
		got := impl.PairOk(p)
		if got != slices.Contains(valid, p) {
			t.Errorf("PairOk(%v) = %v", p, got)
		}
		if got {
			count++
		}
	}
	if count != 80 {
		t.Errorf("%d pairs are valid", count)
	}
}

func TestAllPairs(t *testing.T) {
	for _, c := range []struct {
		most int
		want []impl.Pair
	}{
		{1, []impl.Pair{{A: 0, B: 1}, {A: 1, B: 0}}},
		{2, []impl.Pair{{A: 0, B: 1}, {A: 1, B: 0}, {A: 1, B: 2}, {A: 2, B: 1}}},
		{3, []impl.Pair{{A: 0, B: 1}, {A: 1, B: 0}, {A: 1, B: 2}, {A: 2, B: 1}, {A: 2, B: 3}, {A: 3, B: 2}}},
		{0, nil},
		{-1, nil},
		{41, nil},
		{math.MinInt, nil},
		{math.MaxInt, nil},
	} {
		checkPairs(t, fmt.Sprintf("AllPairs(%d)", c.most), impl.AllPairs(c.most), c.want)
	}
	for _, most := range numbersAround() {
		checkPairs(t, fmt.Sprintf("AllPairs(%d)", most), impl.AllPairs(most), plainUpTo(most))
	}
}

func TestAllPairsAreAllThatAreValid(t *testing.T) {
	for most := 1; most <= 40; most++ {
		var want []impl.Pair
		for _, p := range pairsFrom(numbers(0, most)) {
			if impl.PairOk(p) {
				want = append(want, p)
			}
		}
		checkPairs(t, fmt.Sprintf("AllPairs(%d)", most), impl.AllPairs(most), want)
		if len(want) != 2*most {
			t.Errorf("there are %d valid pairs up to %d", len(want), most)
		}
	}
}

func TestKnowsOwn(t *testing.T) {
	for _, c := range []struct {
		list   []impl.Pair
		p      impl.Pair
		first  bool
		second bool
	}{
		{plainUpTo(3), impl.Pair{A: 1, B: 0}, true, false},
		{plainUpTo(3), impl.Pair{A: 0, B: 1}, false, true},
		{plainUpTo(3), impl.Pair{A: 2, B: 3}, true, false},
		{plainUpTo(3), impl.Pair{A: 3, B: 2}, false, true},
		{plainUpTo(3), impl.Pair{A: 1, B: 2}, false, false},
		{plainUpTo(1), impl.Pair{A: 0, B: 1}, true, true},
		// A pair that is not in the list, but would be the only one.
		{plainUpTo(3), impl.Pair{A: 3, B: 4}, false, false},
		{plainUpTo(3), impl.Pair{A: 5, B: 6}, false, false},
		{nil, impl.Pair{A: 0, B: 1}, false, false},
		{nil, impl.Pair{}, false, false},
		// The only pair with the number that is seen is another one.
		{[]impl.Pair{{A: 4, B: 5}}, impl.Pair{A: 6, B: 5}, false, false},
		{[]impl.Pair{{A: 4, B: 5}}, impl.Pair{A: 4, B: 3}, false, false},
		{[]impl.Pair{{A: 4, B: 5}}, impl.Pair{A: 4, B: 5}, true, true},
		{[]impl.Pair{{A: 4, B: 5}, {A: 5, B: 4}}, impl.Pair{A: 4, B: 5}, true, true},
		// The same pair twice leaves no doubt.
		{[]impl.Pair{{A: 4, B: 5}, {A: 4, B: 5}}, impl.Pair{A: 4, B: 5}, true, true},
		{[]impl.Pair{{A: 4, B: 5}, {A: 4, B: 5}, {A: 6, B: 5}}, impl.Pair{A: 4, B: 5}, false, true},
		{[]impl.Pair{{A: 4, B: 5}, {A: 4, B: 3}, {A: 4, B: 5}}, impl.Pair{A: 4, B: 5}, true, false},
		{[]impl.Pair{{A: 4, B: 5}, {A: 4, B: 3}, {A: 6, B: 5}}, impl.Pair{A: 4, B: 5}, false, false},
		{[]impl.Pair{{A: 6, B: 5}, {A: 8, B: 5}, {A: 4, B: 5}}, impl.Pair{A: 4, B: 5}, false, true},
		// Pairs that are not valid count as well.
		{[]impl.Pair{{A: -4, B: 50}, {A: 7, B: 7}}, impl.Pair{A: -4, B: 50}, true, true},
		{[]impl.Pair{{A: -4, B: 50}, {A: 7, B: 50}}, impl.Pair{A: -4, B: 50}, false, true},
		{[]impl.Pair{{A: 7, B: 7}, {A: 7, B: 0}}, impl.Pair{A: 7, B: 7}, true, false},
		{[]impl.Pair{{}}, impl.Pair{}, true, true},
		{[]impl.Pair{{}, {A: math.MinInt}}, impl.Pair{}, false, true},
		{[]impl.Pair{{A: math.MaxInt, B: math.MinInt}}, impl.Pair{A: math.MaxInt, B: math.MinInt}, true, true},
	} {
		if got := impl.KnowsOwn(c.list, c.p, true); got != c.first {
			t.Errorf("KnowsOwn(%v, %v, true) = %v", c.list, c.p, got)
		}
		if got := impl.KnowsOwn(c.list, c.p, false); got != c.second {
			t.Errorf("KnowsOwn(%v, %v, false) = %v", c.list, c.p, got)
		}
	}
}

func TestKnowsOwnOfManyLists(t *testing.T) {
	knowing, doubting := 0, 0
	for _, list := range somePairLists() {
		for _, p := range pairsNear(list) {
			for _, first := range []bool{true, false} {
				want := plainKnows(list, p, first)
				if got := impl.KnowsOwn(list, p, first); got != want {
					t.Errorf("KnowsOwn(%v, %v, %v) = %v", list, p, first, got)
				}
				if want {
					knowing++
				} else {
					doubting++
				}
			}
		}
	}
	if knowing < 5000 || doubting < 5000 {
		t.Errorf("%d persons know the own number, and %d do not", knowing, doubting)
	}
}

func TestAtFirstOnlyTheEndsAreKnown(t *testing.T) {
	for most := 1; most <= 40; most++ {
		list := impl.AllPairs(most)
		for _, p := range pairsNear(plainUpTo(40)) {
			isIn := slices.Contains(plainUpTo(most), p)
			if got, want := impl.KnowsOwn(list, p, true), isIn && (p.B == 0 || p.B == most); got != want {
				t.Errorf("KnowsOwn(AllPairs(%d), %v, true) = %v", most, p, got)
			}
			if got, want := impl.KnowsOwn(list, p, false), isIn && (p.A == 0 || p.A == most); got != want {
				t.Errorf("KnowsOwn(AllPairs(%d), %v, false) = %v", most, p, got)
			}
		}
	}
}

func TestAfterAnswer(t *testing.T) {
	mixed := []impl.Pair{{A: 6, B: 5}, {A: 1, B: 2}, {A: 4, B: 5}, {A: 1, B: 2}, {A: 6, B: 7}, {A: 4, B: 5}, {A: -9, B: 77}}
	for _, c := range []struct {
		list  []impl.Pair
		first bool
		knows bool
		want  []impl.Pair
	}{
		{plainUpTo(3), true, true, []impl.Pair{{A: 1, B: 0}, {A: 2, B: 3}}},
		{plainUpTo(3), true, false, []impl.Pair{{A: 0, B: 1}, {A: 1, B: 2}, {A: 2, B: 1}, {A: 3, B: 2}}},
		{plainUpTo(3), false, true, []impl.Pair{{A: 0, B: 1}, {A: 3, B: 2}}},
		{plainUpTo(3), false, false, []impl.Pair{{A: 1, B: 0}, {A: 1, B: 2}, {A: 2, B: 1}, {A: 2, B: 3}}},
		{plainUpTo(1), true, true, plainUpTo(1)},
		{plainUpTo(1), true, false, nil},
		{nil, true, true, nil},
		{nil, false, false, nil},
		// The order and the duplicates stay.
		{mixed, true, true, []impl.Pair{{A: 1, B: 2}, {A: 1, B: 2}, {A: 6, B: 7}, {A: -9, B: 77}}},
		{mixed, true, false, []impl.Pair{{A: 6, B: 5}, {A: 4, B: 5}, {A: 4, B: 5}}},
		{mixed, false, true, []impl.Pair{{A: 1, B: 2}, {A: 4, B: 5}, {A: 1, B: 2}, {A: 4, B: 5}, {A: -9, B: 77}}},
		{mixed, false, false, []impl.Pair{{A: 6, B: 5}, {A: 6, B: 7}}},
	} {
		label := fmt.Sprintf("AfterAnswer(%v, %v, %v)", c.list, c.first, c.knows)
		checkPairs(t, label, impl.AfterAnswer(c.list, c.first, c.knows), c.want)
	}
}

func TestAfterAnswerOfManyLists(t *testing.T) {
	for _, list := range somePairLists() {
		for _, first := range []bool{true, false} {
			yes, no := impl.AfterAnswer(list, first, true), impl.AfterAnswer(list, first, false)
			checkPairs(t, fmt.Sprintf("AfterAnswer(%v, %v, true)", list, first), yes, plainAnswered(list, first, true))
			checkPairs(t, fmt.Sprintf("AfterAnswer(%v, %v, false)", list, first), no, plainAnswered(list, first, false))
			// Who knows the own number says so in each of these pairs, and so goes on saying it; the same holds for who does not.
			checkPairs(t, fmt.Sprintf("AfterAnswer(%v, %v, true)", yes, first), impl.AfterAnswer(yes, first, true), yes)
			checkPairs(t, fmt.Sprintf("AfterAnswer(%v, %v, false)", no, first), impl.AfterAnswer(no, first, false), no)
		}
	}
}

func TestAfterAnswerIsKnowsOwnInEachPair(t *testing.T) {
	for _, list := range somePairLists() {
		for _, first := range []bool{true, false} {
			yes, no := impl.AfterAnswer(list, first, true), impl.AfterAnswer(list, first, false)
			for _, p := range list {
				knows := impl.KnowsOwn(list, p, first)
				if slices.Contains(yes, p) != knows || slices.Contains(no, p) == knows {
					t.Errorf("KnowsOwn(%v, %v, %v) = %v, but AfterAnswer leaves %v or %v", list, p, first, knows, yes, no)
				}
			}
			if len(yes)+len(no) != len(list) {
				t.Errorf("AfterAnswer of %v leaves %v or %v", list, yes, no)
			}
		}
	}
}

func TestAnswersOfLongLists(t *testing.T) {
	// In the first half all pairs have the same B, and in the second half the same A.
	var list []impl.Pair
	for n := range 20000 {
		list = append(list, impl.Pair{A: n + 1, B: 0})
	}
	for n := range 20000 {
		list = append(list, impl.Pair{A: 0, B: n + 1})
	}
	half := len(list) / 2
	for _, c := range []struct {
		first bool
		knows bool
		want  []impl.Pair
	}{
		{true, true, list[half:]},
		{true, false, list[:half]},
		{false, true, list[:half]},
		{false, false, list[half:]},
	} {
		if got := impl.AfterAnswer(list, c.first, c.knows); !slices.Equal(got, c.want) {
			t.Errorf("AfterAnswer(long, %v, %v) leaves %d pairs", c.first, c.knows, len(got))
		}
	}
	if impl.KnowsOwn(list, list[0], true) || !impl.KnowsOwn(list, list[0], false) || !impl.KnowsOwn(list, list[half], true) || impl.KnowsOwn(list, list[half], false) {
		t.Error("KnowsOwn of a long list")
	}
}

func TestAnswersFor(t *testing.T) {
	for _, c := range []struct {
		most  int
		p     impl.Pair
		turns int
	}{
		// At the lower end, whoever sees 0 knows.
		{40, impl.Pair{A: 1, B: 0}, 1},
		{40, impl.Pair{A: 0, B: 1}, 2},
		{40, impl.Pair{A: 1, B: 2}, 2},
		{40, impl.Pair{A: 2, B: 1}, 3},
		{40, impl.Pair{A: 3, B: 2}, 3},
		{40, impl.Pair{A: 2, B: 3}, 4},
		{40, impl.Pair{A: 3, B: 4}, 4},
		// At the upper end, whoever sees the greatest number knows.
		{40, impl.Pair{A: 39, B: 40}, 1},
		{40, impl.Pair{A: 40, B: 39}, 2},
		{40, impl.Pair{A: 39, B: 38}, 2},
		{40, impl.Pair{A: 38, B: 39}, 3},
		{40, impl.Pair{A: 37, B: 38}, 3},
		{40, impl.Pair{A: 19, B: 20}, 20},
		{40, impl.Pair{A: 20, B: 19}, 21},
		{40, impl.Pair{A: 20, B: 21}, 21},
		{40, impl.Pair{A: 21, B: 20}, 20},
		{39, impl.Pair{A: 38, B: 39}, 1},
		{39, impl.Pair{A: 39, B: 38}, 2},
		{39, impl.Pair{A: 20, B: 19}, 20},
		{12, impl.Pair{A: 1, B: 0}, 1},
		{12, impl.Pair{A: 2, B: 3}, 4},
		{12, impl.Pair{A: 6, B: 7}, 7},
		{1, impl.Pair{A: 0, B: 1}, 1},
		{1, impl.Pair{A: 1, B: 0}, 1},
		{2, impl.Pair{A: 0, B: 1}, 2},
		{2, impl.Pair{A: 1, B: 0}, 1},
		{2, impl.Pair{A: 1, B: 2}, 1},
		{2, impl.Pair{A: 2, B: 1}, 2},
		{3, impl.Pair{A: 1, B: 2}, 2},
		{3, impl.Pair{A: 2, B: 1}, 2},
	} {
		checkAnswers(t, c.most, c.p, untilTrue(c.turns), true)
	}
}

func TestAnswersForPairsThatAreNotPossible(t *testing.T) {
	for _, c := range []struct {
		most int
		p    impl.Pair
	}{
		{2, impl.Pair{A: 2, B: 3}},
		{2, impl.Pair{A: 3, B: 2}},
		{2, impl.Pair{A: 5, B: 6}},
		{39, impl.Pair{A: 39, B: 40}},
		{40, impl.Pair{A: 40, B: 41}},
		{40, impl.Pair{A: 41, B: 40}},
		{40, impl.Pair{A: 0, B: -1}},
		{40, impl.Pair{A: -1, B: 0}},
		{40, impl.Pair{A: 7, B: 7}},
		{40, impl.Pair{A: 7, B: 9}},
		{40, impl.Pair{}},
		{41, impl.Pair{A: 1, B: 0}},
		{100, impl.Pair{A: 1, B: 0}},
		{0, impl.Pair{A: 1, B: 0}},
		{0, impl.Pair{}},
		{-1, impl.Pair{A: 0, B: 1}},
		{math.MinInt, impl.Pair{A: 1, B: 0}},
		{math.MaxInt, impl.Pair{A: 1, B: 0}},
		{40, impl.Pair{A: math.MinInt, B: math.MaxInt}},
		{40, impl.Pair{A: math.MaxInt, B: math.MinInt}},
	} {
		checkAnswers(t, c.most, c.p, nil, false)
	}
}

func TestAnswersForAllNumbers(t *testing.T) {
	count := 0
	for _, most := range numbersAround() {
		possible := plainUpTo(most)
		for _, a := range numbersAround() {
			for _, b := range []int{a - 2, a - 1, a, a + 1, a + 2, -a, 0, most} {
				p := impl.Pair{A: a, B: b}
				if !slices.Contains(possible, p) {
					checkAnswers(t, most, p, nil, false)
					continue
				}
				checkAnswers(t, most, p, untilTrue(plainTurn(most, p)), true)
				count++
			}
		}
	}
	if count < 1600 {
		t.Errorf("only %d pairs have answers", count)
	}
}

func TestAnswersAreTrue(t *testing.T) {
	for most := 1; most <= 40; most++ {
		said := map[impl.Pair][]bool{}
		for _, p := range impl.AllPairs(most) {
			said[p], _ = impl.AnswersFor(most, p)
		}
		for p, answers := range said {
			left := impl.AllPairs(most)
			for turn, knows := range answers {
				first := turn%2 == 0
				if got := impl.KnowsOwn(left, p, first); got != knows {
					t.Errorf("answer %d for %v up to %d is %v, but KnowsOwn is %v", turn+1, p, most, knows, got)
				}
				if knows != (turn == len(answers)-1) {
					t.Errorf("AnswersFor(%d, %v) = %v", most, p, answers)
				}
				left = impl.AfterAnswer(left, first, knows)
				if !slices.Contains(left, p) {
					t.Errorf("%v is left out by its own answers up to %d", p, most)
				}
			}
			checkPairs(t, fmt.Sprintf("PairsLeft(%d, %v)", most, answers), impl.PairsLeft(most, answers), left)
			// Whoever hears all answers without seeing a number still takes just these pairs for possible.
			for _, q := range impl.AllPairs(most) {
				if slices.Contains(left, q) != slices.Equal(said[q], answers) {
					t.Errorf("%v and %v up to %d have the answers %v and %v, but %v is left", p, q, most, answers, said[q], left)
				}
			}
		}
	}
}

// numbersModel returns the model of the possible pairs, at most 16, each with Facts of its own, in which the agent 0 has A
// and sees B, and the agent 1 has B and sees A.
func numbersModel(pairs []impl.Pair, actual int) impl.Model {
	var as, bs []int
	for _, p := range pairs {
		as = append(as, p.A)
		bs = append(bs, p.B)
	}
	return impl.Model{Facts: numbers(0, len(pairs)-1), Blocks: [][]int{plainNumbers(bs), plainNumbers(as)}, Actual: actual}
}

func TestAnswersAreThoseOfModels(t *testing.T) {
	for most := 1; most <= 8; most++ {
		pairs := impl.AllPairs(most)
		for actual, p := range pairs {
			m := numbersModel(pairs, actual)
			var answers []bool
			for len(answers) < 100 && !slices.Contains(answers, true) {
				agent := len(answers) % 2
				answers = append(answers, impl.KnowsWhich(m, agent))
				left := slices.DeleteFunc(numbers(0, len(m.Facts)-1), func(world int) bool {
					return impl.KnowsWhich(withActual(m, world), agent) != answers[len(answers)-1]
				})
				m, _ = impl.RestrictModel(m, left)
				var possible []impl.Pair
				for _, number := range m.Facts {
					possible = append(possible, pairs[number])
				}
				checkPairs(t, fmt.Sprintf("PairsLeft(%d, %v)", most, answers), impl.PairsLeft(most, answers), possible)
			}
			checkAnswers(t, most, p, answers, true)
		}
	}
}

func TestPairsLeft(t *testing.T) {
	for _, c := range []struct {
		most    int
		answers string
		want    []impl.Pair
	}{
		{1, "", plainUpTo(1)},
		{40, "", plainUpTo(40)},
		{3, "n", []impl.Pair{{A: 0, B: 1}, {A: 1, B: 2}, {A: 2, B: 1}, {A: 3, B: 2}}},
		{3, "y", []impl.Pair{{A: 1, B: 0}, {A: 2, B: 3}}},
		{3, "ny", []impl.Pair{{A: 0, B: 1}, {A: 1, B: 2}, {A: 2, B: 1}, {A: 3, B: 2}}},
		{3, "nn", nil},
		{3, "yy", []impl.Pair{{A: 1, B: 0}, {A: 2, B: 3}}},
		{3, "yn", nil},
		{3, "nnyny", nil},
		{4, "n", []impl.Pair{{A: 0, B: 1}, {A: 1, B: 2}, {A: 2, B: 1}, {A: 2, B: 3}, {A: 3, B: 2}, {A: 4, B: 3}}},
		{4, "ny", []impl.Pair{{A: 0, B: 1}, {A: 1, B: 2}, {A: 3, B: 2}, {A: 4, B: 3}}},
		{4, "nn", []impl.Pair{{A: 2, B: 1}, {A: 2, B: 3}}},
		{4, "nyn", []impl.Pair{{A: 1, B: 2}, {A: 3, B: 2}}},
		{4, "nyy", []impl.Pair{{A: 0, B: 1}, {A: 4, B: 3}}},
		{4, "nnyn", []impl.Pair{{A: 2, B: 1}, {A: 2, B: 3}}},
		{4, "nnyy", nil},
		{0, "", nil},
		{41, "", nil},
		{-1, "n", nil},
		{41, "y", nil},
	} {
		checkPairs(t, fmt.Sprintf("PairsLeft(%d, %s)", c.most, c.answers), impl.PairsLeft(c.most, answersOf(c.answers)), c.want)
	}
}

func TestPairsLeftAfterAllShortAnswers(t *testing.T) {
	empty, some := 0, 0
	for _, most := range numbersAround() {
		for n := range 7 {
			for _, answers := range allLists([]bool{true, false}, n) {
				want := plainLeft(most, answers)
				checkPairs(t, fmt.Sprintf("PairsLeft(%d, %v)", most, answers), impl.PairsLeft(most, answers), want)
				if len(want) == 0 {
					empty++
				} else {
					some++
				}
			}
		}
	}
	if empty < 1000 || some < 1000 {
		t.Errorf("some pairs are left after %d lists of answers, and none after %d", some, empty)
	}
}

func TestPairsLeftByTurns(t *testing.T) {
	for most := 1; most <= 40; most++ {
		for turns := range 101 {
			// As long as nobody knows, just the pairs are left with more answers.
			more := slices.DeleteFunc(plainUpTo(most), func(p impl.Pair) bool { return plainTurn(most, p) <= turns })
			silent := make([]bool, turns)
			checkPairs(t, fmt.Sprintf("PairsLeft(%d, %v)", most, silent), impl.PairsLeft(most, silent), more)
			if turns == 0 {
				continue
			}
			just := slices.DeleteFunc(plainUpTo(most), func(p impl.Pair) bool { return plainTurn(most, p) != turns })
			checkPairs(t, fmt.Sprintf("PairsLeft(%d, %v)", most, untilTrue(turns)), impl.PairsLeft(most, untilTrue(turns)), just)
		}
	}
}

func TestPairsLeftAfterManyAnswers(t *testing.T) {
	all := slices.Repeat([]bool{true}, 102)
	// If both persons know at once, they never tell anything by saying so.
	for n := range 101 {
		checkPairs(t, fmt.Sprintf("PairsLeft(1, %d times yes)", n), impl.PairsLeft(1, all[:n]), plainUpTo(1))
	}
	for _, most := range numbersAround() {
		for _, n := range []int{101, 102} {
			checkPairs(t, fmt.Sprintf("PairsLeft(%d, %d times yes)", most, n), impl.PairsLeft(most, all[:n]), nil)
			checkPairs(t, fmt.Sprintf("PairsLeft(%d, %d times no)", most, n), impl.PairsLeft(most, make([]bool, n)), nil)
		}
	}
}

func TestPairsLeftIfTheAnswersGoOn(t *testing.T) {
	for _, most := range []int{1, 2, 3, 4, 5, 12, 39, 40} {
		for _, p := range plainUpTo(most) {
			answers, _ := impl.AnswersFor(most, p)
			left := plainLeft(most, answers)
			for len(answers) <= 100 {
				checkPairs(t, fmt.Sprintf("PairsLeft(%d, %v)", most, answers), impl.PairsLeft(most, answers), left)
				first := len(answers)%2 == 0
				answers = append(answers, plainKnows(left, p, first))
				left = plainAnswered(left, first, answers[len(answers)-1])
			}
			checkPairs(t, fmt.Sprintf("PairsLeft(%d, %v)", most, answers), impl.PairsLeft(most, answers), nil)
		}
	}
}

// callAllNumbers calls every function of the layer, and returns the lists that it gets.
func callAllNumbers(list []impl.Pair, most int, answers []bool) ([][]impl.Pair, [][]bool) {
	p := impl.Pair{A: most - 1, B: most}
	if len(list) > 0 {
		p = list[len(list)/2]
	}
	impl.PairOk(p)
	impl.KnowsOwn(list, p, true)
	impl.KnowsOwn(list, p, false)
	impl.TurnOf(most, p)
	given, _ := impl.AnswersFor(most, p)
	again, _ := impl.AnswersFor(most, impl.Pair{A: most, B: most - 1})
	pairs := [][]impl.Pair{impl.AllPairs(most), impl.PairsLeft(most, nil), impl.PairsLeft(most, answers)}
	for _, first := range []bool{true, false} {
		pairs = append(pairs, impl.AfterAnswer(list, first, true), impl.AfterAnswer(list, first, false))
	}
	return pairs, [][]bool{given, again}
}

// answersLike returns as many answers as a list has pairs.
func answersLike(list []impl.Pair) []bool {
	var answers []bool
	for i, p := range list {
		answers = append(answers, (p.A+i)%5 == 0)
	}
	return answers
}

func TestNumbersArgumentsAreNotModified(t *testing.T) {
	mark := impl.Pair{A: marked, B: marked}
	for i, list := range somePairLists() {
		answers := answersLike(list)
		for _, answer := range []bool{true, false} {
			pairs, given := withRoom(list, mark), withRoom(answers, answer)
			callAllNumbers(pairs, i%43, given)
			if !hasRoom(pairs, list, mark) || !hasRoom(given, answers, answer) {
				t.Errorf("an argument or the room behind it was changed: %v", list)
			}
		}
	}
}

// equalPairLists reports whether the pairs of two lists of lists are the same.
func equalPairLists(first [][]impl.Pair, second [][]impl.Pair) bool {
	return slices.EqualFunc(first, second, slices.Equal[[]impl.Pair])
}

func TestNumbersResultsAreNew(t *testing.T) {
	for i, list := range somePairLists() {
		most := i % 43
		answers := answersLike(list)
		list = slices.Clip(slices.Clone(list))
		before, answersBefore := slices.Clone(list), slices.Clone(answers)
		kept, keptAnswers := callAllNumbers(list, most, answers)
		want, wantAnswers := callAllNumbers(before, most, answersBefore)
		for j, pairs := range kept {
			for k := range pairs[:cap(pairs)] {
				pairs[:cap(pairs)][k] = impl.Pair{A: marked, B: marked}
			}
			if !equalPairLists(kept[j+1:], want[j+1:]) {
				t.Fatalf("two results for %v share memory", before)
			}
		}
		for j, said := range keptAnswers {
			for k := range said[:cap(said)] {
				said[:cap(said)][k] = !said[:cap(said)][k]
			}
			if !equalRounds(keptAnswers[j+1:], wantAnswers[j+1:]) {
				t.Fatalf("two lists of answers for %v share memory", before)
			}
		}
		if !slices.Equal(list, before) || !slices.Equal(answers, answersBefore) {
			t.Fatalf("a result shares memory with the argument %v", before)
		}
		again, againAnswers := callAllNumbers(list, most, answers)
		if !equalPairLists(again, want) || !equalRounds(againAnswers, wantAnswers) {
			t.Fatalf("the results for %v differ from call to call", before)
		}
	}
}

func TestNumbersResultsDoNotDependOnOtherCalls(t *testing.T) {
	lists := randomPairLists()
	var callers sync.WaitGroup
	for caller := range 8 {
		callers.Go(func() {
			for i := range lists {
				list, most := lists[(i+caller*13)%len(lists)], 1+i%40
				first, knows := i%2 == 0, i%3 == 0
				if got, want := impl.AfterAnswer(list, first, knows), plainAnswered(list, first, knows); !slices.Equal(got, want) {
					t.Errorf("AfterAnswer(%v, %v, %v) = %v, want %v", list, first, knows, got, want)
				}
				possible := plainUpTo(most)
				p := possible[(i+caller)%len(possible)]
				if got, want := impl.TurnOf(most, p), plainTurn(most, p); got != want {
					t.Errorf("TurnOf(%d, %v) = %d, want %d", most, p, got, want)
				}
				answers := answersLike(list)[:min(len(list), 4)]
				if got, want := impl.PairsLeft(most, answers), plainLeft(most, answers); !slices.Equal(got, want) {
					t.Errorf("PairsLeft(%d, %v) = %v, want %v", most, answers, got, want)
				}
			}
		})
	}
	callers.Wait()
}
