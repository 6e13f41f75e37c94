package tests

import (
	"fmt"
	"math"
	"math/bits"
	"slices"
	"strings"
	"sync"
	"testing"

	"loop.example/g00945/impl"
)

// limitsAround returns the limits that sums can have and the integers around them, and the ends of the range.
func limitsAround() []int {
	return append(numbers(-5, 104), 127, 128, 255, 256, math.MinInt, math.MinInt+1, math.MaxInt-1, math.MaxInt)
}

// plainChosen is a second way to find all pairs of numbers that can be chosen: those that fit of all pairs.
func plainChosen(limit int) []impl.Pair {
	if limit < 4 || limit > 100 {
		return nil
	}
	return slices.DeleteFunc(pairsFrom(numbers(0, limit)), func(p impl.Pair) bool { return p.A < 2 || p.B < p.A || p.A+p.B > limit })
}

// plainTimes is a second way to multiply the numbers of a pair: it keeps the low half of the whole product.
func plainTimes(p impl.Pair) int {
	_, low := bits.Mul64(uint64(p.A), uint64(p.B))
	return int(low)
}

// plainPlus is a second way to add the numbers of a pair: it leaves out the carry.
func plainPlus(p impl.Pair) int {
	sum, _ := bits.Add64(uint64(p.A), uint64(p.B), 0)
	return int(sum)
}

// plainUnique is a second way to find out whether a pair is the only one with its number: by counting.
func plainUnique(list []impl.Pair, p impl.Pair, number func(impl.Pair) int) bool {
	alike, equal := 0, 0
	for _, q := range list {
		if number(q) == number(p) {
			alike++
		}
		if q.A == p.A && q.B == p.B {
			equal++
		}
	}
	return equal > 0 && alike == equal
}

// plainNow is a second way to leave the pairs that are the only ones with their numbers.
func plainNow(list []impl.Pair, number func(impl.Pair) int) []impl.Pair {
	return slices.DeleteFunc(slices.Clone(list), func(p impl.Pair) bool { return !plainUnique(list, p, number) })
}

// plainKnew is a second way to leave the pairs whose sum tells that the product does not tell the numbers.
func plainKnew(list []impl.Pair) []impl.Pair {
	unique := plainNow(list, plainTimes)
	return slices.DeleteFunc(slices.Clone(list), func(p impl.Pair) bool {
		return slices.ContainsFunc(unique, func(q impl.Pair) bool { return plainPlus(q) == plainPlus(p) })
	})
}

// groups has the pairs with each product, or with each sum.
type groups map[int][]impl.Pair

// groupsBy returns the groups of the pairs of a list.
func groupsBy(list []impl.Pair, number func(impl.Pair) int) groups {
	g := groups{}
	for _, p := range list {
		g[number(p)] = append(g[number(p)], p)
	}
	return g
}

// howMany returns how many pairs of a list meet a condition.
func howMany(list []impl.Pair, meets func(impl.Pair) bool) int {
	count := 0
	for _, p := range list {
		if meets(p) {
			count++
		}
	}
	return count
}

// plainTalk is a second way to solve the puzzle: whoever speaks asks for each pair of the own group whether all that has
// been said before could have been said there.
func plainTalk(limit int) []impl.Pair {
	all := plainChosen(limit)
	products, sums := groupsBy(all, plainTimes), groupsBy(all, plainPlus)
	doubts := func(p impl.Pair) bool { return len(products[plainTimes(p)]) > 1 }
	knew := func(p impl.Pair) bool {
		group := sums[plainPlus(p)]
		return doubts(p) && howMany(group, doubts) == len(group)
	}
	now := func(p impl.Pair) bool { return knew(p) && howMany(products[plainTimes(p)], knew) == 1 }
	too := func(p impl.Pair) bool { return now(p) && howMany(sums[plainPlus(p)], now) == 1 }
	return slices.DeleteFunc(all, func(p impl.Pair) bool { return !too(p) })
}

// wrappingPairLists returns lists in which products or sums are equal only because they wrap around.
func wrappingPairLists() [][]impl.Pair {
	ends := []int{math.MinInt, math.MinInt + 1, -1 << 32, -2, -1, 0, 1, 2, 1 << 32, 1<<32 + 1, 1 << 62, math.MaxInt - 1, math.MaxInt}
	d := dice(83)
	all := [][]impl.Pair{pairsFrom(ends)}
	for n := range 60 {
		var list []impl.Pair
		for range n % 12 {
			list = append(list, impl.Pair{A: ends[d.below(len(ends))], B: ends[d.below(len(ends))]})
		}
		all = append(all, list)
	}
	return all
}

// chosenPairLists returns lists of pairs that can be chosen: all of them for each limit, and many others.
func chosenPairLists() [][]impl.Pair {
	d := dice(89)
	var all [][]impl.Pair
	for limit := 4; limit <= 40; limit++ {
		pairs := plainChosen(limit)
		all = append(all, pairs, slices.DeleteFunc(slices.Clone(pairs), func(impl.Pair) bool { return d.below(40) < limit }))
		// Another order, duplicates, and the same two numbers the other way round.
		slices.Reverse(pairs)
		for _, p := range pairs[:len(pairs)/3] {
			pairs = append(pairs, p, impl.Pair{A: p.B, B: p.A})
		}
		all = append(all, pairs)
	}
	return all
}

// denseList returns so many pairs of small numbers, of which many have the same product or the same sum.
func denseList(d *dice, n int) []impl.Pair {
	var list []impl.Pair
	for range n {
		list = append(list, impl.Pair{A: 1 + d.below(6), B: 1 + d.below(12)})
	}
	return list
}

// densePairLists returns dense lists of many lengths.
func densePairLists() [][]impl.Pair {
	d := dice(97)
	var all [][]impl.Pair
	for n := range 300 {
		all = append(all, denseList(&d, n%60))
	}
	return all
}

// sumLists returns the lists with which the functions are compared with the second ways.
func sumLists() [][]impl.Pair {
	return slices.Concat(somePairLists(), wrappingPairLists(), chosenPairLists(), densePairLists())
}

// pairsOf returns the pairs that are written as two numbers with a comma, separated by spaces.
func pairsOf(t *testing.T, text string) []impl.Pair {
	t.Helper()
	var pairs []impl.Pair
	for _, word := range strings.Fields(text) {
		var p impl.Pair
		if _, err := fmt.Sscanf(word, "%d,%d", &p.A, &p.B); err != nil {
			t.Fatal(err)
		}
		pairs = append(pairs, p)
	}
	return pairs
}

func TestSumPairs(t *testing.T) {
	for _, c := range []struct {
		limit int
		want  string
	}{
		{4, "2,2"},
		{5, "2,2 2,3"},
		{6, "2,2 2,3 2,4 3,3"},
		{7, "2,2 2,3 2,4 2,5 3,3 3,4"},
		{8, "2,2 2,3 2,4 2,5 2,6 3,3 3,4 3,5 4,4"},
		{3, ""},
		{2, ""},
		{0, ""},
		{-4, ""},
		{101, ""},
		{math.MinInt, ""},
		{math.MaxInt, ""},
	} {
		checkPairs(t, fmt.Sprintf("SumPairs(%d)", c.limit), impl.SumPairs(c.limit), pairsOf(t, c.want))
	}
}

func TestSumPairsOfAllLimits(t *testing.T) {
	for _, limit := range limitsAround() {
		got := impl.SumPairs(limit)
		checkPairs(t, fmt.Sprintf("SumPairs(%d)", limit), got, plainChosen(limit))
		want := 0
		if limit >= 4 && limit <= 100 {
			want = (limit - 2) * (limit - 2) / 4
		}
		if len(got) != want {
			t.Errorf("SumPairs(%d) has %d pairs, want %d", limit, len(got), want)
		}
	}
	if impl.MaxSum != 100 {
		t.Errorf("MaxSum is %d", impl.MaxSum)
	}
}

func TestUniqueProductAndSum(t *testing.T) {
	for _, c := range []struct {
		list    string
		p       string
		product bool
		sum     bool
	}{
		{"2,2 2,3 2,4 3,3", "2,3", true, true},
		{"2,2 2,3 2,4 3,3", "2,4", true, false},
		{"2,2 2,3 2,4 3,3", "3,3", true, false},
		{"2,6 3,4", "2,6", false, true},
		{"2,6 3,4", "3,4", false, true},
		{"2,6 3,4 4,4", "2,6", false, false},
		{"2,6 3,4 4,4", "4,4", true, false},
		{"2,5", "2,5", true, true},
		// A pair that is not in the list, but would be the only one.
		{"2,2 2,3 2,4 3,3", "2,5", false, false},
		{"2,2 2,3 2,4 3,3", "3,2", false, false},
		{"2,2 2,3", "1,4", false, false},
		{"", "2,3", false, false},
		{"", "0,0", false, false},
		// The same numbers the other way round are another pair.
		{"2,3 3,2", "2,3", false, false},
		{"2,3 3,2", "3,2", false, false},
		// The same pair twice is no other one.
		{"2,3 2,3", "2,3", true, true},
		{"2,3 1,6 2,3", "2,3", false, true},
		{"2,3 1,4 2,3", "2,3", true, false},
		{"1,6 2,3 2,3", "1,6", false, true},
		// Pairs that cannot be chosen count as well.
		{"0,7 7,0 0,0 -1,1", "0,0", false, false},
		{"0,7 7,0 0,0 -1,1", "-1,1", true, false},
		{"-2,-3 2,3", "2,3", false, true},
		{"-2,3 2,-3 6,-1", "6,-1", false, true},
		{"0,0", "0,0", true, true},
		{"1000,1000 999,1001", "999,1001", true, false},
		// Products and sums wrap around.
		{"4294967296,4294967296 0,5", "0,5", false, true},
		{"4294967296,4294967296 0,5", "4294967296,4294967296", false, true},
		{"9223372036854775807,9223372036854775807 1,1", "1,1", false, true},
		{"9223372036854775807,9223372036854775807 -1,-1", "-1,-1", false, false},
		{"9223372036854775807,1 -9223372036854775808,0", "9223372036854775807,1", true, false},
		{"-9223372036854775808,-1 -9223372036854775808,1", "-9223372036854775808,1", false, true},
		{"-9223372036854775808,-9223372036854775808 0,0", "0,0", false, false},
		{"-9223372036854775808,-1 9223372036854775806,1", "9223372036854775806,1", true, false},
	} {
		list, p := pairsOf(t, c.list), pairsOf(t, c.p)[0]
		if got := impl.UniqueProduct(list, p); got != c.product {
			t.Errorf("UniqueProduct(%v, %v) = %v", list, p, got)
		}
		if got := impl.UniqueSum(list, p); got != c.sum {
			t.Errorf("UniqueSum(%v, %v) = %v", list, p, got)
		}
	}
}

func TestUniqueProductAndSumOfManyLists(t *testing.T) {
	known, doubted := 0, 0
	for _, list := range sumLists() {
		near := pairsNear(list)
		for i := 0; i < len(near); i += 1 + len(near)/60 {
			p := near[i]
			product, sum := plainUnique(list, p, plainTimes), plainUnique(list, p, plainPlus)
			if got := impl.UniqueProduct(list, p); got != product {
				t.Errorf("UniqueProduct(%v, %v) = %v", list, p, got)
			}
			if got := impl.UniqueSum(list, p); got != sum {
				t.Errorf("UniqueSum(%v, %v) = %v", list, p, got)
			}
			if product != sum {
				known++
			} else if !product && slices.Contains(list, p) {
				doubted++
			}
		}
	}
	if known < 2000 || doubted < 2000 {
		t.Errorf("just one number tells %d pairs, and none %d", known, doubted)
	}
}

// isPrime reports whether a number is a prime.
func isPrime(n int) bool {
	for d := 2; d < n; d++ {
		if n%d == 0 {
			return false
		}
	}
	return n > 1
}

func TestProductsOfPrimesAreUnique(t *testing.T) {
	for _, limit := range []int{4, 5, 12, 41, 65, 99, 100} {
		list := impl.SumPairs(limit)
		for _, p := range list {
			if isPrime(p.A) && isPrime(p.B) && !impl.UniqueProduct(list, p) {
				t.Errorf("UniqueProduct is false for %v up to %d", p, limit)
			}
			// All sums from 6 on are also those of another pair.
			if got, want := impl.UniqueSum(list, p), p.A+p.B < 6; got != want {
				t.Errorf("UniqueSum is %v for %v up to %d", got, p, limit)
			}
		}
	}
}

func TestKnewIt(t *testing.T) {
	for _, c := range []struct {
		list string
		want string
	}{
		{"", ""},
		{"2,2", ""},
		{"2,2 2,3 2,4 3,3", ""},
		{"2,6 3,4", "2,6 3,4"},
		{"3,4 2,6", "3,4 2,6"},
		// Another pair with the same sum has a unique product.
		{"2,6 3,4 2,5", "2,6"},
		{"2,6 2,5 3,4", "2,6"},
		{"2,6 3,4 2,5 3,5", ""},
		{"2,6 3,4 2,5 5,2", "2,6 3,4 2,5 5,2"},
		{"2,6 3,4 2,5 1,10", "2,6 3,4 2,5 1,10"},
		// The sum of the only pair with a unique product is another one.
		{"2,6 3,4 2,2", "2,6 3,4"},
		// The same pair twice has a unique product as well.
		{"2,6 2,6", ""},
		{"2,6 3,4 2,6", "2,6 3,4 2,6"},
		{"3,4 2,6 2,5 3,4 2,6 2,6", "2,6 2,6 2,6"},
		// Pairs that cannot be chosen count as well.
		{"1,0 0,0 0,1 7,0", "1,0 0,0 0,1 7,0"},
		{"1,0 0,0 0,1 7,0 -1,2", "0,0 7,0"},
		{"-2,-3 2,3 1,6 -1,-6", "-2,-3 2,3 1,6 -1,-6"},
		// Products and sums wrap around.
		{"4294967296,4294967296 0,5", "4294967296,4294967296 0,5"},
		{"4294967296,4294967296 0,5 2,3", "4294967296,4294967296"},
		{"0,-9223372036854775808 0,1 9223372036854775807,1", "0,1"},
	} {
		checkPairs(t, fmt.Sprintf("KnewIt(%s)", c.list), impl.KnewIt(pairsOf(t, c.list)), pairsOf(t, c.want))
	}
}

func TestNowProductAndSum(t *testing.T) {
	for _, c := range []struct {
		list    string
		product string
		sum     string
	}{
		{"", "", ""},
		{"2,2 2,3 2,4 3,3", "2,2 2,3 2,4 3,3", "2,2 2,3"},
		{"3,3 2,4 2,3 2,2", "3,3 2,4 2,3 2,2", "2,3 2,2"},
		{"2,6 3,4", "", "2,6 3,4"},
		{"2,6 3,4 2,5", "2,5", "2,6"},
		{"2,6 2,6", "2,6 2,6", "2,6 2,6"},
		{"2,6 3,5 2,6", "2,6 3,5 2,6", ""},
		{"2,6 3,4 2,6 7,7 7,7", "7,7 7,7", "2,6 3,4 2,6 7,7 7,7"},
		{"2,3 3,2", "", ""},
		{"-1,1 0,0 1,-1 0,9", "", "0,9"},
		{"4294967296,4294967296 0,5 2,3", "2,3", "4294967296,4294967296"},
		{"9223372036854775807,1 -9223372036854775808,0", "9223372036854775807,1 -9223372036854775808,0", ""},
	} {
		list := pairsOf(t, c.list)
		checkPairs(t, fmt.Sprintf("NowProduct(%s)", c.list), impl.NowProduct(list), pairsOf(t, c.product))
		checkPairs(t, fmt.Sprintf("NowSum(%s)", c.list), impl.NowSum(list), pairsOf(t, c.sum))
	}
}

func TestStatementsOfManyLists(t *testing.T) {
	some, none := 0, 0
	for _, list := range sumLists() {
		knew := plainKnew(list)
		checkPairs(t, fmt.Sprintf("KnewIt(%v)", list), impl.KnewIt(list), knew)
		checkPairs(t, fmt.Sprintf("NowProduct(%v)", list), impl.NowProduct(list), plainNow(list, plainTimes))
		checkPairs(t, fmt.Sprintf("NowSum(%v)", list), impl.NowSum(list), plainNow(list, plainPlus))
		if len(knew) == 0 {
			none++
		} else if len(knew) < len(list) {
			some++
		}
	}
	if some < 200 || none < 200 {
		t.Errorf("some pairs are left of %d lists, and none of %d", some, none)
	}
}

func TestStatementsAreSaidInEachPair(t *testing.T) {
	for _, list := range slices.Concat(densePairLists(), wrappingPairLists()) {
		knew, product, sum := impl.KnewIt(list), impl.NowProduct(list), impl.NowSum(list)
		for _, p := range list {
			if impl.UniqueProduct(list, p) != slices.Contains(product, p) || impl.UniqueSum(list, p) != slices.Contains(sum, p) {
				t.Errorf("%v of %v is left by %v and %v", p, list, product, sum)
			}
			alike := slices.DeleteFunc(slices.Clone(list), func(q impl.Pair) bool { return plainPlus(q) != plainPlus(p) })
			told := slices.ContainsFunc(alike, func(q impl.Pair) bool { return impl.UniqueProduct(list, q) })
			if told == slices.Contains(knew, p) {
				t.Errorf("%v of %v is left by %v", p, list, knew)
			}
		}
		// Who knows the numbers still knows them after saying so.
		checkPairs(t, fmt.Sprintf("NowProduct(%v)", product), impl.NowProduct(product), product)
		checkPairs(t, fmt.Sprintf("NowSum(%v)", sum), impl.NowSum(sum), sum)
	}
}

// sumsModel returns the model of different pairs, at most 16, each with Facts of its own, in which the agent 0 is told the
// product and the agent 1 the sum.
func sumsModel(pairs []impl.Pair, actual int) impl.Model {
	var products, sums []int
	for _, p := range pairs {
		products = append(products, plainTimes(p))
		sums = append(sums, plainPlus(p))
	}
	return impl.Model{Facts: numbers(0, len(pairs)-1), Blocks: [][]int{plainNumbers(products), plainNumbers(sums)}, Actual: actual}
}

// different returns the pairs of a list without duplicates.
func different(list []impl.Pair) []impl.Pair {
	var pairs []impl.Pair
	for _, p := range list {
		if !slices.Contains(pairs, p) {
			pairs = append(pairs, p)
		}
	}
	return pairs
}

// pairsIn returns the pairs of some worlds.
func pairsIn(pairs []impl.Pair, worlds []int) []impl.Pair {
	var in []impl.Pair
	for _, world := range worlds {
		in = append(in, pairs[world])
	}
	return in
}

func TestStatementsAreThoseOfModels(t *testing.T) {
	const productKnows, sumKnows = "&&&W0aW0bW0cW0d", "&&&W1aW1bW1cW1d"
	said := readAll(t, "-"+productKnows+" K1-"+productKnows+" "+productKnows+" "+sumKnows)
	d := dice(101)
	talks := 0
	for n := range 2000 {
		pairs := different(denseList(&d, 1+n%16))
		m := sumsModel(pairs, 0)
		checkPairs(t, fmt.Sprintf("KnewIt(%v)", pairs), impl.KnewIt(pairs), pairsIn(pairs, impl.WorldsWhere(m, said[1])))
		checkPairs(t, fmt.Sprintf("NowProduct(%v)", pairs), impl.NowProduct(pairs), pairsIn(pairs, impl.WorldsWhere(m, said[2])))
		checkPairs(t, fmt.Sprintf("NowSum(%v)", pairs), impl.NowSum(pairs), pairsIn(pairs, impl.WorldsWhere(m, said[3])))
		// The person with the sum speaks of what it knew before anything was said.
		left := impl.NowSum(impl.NowProduct(impl.KnewIt(pairs)))
		for actual, p := range pairs {
			after, ok := impl.AnnounceAll(sumsModel(pairs, actual), said[1:])
			if ok != slices.Contains(left, p) || ok && !slices.Equal(pairsIn(pairs, after.Facts), left) {
				t.Errorf("the talk for %v of %v leaves %v, but the model %v", p, pairs, left, after)
			}
			if ok {
				talks++
			}
		}
	}
	if talks < 100 {
		t.Errorf("only %d pairs are left", talks)
	}
}

func TestSumsThatTellOfDoubt(t *testing.T) {
	left := impl.KnewIt(impl.SumPairs(100))
	var sums []int
	for _, p := range left {
		sums = append(sums, p.A+p.B)
	}
	slices.Sort(sums)
	if got, want := slices.Compact(sums), []int{11, 17, 23, 27, 29, 35, 37, 41, 47, 53}; !slices.Equal(got, want) {
		t.Errorf("the sums after KnewIt are %v, want %v", got, want)
	}
	now := impl.NowProduct(left)
	if len(left) != 145 || len(now) != 86 || len(impl.NowSum(now)) != 1 {
		t.Errorf("%d pairs are left, then %d, then %v", len(left), len(now), impl.NowSum(now))
	}
}

func TestKnewItLeavesNoSumOfTwoPrimes(t *testing.T) {
	for limit := 4; limit <= 100; limit++ {
		list := impl.SumPairs(limit)
		for _, p := range impl.KnewIt(list) {
			for a := 2; a <= p.A+p.B-2; a++ {
				if isPrime(a) && isPrime(p.A+p.B-a) {
					t.Errorf("KnewIt leaves %v up to %d, but the numbers can be the primes %d and %d", p, limit, a, p.A+p.B-a)
				}
			}
		}
	}
}

func TestPuzzlePairs(t *testing.T) {
	for _, limit := range limitsAround() {
		var want []impl.Pair
		if limit >= 65 && limit <= 100 {
			want = []impl.Pair{{A: 4, B: 13}}
		}
		checkPairs(t, fmt.Sprintf("PuzzlePairs(%d)", limit), impl.PuzzlePairs(limit), want)
		checkPairs(t, fmt.Sprintf("the talk up to %d", limit), plainTalk(limit), want)
	}
}

func TestPuzzlePairsAreLeftByTheStatements(t *testing.T) {
	for _, limit := range limitsAround() {
		all := impl.SumPairs(limit)
		knew := impl.KnewIt(all)
		doubted := slices.DeleteFunc(slices.Clone(all), func(p impl.Pair) bool {
			return impl.UniqueProduct(all, p) || !slices.Contains(knew, p)
		})
		checkPairs(t, fmt.Sprintf("KnewIt up to %d", limit), knew, doubted)
		checkPairs(t, fmt.Sprintf("PuzzlePairs(%d)", limit), impl.PuzzlePairs(limit), impl.NowSum(impl.NowProduct(doubted)))
	}
}

func TestPuzzleLimit(t *testing.T) {
	for _, most := range limitsAround() {
		want := 0
		if most >= 65 && most <= 100 {
			want = 65
		}
		if got := impl.PuzzleLimit(most); got != want {
			t.Errorf("PuzzleLimit(%d) = %d, want %d", most, got, want)
		}
	}
}

func TestStatementsOfLongLists(t *testing.T) {
	// All pairs of the first half have the product 0 and sums of their own; in the second half, the products are unique, and
	// the sums are those of the first quarter.
	const half = 20000
	var list []impl.Pair
	for n := range half {
		list = append(list, impl.Pair{A: n, B: 0})
	}
	for n := range half {
		list = append(list, impl.Pair{A: -1 - n, B: 1 + n + n%(half/2)})
	}
	quarter := half / 2
	if got := impl.NowProduct(list); !slices.Equal(got, list[half:]) {
		t.Errorf("NowProduct of a long list leaves %d pairs", len(got))
	}
	for name, got := range map[string][]impl.Pair{"NowSum": impl.NowSum(list), "KnewIt": impl.KnewIt(list)} {
		if !slices.Equal(got, list[quarter:half]) {
			t.Errorf("%s of a long list leaves %d pairs", name, len(got))
		}
	}
	if impl.UniqueProduct(list, list[0]) || !impl.UniqueProduct(list, list[half]) || impl.UniqueSum(list, list[0]) || !impl.UniqueSum(list, list[quarter]) {
		t.Error("UniqueProduct or UniqueSum of a long list")
	}
}

// callAllSums calls every function of the layer, and returns the lists that it gets.
func callAllSums(list []impl.Pair, limit int) [][]impl.Pair {
	for _, p := range list[:min(len(list), 3)] {
		impl.UniqueProduct(list, p)
		impl.UniqueSum(list, p)
	}
	impl.UniqueProduct(list, impl.Pair{A: limit})
	return [][]impl.Pair{
		impl.SumPairs(limit), impl.KnewIt(list), impl.KnewIt(list), impl.NowProduct(list), impl.NowProduct(list),
		impl.NowSum(list), impl.NowSum(list), impl.PuzzlePairs(limit), impl.PuzzlePairs(limit),
	}
}

func TestSumsArgumentsAreNotModified(t *testing.T) {
	mark := impl.Pair{A: marked, B: marked}
	for i, list := range sumLists() {
		pairs := withRoom(list, mark)
		callAllSums(pairs, i%12)
		if !hasRoom(pairs, list, mark) {
			t.Errorf("the argument or the room behind it was changed: %v", list)
		}
	}
}

func TestSumsResultsAreNew(t *testing.T) {
	for i, list := range slices.Concat(chosenPairLists(), densePairLists(), wrappingPairLists()) {
		limit := 60 + i%12
		list = slices.Clip(slices.Clone(list))
		before := slices.Clone(list)
		kept, want := callAllSums(list, limit), callAllSums(before, limit)
		for j, pairs := range kept {
			for k := range pairs[:cap(pairs)] {
				pairs[:cap(pairs)][k] = impl.Pair{A: marked, B: marked}
			}
			if !equalPairLists(kept[j+1:], want[j+1:]) {
				t.Fatalf("two results for %v share memory", before)
			}
		}
		if !slices.Equal(list, before) {
			t.Fatalf("a result shares memory with the argument %v", before)
		}
		if !equalPairLists(callAllSums(list, limit), want) {
			t.Fatalf("the results for %v differ from call to call", before)
		}
	}
}

func TestSumsEndTheirGoroutines(t *testing.T) {
	checkGoroutinesEnd(t, func() {
		impl.KnewIt(nil)
		impl.KnewIt(plainChosen(30))
		impl.PuzzlePairs(65)
	})
}

func TestSumsResultsDoNotDependOnOtherCalls(t *testing.T) {
	lists := densePairLists()
	var callers sync.WaitGroup
	for caller := range 8 {
		callers.Go(func() {
			for i := range lists {
				list := lists[(i+caller*37)%len(lists)]
				if got, want := impl.KnewIt(list), plainKnew(list); !slices.Equal(got, want) {
					t.Errorf("KnewIt(%v) = %v, want %v", list, got, want)
				}
				if got, want := impl.NowProduct(list), plainNow(list, plainTimes); !slices.Equal(got, want) {
					t.Errorf("NowProduct(%v) = %v, want %v", list, got, want)
				}
				if got, want := impl.NowSum(list), plainNow(list, plainPlus); !slices.Equal(got, want) {
					t.Errorf("NowSum(%v) = %v, want %v", list, got, want)
				}
				if limit := 63 + i%4; len(impl.PuzzlePairs(limit)) != limit/65 {
					t.Errorf("PuzzlePairs(%d) in a call among others", limit)
				}
			}
		})
	}
	callers.Wait()
}
