package tests

import (
	"fmt"
	"math"
	"slices"
	"strings"
	"sync"
	"testing"

	"loop.example/g00945/impl"
)

// validDeals returns all deals with cards for the first two persons and at most 7 in all.
func validDeals() []impl.Deal {
	var deals []impl.Deal
	for cards := 2; cards <= 7; cards++ {
		for a := 1; a < cards; a++ {
			for b := 1; a+b <= cards; b++ {
				deals = append(deals, impl.Deal{A: a, B: b, C: cards - a - b})
			}
		}
	}
	return deals
}

// smallDeals returns the valid deals of at most so many cards.
func smallDeals(most int) []impl.Deal {
	return slices.DeleteFunc(validDeals(), func(d impl.Deal) bool { return d.A+d.B+d.C > most })
}

// invalidDeals returns deals that cannot be dealt.
func invalidDeals() []impl.Deal {
	return []impl.Deal{
		{}, {A: 1}, {B: 1}, {C: 1}, {A: 1, C: 1}, {B: 1, C: 1}, {A: 0, B: 3, C: 1}, {A: 3, B: 0, C: 1}, {A: 3, B: 3, C: -1}, {A: -1, B: 3, C: 1},
		{A: 3, B: -1, C: 1}, {A: 4, B: 3, C: 1}, {A: 3, B: 4, C: 1}, {A: 3, B: 3, C: 2}, {A: 7, B: 1}, {A: 1, B: 7}, {A: 1, B: 1, C: 6}, {A: 8, B: -1},
		{A: -1, B: 8}, {A: 8, B: 1, C: -2}, {A: 7}, {B: 7}, {C: 7}, {A: 1, B: 1, C: 7}, {A: 10, B: 10, C: -13}, {A: 64, B: 1}, {A: 65, B: 1, C: 1},
		{A: math.MaxInt, B: 1}, {A: 1, B: math.MaxInt}, {A: 1, B: 1, C: math.MaxInt}, {A: math.MaxInt, B: math.MaxInt, C: 2},
		{A: math.MaxInt, B: math.MaxInt, C: 9}, {A: math.MaxInt, B: 3, C: math.MaxInt}, {A: 3, B: math.MaxInt, C: math.MaxInt},
		{A: math.MinInt, B: math.MinInt, C: 3}, {A: 3, B: math.MinInt, C: math.MinInt}, {A: 3, B: 3, C: math.MinInt},
	}
}

// cardsIn is a second way to find the cards of a hand: by dividing its number.
func cardsIn(hand int) []int {
	var cards []int
	for card := 0; hand > 0; card++ {
		if hand%2 == 1 {
			cards = append(cards, card)
		}
		hand /= 2
	}
	return cards
}

// handWith is a second way to write some cards as a hand: by adding their numbers.
func handWith(cards []int) int {
	hand := 0
	for _, card := range cards {
		hand += []int{1, 2, 4, 8, 16, 32, 64}[card]
	}
	return hand
}

// handsFrom is a second way to find all hands of a size, in ascending order: by choosing the cards one by one.
func handsFrom(cards int, size int) []int {
	var choose func(chosen []int, next int)
	var hands []int
	choose = func(chosen []int, next int) {
		if len(chosen) == size {
			hands = append(hands, handWith(chosen))
			return
		}
		for card := next; card < cards; card++ {
			choose(append(slices.Clone(chosen), card), card+1)
		}
	}
	choose(nil, 0)
	slices.Sort(hands)
	return hands
}

// apart reports whether two hands have no card in common.
func apart(hand int, other int) bool {
	return !slices.ContainsFunc(cardsIn(hand), func(card int) bool { return slices.Contains(cardsIn(other), card) })
}

// table has all hands that the persons of a valid deal can have, and which of them can be there at the same time.
type table struct {
	cards  int
	first  []int
	second []int
	third  []int
	apart  [128][128]bool
}

func tableOf(d impl.Deal) *table {
	cards := d.A + d.B + d.C
	s := &table{cards: cards, first: handsFrom(cards, d.A), second: handsFrom(cards, d.B), third: handsFrom(cards, d.C)}
	for hand := range 1 << cards {
		for other := range 1 << cards {
			s.apart[hand][other] = apart(hand, other)
		}
	}
	return s
}

// left returns the hands of a list that are possible for someone who has a hand.
func (s *table) left(list []int, seen int) []int {
	var left []int
	for _, hand := range list {
		if s.apart[hand][seen] {
			left = append(left, hand)
		}
	}
	return left
}

// isAnnouncement is a second way to find out whether a list can be announced: neither sorting it nor leaving out duplicates
// changes it.
func (s *table) isAnnouncement(list []int) bool {
	ascending := slices.Compact(slices.Sorted(slices.Values(list)))
	return len(list) > 0 && slices.Equal(list, ascending) && !slices.ContainsFunc(list, func(hand int) bool { return !slices.Contains(s.first, hand) })
}

// tells is a second way to find out whether the second person is told: it never has a hand with which two are possible.
func (s *table) tells(list []int) bool {
	return !slices.ContainsFunc(s.second, func(hand int) bool { return len(s.left(list, hand)) > 1 })
}

// hides is a second way to find out whether the third person is told nothing: as long as any hand is possible, each card
// that it does not have is in some possible hands, but not in all.
func (s *table) hides(list []int) bool {
	for _, third := range s.third {
		left := s.left(list, third)
		for card := range s.cards {
			with := 0
			for _, hand := range left {
				if slices.Contains(cardsIn(hand), card) {
					with++
				}
			}
			if len(left) > 0 && !slices.Contains(cardsIn(third), card) && (with == 0 || with == len(left)) {
				return false
			}
		}
	}
	return true
}

// lists goes through all lists of hands, of at most a size, that tell the second person, in lexicographic order, until it
// is told to stop.
func (s *table) lists(most int, visit func(list []int) bool) {
	var grow func(begun []int, window []int) bool
	grow = func(begun []int, window []int) bool {
		for i, next := range window {
			list := append(slices.Clone(begun), next)
			if !s.tells(list) {
				continue
			}
			if !visit(list) || len(list) < most && !grow(list, window[i+1:]) {
				return false
			}
		}
		return true
	}
	grow(nil, s.first)
}

// firsts is a second way to find for each hand the first safe list of a size that has it, as long as there is any.
func (s *table) firsts(size int) map[int][]int {
	found := map[int][]int{}
	s.lists(size, func(list []int) bool {
		if len(list) == size && slices.ContainsFunc(list, func(hand int) bool { return found[hand] == nil }) && s.hides(list) {
			for _, hand := range list {
				if found[hand] == nil {
					found[hand] = list
				}
			}
		}
		return len(found) < len(s.first)
	})
	return found
}

// sublists returns all lists of some elements of a list, in their order.
func sublists(list []int) [][]int {
	all := [][]int{nil}
	for _, x := range list {
		for _, shorter := range all {
			all = append(all, append(slices.Clone(shorter), x))
		}
	}
	return all
}

// checkHands compares what the functions say of a list with what they should say.
func checkHands(t *testing.T, d impl.Deal, list []int, ok bool, tells bool, hides bool) {
	t.Helper()
	if got := impl.AnnouncementOk(d, list); got != ok {
		t.Errorf("AnnouncementOk(%v, %v) = %v", d, list, got)
	}
	if got := impl.TellsSecond(d, list); got != tells {
		t.Errorf("TellsSecond(%v, %v) = %v", d, list, got)
	}
	if got := impl.HidesAll(d, list); got != hides {
		t.Errorf("HidesAll(%v, %v) = %v", d, list, got)
	}
	if got := impl.IsSafe(d, list); got != (tells && hides) {
		t.Errorf("IsSafe(%v, %v) = %v", d, list, got)
	}
}

// checkList compares what the functions say of a list with the second ways, and returns whether it should tell the second
// person and hide all from the third one.
func checkList(t *testing.T, d impl.Deal, s *table, list []int) (bool, bool) {
	t.Helper()
	ok := s.isAnnouncement(list)
	tells, hides := ok && s.tells(list), ok && s.hides(list)
	checkHands(t, d, list, ok, tells, hides)
	return tells, hides
}

// shuffled returns the elements of a list in another order.
func shuffled(r *dice, list []int) []int {
	list = slices.Clone(list)
	for i := range list {
		j := i + r.below(len(list)-i)
		list[i], list[j] = list[j], list[i]
	}
	return list
}

// someHands returns so many hands of a table, in ascending order.
func someHands(r *dice, s *table, count int) []int {
	list := shuffled(r, s.first)[:min(count, len(s.first))]
	slices.Sort(list)
	return list
}

// tellingHands returns hands of a table that tell the second person, in ascending order: as many as there is room for, if
// they are taken in some order.
func tellingHands(r *dice, s *table) []int {
	var list []int
	for _, hand := range shuffled(r, s.first) {
		if longer := append(slices.Clone(list), hand); s.tells(longer) {
			list = longer
		}
	}
	slices.Sort(list)
	return list
}

// likelyLists returns ascending lists of hands of a table: some that tell the second person, the same with a hand more or
// less, and others.
func likelyLists(r *dice, s *table, count int) [][]int {
	var all [][]int
	for range count {
		telling := tellingHands(r, s)
		at := r.below(len(telling))
		more := append(slices.Clone(telling), s.first[r.below(len(s.first))])
		slices.Sort(more)
		all = append(all, telling, slices.Delete(slices.Clone(telling), at, at+1), slices.Compact(more), someHands(r, s, 1+r.below(len(s.first))))
	}
	return all
}

var russian = impl.Deal{A: 3, B: 3, C: 1}

// fano returns the lines of the least plane of seven points.
func fano() []int {
	return []int{7, 25, 42, 52, 76, 82, 97}
}

func TestDealOk(t *testing.T) {
	for _, d := range []impl.Deal{
		{A: 1, B: 1}, {A: 1, B: 1, C: 1}, {A: 3, B: 3, C: 1}, {A: 6, B: 1}, {A: 1, B: 6}, {A: 1, B: 1, C: 5}, {A: 4, B: 3}, {A: 3, B: 4}, {A: 2, B: 2, C: 3},
	} {
		if !impl.DealOk(d) {
			t.Errorf("DealOk(%v) is false", d)
		}
	}
	for _, d := range invalidDeals() {
		if impl.DealOk(d) {
			t.Errorf("DealOk(%v) is true", d)
		}
	}
	if impl.MaxCards != 7 {
		t.Errorf("MaxCards is %d", impl.MaxCards)
	}
}

func TestDealOkOfAllDeals(t *testing.T) {
	deals := validDeals()
	if len(deals) != 56 {
		t.Fatalf("there are %d deals", len(deals))
	}
	counts := append(numbers(-3, 10), 63, 64, 65, math.MinInt, math.MinInt+1, math.MaxInt-1, math.MaxInt)
	for _, n := range allLists(counts, 3) {
		d := impl.Deal{A: n[0], B: n[1], C: n[2]}
		if got := impl.DealOk(d); got != slices.Contains(deals, d) {
			t.Errorf("DealOk(%v) = %v", d, got)
		}
		if hands := impl.HandsOf(d); (len(hands) > 0) != slices.Contains(deals, d) {
			t.Errorf("HandsOf(%v) has %d hands", d, len(hands))
		}
	}
}

func TestHandsOf(t *testing.T) {
	for _, c := range []struct {
		d    impl.Deal
		want []int
	}{
		{impl.Deal{A: 1, B: 1}, []int{1, 2}},
		{impl.Deal{A: 1, B: 1, C: 1}, []int{1, 2, 4}},
		{impl.Deal{A: 2, B: 1}, []int{3, 5, 6}},
		{impl.Deal{A: 2, B: 2}, []int{3, 5, 6, 9, 10, 12}},
		{impl.Deal{A: 2, B: 1, C: 1}, []int{3, 5, 6, 9, 10, 12}},
		{impl.Deal{A: 1, B: 1, C: 5}, []int{1, 2, 4, 8, 16, 32, 64}},
		{impl.Deal{A: 6, B: 1}, []int{63, 95, 111, 119, 123, 125, 126}},
		{impl.Deal{A: 4, B: 1}, []int{15, 23, 27, 29, 30}},
	} {
		if got := impl.HandsOf(c.d); !slices.Equal(got, c.want) {
			t.Errorf("HandsOf(%v) = %v, want %v", c.d, got, c.want)
		}
	}
	for _, d := range validDeals() {
		cards := d.A + d.B + d.C
		if got, want := impl.HandsOf(d), handsFrom(cards, d.A); !slices.Equal(got, want) {
			t.Errorf("HandsOf(%v) = %v, want %v", d, got, want)
		}
	}
	for _, d := range invalidDeals() {
		if got := impl.HandsOf(d); len(got) != 0 {
			t.Errorf("HandsOf(%v) = %v", d, got)
		}
	}
}

func TestAnnouncements(t *testing.T) {
	all := handsFrom(7, 3)
	for _, c := range []struct {
		d     impl.Deal
		list  []int
		ok    bool
		tells bool
		hides bool
	}{
		{russian, fano(), true, true, true},
		{russian, []int{7, 25, 42, 76, 112}, true, true, true},
		{russian, fano()[1:], true, true, true},
		{russian, fano()[2:], true, true, false},
		{russian, []int{7, 25}, true, true, false},
		{russian, []int{7}, true, true, false},
		{russian, []int{112}, true, true, false},
		{russian, []int{7, 11}, true, false, false},
		{russian, []int{7, 56}, true, true, false},
		{russian, all, true, false, true},
		// Hands that overlap, but hide all.
		{russian, []int{7, 11, 25, 42, 52, 76, 82, 97}, true, false, true},
		// Not ascending, twice the same, or no hands.
		{russian, nil, false, false, false},
		{russian, []int{25, 7}, false, false, false},
		{russian, []int{7, 25, 52, 42, 76, 82, 97}, false, false, false},
		{russian, []int{7, 7}, false, false, false},
		{russian, []int{7, 25, 42, 52, 76, 82, 97, 97}, false, false, false},
		{russian, []int{7, 7, 25, 42, 52, 76, 82, 97}, false, false, false},
		{russian, []int{7, 25, 42, 52, 76, 82, 97, 128}, false, false, false},
		{russian, []int{7, 25, 42, 52, 76, 82, 97, 193}, false, false, false},
		{russian, []int{0, 7, 25, 42, 52, 76, 82, 97}, false, false, false},
		{russian, []int{3, 7, 25, 42, 52, 76, 82, 97}, false, false, false},
		{russian, []int{7, 15, 25, 42, 52, 76, 82, 97}, false, false, false},
		{russian, []int{-121, 7, 25, 42, 52, 76, 82, 97}, false, false, false},
		{russian, []int{math.MinInt, 7, 25, 42, 52, 76, 82, 97, math.MaxInt}, false, false, false},
		{russian, []int{3}, false, false, false},
		{russian, []int{-1}, false, false, false},
		{russian, []int{0}, false, false, false},
		{russian, []int{131}, false, false, false},
		{russian, []int{math.MinInt}, false, false, false},
		{russian, []int{math.MaxInt}, false, false, false},
		{russian, []int{1<<62 + 3}, false, false, false},
		// The cards of another deal.
		{impl.Deal{A: 3, B: 2, C: 1}, []int{7, 25, 42, 52}, true, true, false},
		{impl.Deal{A: 3, B: 2, C: 1}, fano(), false, false, false},
		{impl.Deal{A: 2, B: 4, C: 1}, fano(), false, false, false},
		{impl.Deal{A: 4, B: 3, C: 1}, fano(), false, false, false},
		{impl.Deal{}, nil, false, false, false},
		{impl.Deal{}, []int{0}, false, false, false},
		{impl.Deal{A: 0, B: 1, C: 1}, []int{0}, false, false, false},
		// The same hands, but the second person does not see enough cards.
		{impl.Deal{A: 3, B: 2, C: 2}, fano(), true, false, false},
		{impl.Deal{A: 3, B: 2, C: 2}, []int{7, 56}, true, true, false},
		{impl.Deal{A: 3, B: 2, C: 2}, []int{7, 25}, true, false, false},
		{impl.Deal{A: 3, B: 1, C: 3}, []int{7, 56}, true, false, false},
		{impl.Deal{A: 3, B: 1, C: 3}, []int{7}, true, true, false},
		{impl.Deal{A: 3, B: 1, C: 3}, all, true, false, true},
		{impl.Deal{A: 1, B: 1, C: 5}, []int{1, 2}, true, false, false},
		{impl.Deal{A: 1, B: 1, C: 5}, []int{4}, true, true, false},
		{impl.Deal{A: 1, B: 1, C: 5}, []int{1, 2, 4, 8, 16, 32, 64}, true, false, true},
		// The third person has no card.
		{impl.Deal{A: 3, B: 4}, fano(), true, true, true},
		{impl.Deal{A: 3, B: 4}, all, true, true, true},
		{impl.Deal{A: 3, B: 4}, []int{7, 56}, true, true, false},
		{impl.Deal{A: 3, B: 4}, []int{7, 56, 112}, true, true, true},
		{impl.Deal{A: 3, B: 4}, []int{7, 25, 97}, true, true, false},
		{impl.Deal{A: 1, B: 1}, []int{1, 2}, true, true, true},
		{impl.Deal{A: 1, B: 1}, []int{1}, true, true, false},
		{impl.Deal{A: 1, B: 1}, []int{1, 2, 4}, false, false, false},
		{impl.Deal{A: 2, B: 2}, []int{3, 12}, true, true, true},
		{impl.Deal{A: 2, B: 2}, []int{3, 6}, true, true, false},
	} {
		checkHands(t, c.d, c.list, c.ok, c.tells, c.hides)
	}
}

func TestAnnouncementOkOfAllShortLists(t *testing.T) {
	near := numbers(-1, 9)
	for _, d := range smallDeals(3) {
		s := tableOf(d)
		for n := range 5 {
			for _, list := range allLists(near, n) {
				if got := impl.AnnouncementOk(d, list); got != s.isAnnouncement(list) {
					t.Errorf("AnnouncementOk(%v, %v) = %v", d, list, got)
				}
			}
		}
	}
	for _, d := range append(invalidDeals(), impl.Deal{A: 5, B: 2, C: 1}) {
		for _, list := range append(allLists(near, 1), nil, fano(), []int{1, 2}, []int{0, 1}, []int{31, 47}) {
			checkHands(t, d, list, false, false, false)
		}
	}
}

func TestAnnouncementsOfSmallDeals(t *testing.T) {
	for _, d := range smallDeals(5) {
		s := tableOf(d)
		for _, list := range sublists(s.first) {
			checkList(t, d, s, list)
		}
	}
}

func TestLikelyAnnouncements(t *testing.T) {
	r := dice(103)
	telling, hiding, both := 0, 0, 0
	for _, d := range validDeals() {
		s := tableOf(d)
		for _, list := range likelyLists(&r, s, 60) {
			tells, hides := checkList(t, d, s, list)
			if tells && hides {
				both++
			} else if tells {
				telling++
			} else if hides {
				hiding++
			}
		}
	}
	if telling < 1000 || hiding < 400 || both < 1000 {
		t.Errorf("%d lists only tell, %d only hide and %d are safe", telling, hiding, both)
	}
}

func TestListsWithAFault(t *testing.T) {
	r := dice(107)
	for _, d := range validDeals() {
		s := tableOf(d)
		for _, list := range likelyLists(&r, s, 3) {
			if len(list) == 0 {
				checkHands(t, d, list, false, false, false)
				continue
			}
			for _, n := range append(someNumbers(), r.below(128), r.below(128), 127, 128, 129) {
				changed := slices.Clone(list)
				changed[r.below(len(list))] = n
				checkList(t, d, s, changed)
				checkList(t, d, s, append(slices.Clone(list), n))
				checkList(t, d, s, append([]int{n}, list...))
			}
			if other := shuffled(&r, list); !slices.IsSorted(other) {
				checkHands(t, d, other, false, false, false)
			}
			checkHands(t, d, append(slices.Clone(list), list[len(list)-1]), false, false, false)
			checkHands(t, d, append([]int{list[0]}, list...), false, false, false)
		}
	}
}

func TestLongListsAreNoAnnouncements(t *testing.T) {
	for _, n := range []int{36, 128, 129, 1000, 1000000} {
		for _, list := range [][]int{numbers(0, n-1), numbers(-n, -1), slices.Repeat([]int{7}, n), make([]int, n), append(handsFrom(7, 3), numbers(113, 112+n)...)} {
			if impl.AnnouncementOk(russian, list) || impl.IsSafe(russian, list) || impl.TellsSecond(russian, list) || impl.HidesAll(russian, list) {
				t.Errorf("a list of %d numbers from %d on is accepted", len(list), list[0])
			}
		}
	}
}

func TestAnnouncementsOfOneHand(t *testing.T) {
	for _, d := range validDeals() {
		for _, hand := range handsFrom(d.A+d.B+d.C, d.A) {
			checkHands(t, d, []int{hand}, true, true, false)
		}
	}
}

func TestAnnouncementsOfAllHands(t *testing.T) {
	for _, d := range validDeals() {
		// If the third person has no card, the second one needs no announcement.
		checkHands(t, d, handsFrom(d.A+d.B+d.C, d.A), true, d.C == 0, true)
	}
}

// moved returns the hands of a list, in ascending order, after each card has been replaced by another one.
func moved(list []int, cards []int) []int {
	var hands []int
	for _, hand := range list {
		var other []int
		for _, card := range cardsIn(hand) {
			other = append(other, cards[card])
		}
		hands = append(hands, handWith(other))
	}
	slices.Sort(hands)
	return hands
}

func TestAnnouncementsDoNotDependOnTheNamesOfCards(t *testing.T) {
	r := dice(109)
	for _, d := range validDeals() {
		s := tableOf(d)
		cards := numbers(0, s.cards-1)
		for _, list := range likelyLists(&r, s, 10) {
			other := moved(list, shuffled(&r, cards))
			if impl.TellsSecond(d, list) != impl.TellsSecond(d, other) || impl.HidesAll(d, list) != impl.HidesAll(d, other) {
				t.Errorf("%v and %v differ for %v", list, other, d)
			}
		}
	}
}

// safeLists returns all safe lists of a deal with a third person who has a card, of at most a size.
func safeLists(d impl.Deal, most int) [][]int {
	var safe [][]int
	tableOf(d).lists(most, func(list []int) bool {
		if impl.IsSafe(d, list) {
			safe = append(safe, list)
		}
		return true
	})
	return safe
}

// countSizes returns for each size from 0 to 7 how many of the lists have it.
func countSizes(lists [][]int) [8]int {
	var sizes [8]int
	for _, list := range lists {
		sizes[len(list)]++
	}
	return sizes
}

func TestSafeListsForSevenCards(t *testing.T) {
	// No list of more than 7 hands of 3 of 7 cards has no two hands with 2 cards in common.
	safe := safeLists(russian, 8)
	withFirst := slices.DeleteFunc(slices.Clone(safe), func(list []int) bool { return list[0] != 7 })
	if got, want := countSizes(withFirst), [8]int{5: 60, 6: 36, 7: 6}; got != want {
		t.Errorf("%v safe lists have the hand 7, want %v", got, want)
	}
	if got, want := countSizes(safe), [8]int{5: 420, 6: 210, 7: 30}; got != want {
		t.Errorf("%v lists are safe, want %v", got, want)
	}
	// With 4 cards for the first person, the others of the lines of the planes are safe, and nothing else.
	var others [][]int
	for _, list := range safe {
		if len(list) == 7 {
			var rest []int
			for _, hand := range list {
				rest = append(rest, 127-hand)
			}
			slices.Sort(rest)
			others = append(others, rest)
		}
	}
	slices.SortFunc(others, slices.Compare[[]int])
	if got := safeLists(impl.Deal{A: 4, B: 2, C: 1}, 8); !slices.EqualFunc(got, others, slices.Equal[[]int]) {
		t.Errorf("%d lists are safe for 4, 2 and 1 cards", len(got))
	}
	for _, d := range validDeals() {
		if d.C > 0 && d != russian && d != (impl.Deal{A: 4, B: 2, C: 1}) {
			if got := safeLists(d, 35); len(got) != 0 {
				t.Errorf("%v is safe for %v", got[0], d)
			}
		}
	}
}

func TestPartsOfListsThatTell(t *testing.T) {
	r := dice(113)
	for _, d := range validDeals() {
		s := tableOf(d)
		for range 5 {
			list := tellingHands(&r, s)
			at := r.below(len(list))
			if part := slices.Delete(slices.Clone(list), at, at+1); len(part) > 0 && !impl.TellsSecond(d, part) {
				t.Errorf("%v tells for %v, but its part %v does not", list, d, part)
			}
		}
	}
}

// dealt is what each person has got.
type dealt struct {
	first  int
	second int
	third  int
}

// ways returns all ways to deal the cards.
func (s *table) ways() []dealt {
	var ways []dealt
	for _, first := range s.first {
		for _, third := range s.left(s.third, first) {
			second := slices.DeleteFunc(numbers(0, s.cards-1), func(card int) bool {
				return slices.Contains(cardsIn(first), card) || slices.Contains(cardsIn(third), card)
			})
			ways = append(ways, dealt{first: first, second: handWith(second), third: third})
		}
	}
	return ways
}

// cardsModel returns the model of at most 16 ways to deal at most 4 cards. The facts are the cards of the first person, and
// each person sees the own hand.
func cardsModel(ways []dealt) impl.Model {
	m := impl.Model{}
	var second, third []int
	for _, way := range ways {
		m.Facts = append(m.Facts, way.first)
		second = append(second, way.second)
		third = append(third, way.third)
	}
	m.Blocks = [][]int{plainNumbers(m.Facts), plainNumbers(second), plainNumbers(third)}
	return m
}

// knowsNoCard reports whether the agent 2 does not know of any of some cards whether it is one of the agent 0.
func knowsNoCard(t *testing.T, m impl.Model, cards []int) bool {
	t.Helper()
	return !slices.ContainsFunc(cards, func(card int) bool { return impl.Holds(m, read(t, "W2"+"abcd"[card:card+1])) })
}

func TestAnnouncementsAreThoseOfModels(t *testing.T) {
	announced, safe := 0, 0
	for _, d := range smallDeals(4) {
		s := tableOf(d)
		ways := s.ways()
		m := cardsModel(ways)
		for _, list := range sublists(s.first)[1:] {
			worlds := slices.DeleteFunc(numbers(0, len(ways)-1), func(world int) bool { return !slices.Contains(list, ways[world].first) })
			tells, hides := true, true
			for _, world := range worlds {
				after, ok := impl.RestrictModel(withActual(m, world), worlds)
				if !ok {
					t.Fatalf("%v cannot be announced in %v", list, withActual(m, world))
				}
				tells = tells && impl.KnowsWhich(after, 1)
				hides = hides && knowsNoCard(t, after, cardsIn(ways[world].first|ways[world].second))
				announced++
			}
			checkHands(t, d, list, true, tells, hides)
			if tells && hides {
				safe++
			}
		}
	}
	if announced < 500 || safe < 30 {
		t.Errorf("%d lists are safe in %d models", safe, announced)
	}
}

func TestHandText(t *testing.T) {
	for hand, want := range map[int]string{
		1: "0", 2: "1", 3: "01", 4: "2", 7: "012", 25: "034", 42: "135", 64: "6", 65: "06", 76: "236", 85: "0246", 96: "56", 112: "456", 126: "123456", 127: "0123456",
		0: "", -1: "", -2: "", -127: "", -128: "", 128: "", 129: "", 255: "", 256: "", 1 << 32: "", math.MinInt: "", math.MinInt + 1: "", math.MaxInt: "",
	} {
		if got := impl.HandText(hand); got != want {
			t.Errorf("HandText(%d) = %q, want %q", hand, got, want)
		}
	}
	for _, hand := range someInts() {
		want := ""
		if hand >= 0 && hand < 128 {
			for _, card := range cardsIn(hand) {
				want += string("0123456"[card])
			}
		}
		if got := impl.HandText(hand); got != want {
			t.Errorf("HandText(%d) = %q, want %q", hand, got, want)
		}
	}
}

func TestHandTextsTellTheHands(t *testing.T) {
	texts := map[string]int{}
	for _, d := range validDeals() {
		for _, hand := range impl.HandsOf(d) {
			text := impl.HandText(hand)
			if other, ok := texts[text]; len(text) != d.A || ok && other != hand || !slices.IsSorted(strings.Split(text, "")) {
				t.Errorf("HandText(%d) = %q, and the text of %d is the same", hand, text, other)
			}
			texts[text] = hand
		}
	}
	if len(texts) != 126 {
		t.Errorf("there are %d texts", len(texts))
	}
}

// checkFirst compares FirstSafe with a list, or with a failure if there is none.
func checkFirst(t *testing.T, d impl.Deal, hand int, size int, want []int) {
	t.Helper()
	got, ok := impl.FirstSafe(d, hand, size)
	checkNumbers(t, fmt.Sprintf("FirstSafe(%v, %d, %d)", d, hand, size), got, ok, want, want != nil)
}

func TestFirstSafe(t *testing.T) {
	for _, c := range []struct {
		d    impl.Deal
		hand int
		size int
		want []int
	}{
		{russian, 7, 5, []int{7, 25, 42, 76, 112}},
		{russian, 7, 6, []int{7, 25, 42, 52, 76, 82}},
		{russian, 7, 7, fano()},
		{russian, 25, 7, fano()},
		{russian, 97, 7, fano()},
		{russian, 112, 5, []int{7, 25, 42, 76, 112}},
		{russian, 7, 1, nil},
		{russian, 7, 2, nil},
		{russian, 7, 3, nil},
		{russian, 7, 4, nil},
		{russian, 7, 8, nil},
		{russian, 7, 0, nil},
		{russian, 7, -1, nil},
		{russian, 7, -5, nil},
		{russian, 7, math.MinInt, nil},
		{russian, 7, math.MaxInt, nil},
		// No hand of the first person.
		{russian, 3, 5, nil},
		{russian, 15, 5, nil},
		{russian, 0, 5, nil},
		{russian, -7, 5, nil},
		{russian, 127, 5, nil},
		{russian, 131, 5, nil},
		{russian, 193, 7, nil},
		{russian, math.MinInt + 3, 5, nil},
		{russian, math.MaxInt, 5, nil},
		{impl.Deal{A: 3, B: 2, C: 1}, 97, 3, nil},
		{impl.Deal{A: 3, B: 2, C: 1}, 7, 4, nil},
		// No deal.
		{impl.Deal{}, 0, 1, nil},
		{impl.Deal{A: 4, B: 3, C: 1}, 15, 7, nil},
		{impl.Deal{A: 3, B: 3, C: 2}, 7, 5, nil},
		{impl.Deal{A: 3, B: 5, C: -1}, 7, 5, nil},
		{impl.Deal{A: 3, B: 4}, 7, 1, nil},
		{impl.Deal{A: 3, B: 4}, 7, 2, nil},
		{impl.Deal{A: 3, B: 4}, 7, 3, []int{7, 11, 112}},
		{impl.Deal{A: 3, B: 4}, 7, 7, []int{7, 11, 13, 14, 19, 21, 97}},
		{impl.Deal{A: 3, B: 4}, 112, 7, []int{7, 11, 13, 14, 19, 21, 112}},
		{impl.Deal{A: 1, B: 1}, 1, 1, nil},
		{impl.Deal{A: 1, B: 1}, 1, 2, []int{1, 2}},
		{impl.Deal{A: 1, B: 1}, 2, 2, []int{1, 2}},
		{impl.Deal{A: 1, B: 1}, 2, 3, nil},
		{impl.Deal{A: 2, B: 2}, 6, 2, []int{6, 9}},
		{impl.Deal{A: 2, B: 2}, 6, 3, []int{3, 6, 9}},
		{impl.Deal{A: 2, B: 2}, 6, 4, []int{3, 5, 6, 9}},
	} {
		checkFirst(t, c.d, c.hand, c.size, c.want)
	}
}

func TestFirstSafeOfAllDeals(t *testing.T) {
	none, some := 0, 0
	for _, d := range validDeals() {
		s := tableOf(d)
		for size := 1; size <= 7; size++ {
			firsts := s.firsts(size)
			for hand := -1; hand <= 128; hand++ {
				checkFirst(t, d, hand, size, firsts[hand])
			}
			some += len(firsts)
			none += len(s.first) - len(firsts)
		}
	}
	if none < 1000 || some < 1000 {
		t.Errorf("there are lists for %d hands and sizes, and none for %d", some, none)
	}
}

func TestFirstSafeOfSmallDeals(t *testing.T) {
	for _, d := range smallDeals(5) {
		s := tableOf(d)
		safe := slices.DeleteFunc(sublists(s.first)[1:], func(list []int) bool { return !s.tells(list) || !s.hides(list) })
		slices.SortFunc(safe, slices.Compare[[]int])
		for size := range 11 {
			for _, hand := range numbers(-1, 33) {
				var want []int
				at := slices.IndexFunc(safe, func(list []int) bool { return len(list) == size && slices.Contains(list, hand) })
				if at >= 0 && size <= 7 {
					want = safe[at]
				}
				checkFirst(t, d, hand, size, want)
			}
		}
	}
}

func TestFirstSafeOfOtherArguments(t *testing.T) {
	for _, d := range append(validDeals(), invalidDeals()...) {
		hands := impl.HandsOf(d)
		for _, size := range someNumbers() {
			for _, hand := range append(someNumbers(), 7, 15, 112, 126, 127) {
				if size < 1 || size > 7 || !slices.Contains(hands, hand) {
					checkFirst(t, d, hand, size, nil)
				}
			}
		}
	}
	for _, d := range invalidDeals() {
		for hand := range 129 {
			for size := range 9 {
				checkFirst(t, d, hand, size, nil)
			}
		}
	}
}

// checkLearned reports what is wrong with a safe list: the ways to deal in which the second person does not know all cards,
// or the third person knows another one.
func checkLearned(t *testing.T, s *table, ways []dealt, list []int) {
	t.Helper()
	left := slices.DeleteFunc(slices.Clone(ways), func(way dealt) bool { return !slices.Contains(list, way.first) })
	hands := map[int]int{}
	have, lack := map[[2]int]bool{}, map[[2]int]bool{}
	for _, way := range left {
		if first, ok := hands[way.second]; ok && first != way.first {
			t.Errorf("the second person with %d does not know from %v which hand the first one has", way.second, list)
		}
		hands[way.second] = way.first
		for card := range s.cards {
			where := have
			if !slices.Contains(cardsIn(way.first), card) {
				where = lack
			}
			where[[2]int{way.third, card}] = true
		}
	}
	for _, way := range left {
		for _, card := range cardsIn(way.first | way.second) {
			if at := [2]int{way.third, card}; !have[at] || !lack[at] {
				t.Errorf("the third person with %d knows from %v who has the card %d", way.third, list, card)
			}
		}
	}
}

func TestFirstSafeListsAreSafe(t *testing.T) {
	for _, d := range validDeals() {
		s := tableOf(d)
		ways := s.ways()
		for _, hand := range s.first {
			for size := 1; size <= 7; size++ {
				list, ok := impl.FirstSafe(d, hand, size)
				if !ok {
					continue
				}
				checkHands(t, d, list, true, true, true)
				if len(list) != size || !slices.Contains(list, hand) {
					t.Errorf("FirstSafe(%v, %d, %d) = %v", d, hand, size, list)
				}
				checkLearned(t, s, ways, list)
			}
		}
	}
}

// callAllCards calls every function of the layer, and returns the lists that it gets.
func callAllCards(d impl.Deal, list []int, hand int, size int) [][]int {
	impl.DealOk(d)
	impl.AnnouncementOk(d, list)
	impl.TellsSecond(d, list)
	impl.HidesAll(d, list)
	impl.IsSafe(d, list)
	impl.HandText(hand)
	first, _ := impl.FirstSafe(d, hand, size)
	again, _ := impl.FirstSafe(d, hand, size)
	return [][]int{first, again, impl.HandsOf(d), impl.HandsOf(d)}
}

// forCards calls a function with lists for all valid deals, with faults and without, and a hand and a size for each.
func forCards(call func(d impl.Deal, list []int, hand int, size int)) {
	r := dice(127)
	for _, d := range validDeals() {
		s := tableOf(d)
		for i, list := range append(likelyLists(&r, s, 4), nil, fano(), []int{3, 2, 1}, s.first) {
			call(d, list, s.first[i%len(s.first)], 1+i%7)
		}
	}
}

func TestCardsArgumentsAreNotModified(t *testing.T) {
	forCards(func(d impl.Deal, list []int, hand int, size int) {
		hands := roomyList(list)
		callAllCards(d, hands, hand, size)
		if !isRoomyList(hands, list) {
			t.Errorf("the argument or the room behind it was changed: %v", list)
		}
	})
}

func TestCardsResultsAreNew(t *testing.T) {
	forCards(func(d impl.Deal, list []int, hand int, size int) {
		before := slices.Clone(list)
		kept, want := callAllCards(d, list, hand, size), callAllCards(d, before, hand, size)
		for i, hands := range kept {
			for j := range hands[:cap(hands)] {
				hands[:cap(hands)][j] = marked
			}
			if !slices.EqualFunc(kept[i+1:], want[i+1:], slices.Equal[[]int]) {
				t.Fatalf("two results for %v share memory", d)
			}
		}
		if !slices.Equal(list, before) {
			t.Fatalf("a result shares memory with the argument %v", before)
		}
		if again := callAllCards(d, list, hand, size); !slices.EqualFunc(again, want, slices.Equal[[]int]) {
			t.Fatalf("the results for %v differ from call to call", d)
		}
	})
}

func TestCardsResultsDoNotDependOnOtherCalls(t *testing.T) {
	var want [][][]int
	forCards(func(d impl.Deal, list []int, hand int, size int) {
		want = append(want, callAllCards(d, list, hand, size))
	})
	var callers sync.WaitGroup
	for range 8 {
		callers.Go(func() {
			i := 0
			forCards(func(d impl.Deal, list []int, hand int, size int) {
				if got := callAllCards(d, list, hand, size); !slices.EqualFunc(got, want[i], slices.Equal[[]int]) {
					t.Errorf("the results for %v, %d, %d differ in a call among others", d, hand, size)
				}
				i++
			})
		})
	}
	callers.Wait()
}
