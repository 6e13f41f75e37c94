package tests

import (
	"fmt"
	"runtime"
	"slices"
	"strings"
	"testing"
	"time"

	"loop.example/g00945/impl"
)

// plainEventOk is a second way to find out whether an event model is valid.
func plainEventOk(e impl.Event) bool {
	n := len(e.Conditions)
	if n == 0 || n > 4 || len(e.Blocks) == 0 || len(e.Blocks) > 3 || e.Actual < 0 || e.Actual >= n {
		return false
	}
	for _, blocks := range e.Blocks {
		if len(blocks) != n || !plainRow(blocks) {
			return false
		}
	}
	return !slices.ContainsFunc(e.Conditions, func(f []impl.Node) bool { return !impl.FormulaOk(f) })
}

// plainPairs is a second way to find the pairs of a world of a valid model and an event of a valid event model.
func plainPairs(m impl.Model, e impl.Event) ([][2]int, bool) {
	can := map[[2]int]bool{}
	for event, f := range e.Conditions {
		truth, ok := plainTruth(m, f)
		if !ok {
			return nil, false
		}
		for _, world := range worldsOf(truth) {
			can[[2]int{world, event}] = true
		}
	}
	var pairs [][2]int
	for i := range 64 {
		if at := [2]int{i / 4, i % 4}; can[at] {
			pairs = append(pairs, at)
		}
	}
	return pairs, can[[2]int{m.Actual, e.Actual}]
}

// plainProduct is a second way to find the product of a valid model and a valid event model.
func plainProduct(m impl.Model, e impl.Event) (impl.Model, bool) {
	if len(m.Blocks) != len(e.Blocks) {
		return impl.Model{}, false
	}
	pairs, ok := plainPairs(m, e)
	if !ok || len(pairs) > 16 {
		return impl.Model{}, false
	}
	product := impl.Model{Actual: slices.Index(pairs, [2]int{m.Actual, e.Actual})}
	for _, at := range pairs {
		product.Facts = append(product.Facts, m.Facts[at[0]])
	}
	for agent := range m.Blocks {
		var seen [][2]int
		for _, at := range pairs {
			seen = append(seen, [2]int{m.Blocks[agent][at[0]], e.Blocks[agent][at[1]]})
		}
		product.Blocks = append(product.Blocks, plainNumbers(seen))
	}
	return product, true
}

// checkProduct compares the functions of a model and an event model with the second way.
func checkProduct(t *testing.T, m impl.Model, e impl.Event) bool {
	t.Helper()
	want, wantOk := plainProduct(m, e)
	label := fmt.Sprintf("(%v, %v)", m, e)
	got, ok := impl.ProductOf(m, e)
	checkModel(t, "ProductOf"+label, got, ok, want, wantOk)
	if got := impl.CountPairs(m, e); got != len(want.Facts) {
		t.Errorf("CountPairs%s = %d, want %d", label, got, len(want.Facts))
	}
	return ok
}

// checkNoProduct checks that there is no product of a model and an event model.
func checkNoProduct(t *testing.T, label string, m impl.Model, e impl.Event) {
	t.Helper()
	got, ok := impl.ProductOf(m, e)
	checkModel(t, "ProductOf of "+label, got, ok, impl.Model{}, false)
	if got := impl.CountPairs(m, e); got != 0 {
		t.Errorf("CountPairs is %d: %s", got, label)
	}
}

// equalEvents is a second way to compare event models.
func equalEvents(e impl.Event, other impl.Event) bool {
	return slices.EqualFunc(e.Conditions, other.Conditions, slices.Equal[[]impl.Node]) &&
		slices.EqualFunc(e.Blocks, other.Blocks, slices.Equal[[]int]) && e.Actual == other.Actual
}

// checkEvent compares the result of a function with an event model, or with a failure if there is none.
func checkEvent(t *testing.T, label string, got impl.Event, ok bool, want impl.Event, wantOk bool) {
	t.Helper()
	valid := func(e impl.Event) bool { return plainEventOk(e) && impl.EventOk(e) }
	checkResult(t, label, got, ok, want, wantOk, equalEvents, valid)
}

// manyEvents returns an event model of n events with the same condition and one block for each agent.
func manyEvents(n int, agents int, f []impl.Node) impl.Event {
	return impl.Event{Conditions: slices.Repeat([][]impl.Node{f}, n), Blocks: manyWorlds(n, agents).Blocks}
}

// event returns the event model of conditions with texts that are separated by spaces.
func event(t *testing.T, texts string, actual int, blocks ...[]int) impl.Event {
	t.Helper()
	return impl.Event{Conditions: readAll(t, texts), Blocks: blocks, Actual: actual}
}

// allEvents returns event models with all blocks of up to 4 events (for 3 agents of up to 3) whose conditions are taken
// from a list in turn.
func allEvents(conditions [][]impl.Node) []impl.Event {
	var all []impl.Event
	for agents := 1; agents <= 3; agents++ {
		for n := 1; n <= 4-agents/3; n++ {
			for i, m := range modelsOf(make([]int, n), agents) {
				e := impl.Event{Blocks: m.Blocks, Actual: m.Actual}
				for k := range n {
					e.Conditions = append(e.Conditions, conditions[(i*7+k*31)%len(conditions)])
				}
				all = append(all, e)
			}
		}
	}
	return all
}

// likelyEvent returns an event model for the agents of a model, in which the condition of the actual event is true.
func likelyEvent(t *testing.T, d *dice, m impl.Model) impl.Event {
	t.Helper()
	n, agents := 1+d.below(4), len(m.Blocks)
	frame := randomModel(d, n, agents, 1+d.below(4))
	e := impl.Event{Blocks: frame.Blocks, Actual: frame.Actual}
	for range n {
		text := nestedFormula(d, d.below(3), agents)
		// Of the worlds in which it is true, there are few for a conjunction.
		if d.below(2) == 0 {
			text = "&" + text + nestedFormula(d, d.below(2), agents)
		}
		if !plainHolds(m, read(t, text)) && len(e.Conditions) == e.Actual {
			text = "-" + text
		}
		e.Conditions = append(e.Conditions, read(t, text))
	}
	return e
}

// invalidEvents returns event models that are not valid, for one reason each.
func invalidEvents() map[string]impl.Event {
	truth := []impl.Node{{Op: impl.OpTrue}}
	invalid := map[string]impl.Event{
		"5 events":      manyEvents(5, 1, truth),
		"16 events":     manyEvents(16, 2, truth),
		"actual 4 of 4": {Conditions: slices.Repeat([][]impl.Node{truth}, 4), Blocks: [][]int{{0, 1, 2, 3}}, Actual: 4},
	}
	for name, m := range invalidModels() {
		// Events have no facts that could be wrong.
		if !strings.Contains(name, "facts") {
			invalid[name] = impl.Event{Conditions: slices.Repeat([][]impl.Node{truth}, len(m.Facts)), Blocks: m.Blocks, Actual: m.Actual}
		}
	}
	for name, f := range invalidLists() {
		for at := range 3 {
			e := manyEvents(3, 2, truth)
			e.Conditions[at] = f
			invalid[fmt.Sprintf("condition %d is %s", at, name)] = e
		}
		invalid["the only condition is "+name] = manyEvents(1, 1, f)
	}
	return invalid
}

func TestEventOk(t *testing.T) {
	for _, e := range allEvents(sampleFormulas()) {
		if !plainEventOk(e) || !impl.EventOk(e) {
			t.Errorf("EventOk(%v) is false", e)
		}
	}
	for name, e := range invalidEvents() {
		if plainEventOk(e) {
			t.Errorf("the test is wrong: %s", name)
		}
		if impl.EventOk(e) {
			t.Errorf("EventOk is true: %s", name)
		}
	}
	// Whether a model has the agents of a condition is not a matter of the event model.
	if !impl.EventOk(event(t, "K2a -K1-T", 1, []int{0, 1})) {
		t.Error("EventOk is false for conditions of other agents")
	}
}

func TestEventOkOfAllBlocks(t *testing.T) {
	f := read(t, "a")
	checkAllBlocks(t, 4, func(n int, blocks [][]int) bool {
		return impl.EventOk(impl.Event{Conditions: slices.Repeat([][]impl.Node{f}, n), Blocks: blocks})
	})
}

func TestEventOkAfterOneChange(t *testing.T) {
	for _, e := range allEvents(formulasUpTo(2)) {
		m := impl.Model{Blocks: e.Blocks, Actual: e.Actual}
		for _, field := range fieldsOf(&m) {
			before := *field
			for _, value := range someNumbers() {
				*field = value
				changed := impl.Event{Conditions: e.Conditions, Blocks: m.Blocks, Actual: m.Actual}
				if got := impl.EventOk(changed); got != plainEventOk(changed) {
					t.Errorf("EventOk(%v) = %v", changed, got)
				}
			}
			*field = before
		}
	}
}

func TestProductOf(t *testing.T) {
	same, apart := []int{0, 0}, []int{0, 1}
	cases := []struct {
		name string
		e    impl.Event
		want impl.Model
	}{
		{"one event", event(t, "T", 0, []int{0}, []int{0}), twoChildren()},
		{"one event with a condition", event(t, "a", 0, []int{0}, []int{0}), impl.Model{Facts: []int{1, 3}, Blocks: [][]int{{0, 1}, {0, 0}}, Actual: 1}},
		{"agent 0 may be told a", event(t, "a T", 0, apart, same),
			impl.Model{Facts: []int{0, 1, 1, 2, 3, 3}, Blocks: [][]int{{0, 1, 0, 2, 3, 2}, {0, 1, 1, 0, 1, 1}}, Actual: 4}},
		{"agent 0 is not told a", event(t, "a T", 1, apart, same),
			impl.Model{Facts: []int{0, 1, 1, 2, 3, 3}, Blocks: [][]int{{0, 1, 0, 2, 3, 2}, {0, 1, 1, 0, 1, 1}}, Actual: 5}},
		{"agent 0 sees whether a", event(t, "a -a", 0, apart, same),
			impl.Model{Facts: []int{0, 1, 2, 3}, Blocks: [][]int{{0, 1, 2, 3}, {0, 1, 0, 1}}, Actual: 3}},
		{"nobody sees whether a", event(t, "a -a", 0, same, same), twoChildren()},
		{"nothing or nothing", event(t, "T T", 0, same, same),
			impl.Model{Facts: []int{0, 0, 1, 1, 2, 2, 3, 3}, Blocks: [][]int{{0, 0, 0, 0, 1, 1, 1, 1}, {0, 0, 1, 1, 0, 0, 1, 1}}, Actual: 6}},
		{"nothing or another nothing", event(t, "T T", 1, apart, apart),
			impl.Model{Facts: []int{0, 0, 1, 1, 2, 2, 3, 3}, Blocks: [][]int{{0, 1, 0, 1, 2, 3, 2, 3}, {0, 1, 2, 3, 0, 1, 2, 3}}, Actual: 7}},
		{"three events", event(t, "a b T", 1, []int{0, 0, 1}, []int{0, 1, 1}),
			impl.Model{Facts: []int{0, 1, 1, 2, 2, 3, 3, 3}, Blocks: [][]int{{0, 1, 0, 2, 3, 2, 2, 3}, {0, 1, 2, 0, 0, 1, 2, 2}}, Actual: 6}},
		{"an event that cannot happen", event(t, "-T &ab", 1, apart, same), impl.Model{Facts: []int{3}, Blocks: [][]int{{0}, {0}}}},
		{"four events that exclude each other", event(t, "&ab &-ab &a-b &-a-b", 0, []int{0, 1, 1, 0}, []int{0, 0, 1, 1}),
			impl.Model{Facts: []int{0, 1, 2, 3}, Blocks: [][]int{{0, 1, 2, 3}, {0, 1, 2, 3}}, Actual: 3}},
		{"conditions of knowledge", event(t, "-K0a K1a", 0, apart, same),
			impl.Model{Facts: []int{0, 1, 1, 2, 3, 3}, Blocks: [][]int{{0, 0, 1, 2, 2, 3}, {0, 1, 1, 0, 1, 1}}, Actual: 4}},
	}
	for _, c := range cases {
		got, ok := impl.ProductOf(twoChildren(), c.e)
		checkModel(t, c.name, got, ok, c.want, true)
		if got := impl.CountPairs(twoChildren(), c.e); got != len(c.want.Facts) {
			t.Errorf("CountPairs is %d, want %d: %s", got, len(c.want.Facts), c.name)
		}
	}
}

func TestProductOfWhatCannotHappen(t *testing.T) {
	same, apart := []int{0, 0}, []int{0, 1}
	for name, e := range map[string]impl.Event{
		"a false condition":               event(t, "-a", 0, []int{0}, []int{0}),
		"a condition that is never true":  event(t, "-T", 0, []int{0}, []int{0}),
		"a fact of no world":              event(t, "c", 0, []int{0}, []int{0}),
		"the first of two":                event(t, "-a T", 0, apart, same),
		"the second of two":               event(t, "T -a", 1, same, apart),
		"the third of three":              event(t, "T a K0a", 2, []int{0, 1, 2}, []int{0, 0, 0}),
		"one agent too few":               event(t, "a T", 0, apart),
		"one agent too many":              event(t, "a T", 0, apart, same, same),
		"a missing agent":                 event(t, "K2a T", 1, apart, same),
		"a missing agent who knows":       event(t, "a -W2T", 0, apart, same),
		"a missing agent behind nothing":  event(t, "a T !-TK2a", 0, []int{0, 0, 0}, []int{0, 0, 0}),
		"an event too many for 16 worlds": event(t, "T T T T", 0, []int{0, 0, 0, 0}, []int{0, 0, 0}),
	} {
		checkNoProduct(t, name, twoChildren(), e)
	}
}

func TestProductOfAllNumbersOfPairs(t *testing.T) {
	for worlds := 1; worlds <= 16; worlds++ {
		for events := 1; events <= 4; events++ {
			for agents := 1; agents <= 3; agents++ {
				m, e := manyWorlds(worlds, agents), manyEvents(events, agents, read(t, "T"))
				if ok := checkProduct(t, m, e); ok != (worlds*events <= 16) {
					t.Errorf("ProductOf of %d worlds and %d events = %v", worlds, events, ok)
				}
			}
		}
	}
	free, _ := impl.FreeModel(4, 3)
	cases := []struct {
		texts string
		want  int
	}{
		{"T", 16}, {"T -T", 16}, {"T &a&b&cd", 0}, {"a -a", 16}, {"a -a &a&b&cd", 0}, {"&a&b&cd -&a&b&cd", 16}, {"a -&a&b&cd", 0}, {"-&-a-b &cd", 16},
		{"-&-a-b -&-c-d", 0}, {"&ab &ab &cd &cd", 16}, {"&ab &ab &cd -&-cd", 0}, {"&ab &cd a -T", 16}, {"b &ab &a&b&cd", 13}, {"T T T T", 0}, {"&a&b&cd a b &cd", 0},
	}
	for _, c := range cases {
		m, _ := impl.MoveTo(free, 15)
		n := len(readAll(t, c.texts))
		e := event(t, c.texts, 0, make([]int, n), numbers(0, n-1), make([]int, n))
		checkProduct(t, m, e)
		if got := impl.CountPairs(m, e); got != c.want {
			t.Errorf("CountPairs for %s = %d, want %d", c.texts, got, c.want)
		}
	}
}

func TestProductOfAllEvents(t *testing.T) {
	var models []impl.Model
	for agents := 1; agents <= 3; agents++ {
		models = append(models, modelsOf([]int{1, 6, 1}, agents)...)
	}
	for _, texts := range []string{"T", "a T -a b", "K0a -a T W0b Ea -Cb"} {
		for i, e := range allEvents(readAll(t, texts)) {
			for k := range 8 {
				checkProduct(t, models[(i*7919+k*104729)%len(models)], e)
			}
		}
	}
}

func TestProductOfManyModels(t *testing.T) {
	d := dice(29)
	good, bad := 0, 0
	for _, m := range append(sampleModels(), twoChildren(), threeChildren()) {
		for range 4 {
			if checkProduct(t, m, likelyEvent(t, &d, m)) {
				good++
			} else {
				bad++
			}
		}
	}
	if good < 2000 || bad < 200 {
		t.Errorf("only %d products exist, and only %d do not", good, bad)
	}
}

func TestProductOfLongConditions(t *testing.T) {
	models := append(randomModels(), longModel())
	list := randomFormulas()
	for i, f := range list {
		for k := range 6 {
			m := models[(i*7919+k*104729)%len(models)]
			n := 1 + k%3
			e := manyEvents(n, len(m.Blocks), f)
			for event := range n - 1 {
				e.Conditions[event+1] = list[(i*31+k*977+event)%len(list)]
			}
			e.Actual = k % n
			checkProduct(t, m, e)
		}
	}
}

func TestProductOfWhatIsNotValid(t *testing.T) {
	truth := read(t, "T")
	for name, m := range invalidModels() {
		for agents := 1; agents <= 3; agents++ {
			for events := 1; events <= 4; events++ {
				checkNoProduct(t, name, m, manyEvents(events, agents, truth))
			}
		}
	}
	for name, e := range invalidEvents() {
		for agents := 1; agents <= 3; agents++ {
			checkNoProduct(t, name, manyWorlds(1, agents), e)
			checkNoProduct(t, name, manyWorlds(3, agents), e)
		}
		for other, m := range invalidModels() {
			checkNoProduct(t, name+" and "+other, m, e)
		}
	}
}

func TestProductOfOtherAgents(t *testing.T) {
	for agents := 1; agents <= 3; agents++ {
		for others := 1; others <= 3; others++ {
			for events := 1; events <= 4; events++ {
				m, e := manyWorlds(3, agents), manyEvents(events, others, read(t, "T"))
				if ok := checkProduct(t, m, e); ok != (agents == others) {
					t.Errorf("ProductOf of %d and %d agents = %v", agents, others, ok)
				}
			}
		}
	}
	checkAgentsThatAreMissing(t, func(t *testing.T, m impl.Model, f []impl.Node) {
		for at := range 3 {
			e := manyEvents(3, len(m.Blocks), read(t, "a"))
			e.Conditions[at] = f
			checkProduct(t, m, e)
			e.Actual = at
			checkProduct(t, m, e)
		}
	}, func(t *testing.T, label string, m impl.Model, f []impl.Node) {
		for at := range 3 {
			e := manyEvents(3, len(m.Blocks), read(t, "T"))
			e.Conditions[at] = f
			checkNoProduct(t, label, m, e)
			e.Actual = at
			checkNoProduct(t, label, m, e)
		}
	})
}

// checkGoroutinesEnd checks that no goroutines are left some time after many calls.
func checkGoroutinesEnd(t *testing.T, call func()) {
	t.Helper()
	before := runtime.NumGoroutine()
	for range 50 {
		call()
	}
	for range 1000 {
		if runtime.NumGoroutine() <= before {
			return
		}
		time.Sleep(time.Millisecond)
	}
	t.Errorf("%d goroutines are left", runtime.NumGoroutine()-before)
}

func TestProductsEndTheirGoroutines(t *testing.T) {
	checkGoroutinesEnd(t, func() {
		impl.ProductOf(manyWorlds(16, 2), manyEvents(4, 2, read(t, "T")))
		impl.CountPairs(manyWorlds(16, 2), manyEvents(2, 2, read(t, "T")))
		impl.ProductOf(manyWorlds(4, 1), manyEvents(4, 1, read(t, "T")))
		impl.ProductOf(manyWorlds(4, 1), manyEvents(4, 1, read(t, "-T")))
	})
}

// someAgents returns the numbers of agents and the agents with which the functions are tried.
func someAgents() []int {
	return append(someNumbers(), 1<<32, 1<<32+1, -1<<32, 1<<62)
}

// checkEvents compares the event models of a list of nodes with what the document says.
func checkEvents(t *testing.T, f []impl.Node, agents int, agent int) {
	t.Helper()
	label := fmt.Sprintf("of %d nodes, agent %d of %d", len(f), agent, agents)
	agentsOk := impl.FormulaOk(f) && 1 <= agents && agents <= 3
	agentOk := agentsOk && 0 <= agent && agent < agents
	var want impl.Event
	if agentsOk {
		want = manyEvents(1, agents, f)
	}
	got, ok := impl.PublicEvent(f, agents)
	checkEvent(t, "PublicEvent "+label, got, ok, want, agentsOk)
	if agentOk {
		want = manyEvents(2, agents, f)
		want.Conditions[1] = []impl.Node{{Op: impl.OpTrue}}
		want.Blocks[agent][1] = 1
	}
	got, ok = impl.PrivateEvent(f, agent, agents)
	checkEvent(t, "PrivateEvent "+label, got, ok, want, agentOk)
	agentOk = agentOk && len(f) < 40
	if agentOk {
		want.Conditions[1] = read(t, "-"+plainText(f, len(f)-1))
	}
	got, ok = impl.AskEvent(f, agent, agents)
	checkEvent(t, "AskEvent "+label, got, ok, want, agentOk)
}

func TestEventsOfAllAgents(t *testing.T) {
	for _, agents := range someAgents() {
		for _, agent := range someAgents() {
			for _, text := range []string{"a", "K2-b", "!aCa"} {
				checkEvents(t, read(t, text), agents, agent)
			}
		}
	}
}

func TestEventsOfAllFormulas(t *testing.T) {
	for i, f := range append(formulasUpTo(3), randomFormulas()...) {
		checkEvents(t, f, 1+i%3, 0)
		checkEvents(t, f, 3, i%4)
		checkEvents(t, f, i%5, 1)
	}
	for n := 1; n <= 45; n++ {
		for agents := range 5 {
			checkEvents(t, chain(n), agents, 0)
			checkEvents(t, chain(n), agents, 2)
		}
	}
	for name, f := range invalidLists() {
		for agents := 1; agents <= 3; agents++ {
			for agent := range agents {
				checkEvents(t, f, agents, agent)
				if _, ok := impl.PublicEvent(f, agents); ok {
					t.Errorf("PublicEvent succeeds: %s", name)
				}
			}
		}
	}
}

func TestPrivateEvent(t *testing.T) {
	e, ok := impl.PrivateEvent(read(t, "-&ab"), 1, 3)
	checkEvent(t, "PrivateEvent", e, ok, event(t, "-&ab T", 0, []int{0, 0}, []int{0, 1}, []int{0, 0}), true)
	e, ok = impl.AskEvent(read(t, "-&ab"), 2, 3)
	checkEvent(t, "AskEvent", e, ok, event(t, "-&ab --&ab", 0, []int{0, 0}, []int{0, 0}, []int{0, 1}), true)
	e, ok = impl.PublicEvent(read(t, "-&ab"), 3)
	checkEvent(t, "PublicEvent", e, ok, event(t, "-&ab", 0, []int{0}, []int{0}, []int{0}), true)
	// The condition is f as it is given, and its negation has the form of ParseFormula.
	f := []impl.Node{{Op: impl.OpFact, N: 1}, {Op: impl.OpFact}, {Op: impl.OpAnd, A: 1, B: 0}}
	e, ok = impl.AskEvent(f, 0, 1)
	checkEvent(t, "AskEvent", e, ok, impl.Event{Conditions: [][]impl.Node{f, read(t, "-&ab")}, Blocks: [][]int{{0, 1}}}, true)
}

func TestPublicEventsAreAnnouncements(t *testing.T) {
	check := func(m impl.Model, f []impl.Node) {
		e, ok := impl.PublicEvent(f, len(m.Blocks))
		if !ok {
			t.Fatalf("PublicEvent of %v fails", f)
		}
		want, wantOk := impl.Announce(m, f)
		got, ok := impl.ProductOf(m, e)
		checkModel(t, fmt.Sprintf("the public event %s in %v", plainText(f, len(f)-1), m), got, ok, want, wantOk)
		if got, want := impl.CountPairs(m, e), impl.WorldsLeft(m, f); got != want {
			t.Errorf("CountPairs is %d and WorldsLeft %d for %v in %v", got, want, f, m)
		}
	}
	forLaws(func(m impl.Model, x string, y string, agent int) {
		check(m, read(t, x))
		check(m, read(t, "-"+x))
		check(m, read(t, "!"+x+y))
	})
	for _, m := range sampleModels() {
		check(m, read(t, "T"))
		check(m, read(t, "a"))
	}
}

// trueOf returns the text of the one of a formula and its negation that is true in the actual world.
func trueOf(t *testing.T, m impl.Model, text string) string {
	t.Helper()
	if impl.Holds(m, read(t, text)) {
		return text
	}
	return "-" + text
}

// forPrivate calls a check with models, the text of a formula of facts that is true, an agent and the model after a
// private event or a question of this agent.
func forPrivate(t *testing.T, ask bool, check func(before impl.Model, after impl.Model, text string, agent int)) {
	t.Helper()
	count := 0
	tell := impl.PrivateEvent
	if ask {
		tell = impl.AskEvent
	}
	texts := []string{"a", "b", "T", "d", "-&-a-c"}
	for i, m := range append(sampleModels(), twoChildren(), threeChildren()) {
		for _, text := range []string{"&ab", texts[i%5]} {
			text = trueOf(t, m, text)
			for agent := range m.Blocks {
				e, _ := tell(read(t, text), agent, len(m.Blocks))
				if after, ok := impl.ProductOf(m, e); ok {
					count++
					check(m, after, text, agent)
				}
			}
		}
	}
	if count < 1000 {
		t.Errorf("there are only %d products", count)
	}
}

// knownFormulas are texts of formulas of facts of which the tests ask who knows them.
const knownFormulas = "a b -c -&-ab &ad"

// checkKnown checks who knows formulas of facts after an agent has been told one: the agent what follows from it, and the
// others what they have known before.
func checkKnown(t *testing.T, before impl.Model, after impl.Model, text string, agent int) {
	t.Helper()
	for _, f := range readAll(t, knownFormulas) {
		x := plainText(f, len(f)-1)
		if impl.Holds(after, f) != impl.Holds(before, f) {
			t.Errorf("%s has changed in %v", x, before)
		}
		for other := range before.Blocks {
			was := written(t, "K0X", x, "", other)
			if other == agent {
				was = written(t, "K0-&Y-X", x, text, other)
			}
			if impl.Holds(after, written(t, "K0X", x, "", other)) != impl.Holds(before, was) {
				t.Errorf("what agent %d knows of %s in %v is wrong after agent %d has been told %s", other, x, before, agent, text)
			}
		}
	}
}

func TestPrivateEventsTellOneAgent(t *testing.T) {
	forPrivate(t, false, func(before impl.Model, after impl.Model, text string, agent int) {
		checkKnown(t, before, after, text, agent)
		if !impl.Holds(after, written(t, "K0X", text, "", agent)) {
			t.Errorf("agent %d does not know %s after having been told it in %v", agent, text, before)
		}
		if got, want := len(after.Facts), len(before.Facts)+len(impl.WorldsWhere(before, read(t, text))); got != want {
			t.Errorf("%d worlds are left of %v after %s, want %d", got, before, text, want)
		}
		for other := range before.Blocks {
			if other == agent {
				continue
			}
			// The others learn neither that the agent knows it, nor that the agent does not.
			inner := "K" + plainFormat(agent) + text
			knows := written(t, "K0X", inner, "", other)
			if impl.Holds(after, knows) != impl.Holds(before, knows) {
				t.Errorf("agent %d learns whether agent %d knows %s in %v", other, agent, text, before)
			}
			if impl.Holds(after, written(t, "K0-X", inner, "", other)) {
				t.Errorf("agent %d thinks that agent %d has not been told %s in %v", other, agent, text, before)
			}
		}
	})
}

func TestQuestionsAreSeenByAll(t *testing.T) {
	forPrivate(t, true, func(before impl.Model, after impl.Model, text string, agent int) {
		checkKnown(t, before, after, text, agent)
		if !impl.HoldsEverywhere(after, written(t, "CW0X", text, "", agent)) {
			t.Errorf("it is not common knowledge that agent %d knows whether %s in %v", agent, text, before)
		}
		if !slices.Equal(after.Facts, before.Facts) || after.Actual != before.Actual {
			t.Errorf("the worlds of %v have become those of %v", before, after)
		}
	})
}

func TestAskingForAFactTellsIt(t *testing.T) {
	for _, m := range append(sampleModels(), twoChildren(), threeChildren()) {
		for fact, text := range []string{"a", "b", "c", "d"} {
			for agent := range m.Blocks {
				e, _ := impl.AskEvent(read(t, trueOf(t, m, text)), agent, len(m.Blocks))
				want, _ := impl.TellFact(m, agent, fact)
				got, ok := impl.ProductOf(m, e)
				checkModel(t, fmt.Sprintf("agent %d asks for %s in %v", agent, text, m), got, ok, want, true)
				e, _ = impl.AskEvent(read(t, "-"+trueOf(t, m, text)), agent, len(m.Blocks))
				checkNoProduct(t, "a false answer", m, e)
			}
		}
	}
}

func TestQuestionsTellApartWhereTheAnswerDiffers(t *testing.T) {
	forLaws(func(m impl.Model, x string, y string, agent int) {
		text := trueOf(t, m, x)
		truth, _ := impl.TruthOf(m, read(t, x))
		want := copyModel(m)
		want.Blocks[agent] = nil
		type mark struct {
			block int
			truth bool
		}
		var marks []mark
		for world, is := range truth {
			marks = append(marks, mark{m.Blocks[agent][world], is})
		}
		want.Blocks[agent] = plainNumbers(marks)
		e, _ := impl.AskEvent(read(t, text), agent, len(m.Blocks))
		got, ok := impl.ProductOf(m, e)
		checkModel(t, fmt.Sprintf("agent %d asks for %s in %v", agent, text, m), got, ok, want, true)
	})
}

func TestProductsOfModelsThatAreAlike(t *testing.T) {
	d := dice(31)
	count := 0
	for _, m := range append(twinModels(), likelyModels()...) {
		if len(m.Facts) > 6 {
			continue
		}
		e := likelyEvent(t, &d, m)
		least, _ := impl.LeastModel(m)
		first, ok := impl.ProductOf(m, e)
		second, same := impl.ProductOf(least, e)
		if !ok || len(first.Facts)+len(second.Facts) > 16 {
			continue
		}
		count++
		if !same || !impl.AreAlike(first, second) {
			t.Errorf("the products of %v and %v with %v can be told apart", m, least, e)
		}
	}
	if count < 500 {
		t.Errorf("there are only %d products", count)
	}
}

func TestEventsThatAllTellApartAreAnnouncements(t *testing.T) {
	d := dice(37)
	count := 0
	for _, m := range append(smallModels(), twoChildren()) {
		e := likelyEvent(t, &d, m)
		for agent := range e.Blocks {
			e.Blocks[agent] = numbers(0, len(e.Conditions)-1)
		}
		product, ok := impl.ProductOf(m, e)
		if !ok {
			continue
		}
		count++
		want, _ := impl.Announce(m, e.Conditions[e.Actual])
		want, _ = impl.LeastModel(want)
		got, _ := impl.LeastModel(product)
		checkModel(t, fmt.Sprintf("the product of %v and %v", m, e), got, ok, want, true)
	}
	if count < 300 {
		t.Errorf("there are only %d products", count)
	}
}

// roomyEvent returns a copy of an event model with marks behind the end of each list.
func roomyEvent(e impl.Event) impl.Event {
	frame := roomyModel(impl.Model{Blocks: e.Blocks})
	roomy := impl.Event{Blocks: frame.Blocks, Actual: e.Actual}
	for _, f := range e.Conditions {
		roomy.Conditions = append(roomy.Conditions, roomyFormula(f))
	}
	mark := []impl.Node{{Op: markedOp}}
	n := len(roomy.Conditions)
	roomy.Conditions = append(roomy.Conditions, mark, mark)[:n]
	return roomy
}

// isRoomyEvent reports whether an event model and the marks in it are still as roomyEvent has made them.
func isRoomyEvent(e impl.Event, want impl.Event) bool {
	n := len(want.Conditions)
	mark := []impl.Node{{Op: markedOp}}
	for i, f := range want.Conditions {
		if !isRoomyFormula(e.Conditions[i], f) {
			return false
		}
	}
	for _, f := range e.Conditions[:n+2][n:] {
		if !slices.Equal(f, mark) {
			return false
		}
	}
	frame := impl.Model{Facts: roomyList(nil), Blocks: e.Blocks}
	return isRoomyModel(frame, impl.Model{Blocks: want.Blocks}) && e.Actual == want.Actual
}

// callAllEvents calls every function of the layer, and returns the models and event models that it gets.
func callAllEvents(m impl.Model, e impl.Event, f []impl.Node) (impl.Model, []impl.Event) {
	impl.EventOk(e)
	impl.CountPairs(m, e)
	product, _ := impl.ProductOf(m, e)
	first, _ := impl.PublicEvent(f, 2)
	second, _ := impl.PrivateEvent(f, 1, 2)
	third, _ := impl.AskEvent(f, 0, 3)
	return product, []impl.Event{first, second, third}
}

func TestEventArgumentsAreNotModified(t *testing.T) {
	events := allEvents(sampleFormulas())
	for _, e := range invalidEvents() {
		events = append(events, e)
	}
	i := 0
	forArguments(func(m impl.Model, f []impl.Node, g []impl.Node) {
		e := events[i*7%len(events)]
		i++
		model, roomy, formula := roomyModel(m), roomyEvent(e), roomyFormula(f)
		callAllEvents(model, roomy, formula)
		if !isRoomyModel(model, m) || !isRoomyEvent(roomy, e) || !isRoomyFormula(formula, f) {
			t.Errorf("an argument or the room behind it was changed: %d worlds, %d events, %d nodes", len(m.Facts), len(e.Conditions), len(f))
		}
	})
}

// spoil overwrites all memory of an event model up to the capacity of its lists.
func spoil(e impl.Event) {
	for _, f := range e.Conditions {
		for i := range f[:cap(f)] {
			f[:cap(f)][i] = impl.Node{Op: markedOp}
		}
	}
	for _, blocks := range e.Blocks {
		for i := range blocks[:cap(blocks)] {
			blocks[:cap(blocks)][i] = -1
		}
	}
	for i := range e.Conditions[:cap(e.Conditions)] {
		e.Conditions[:cap(e.Conditions)][i] = nil
	}
	for i := range e.Blocks[:cap(e.Blocks)] {
		e.Blocks[:cap(e.Blocks)][i] = nil
	}
}

func TestEventResultsAreNew(t *testing.T) {
	for i, f := range append(formulasUpTo(2), randomFormulas()...) {
		before := slices.Clone(f)
		_, kept := callAllEvents(impl.Model{}, impl.Event{}, f)
		_, want := callAllEvents(impl.Model{}, impl.Event{}, before)
		_, spoilt := callAllEvents(impl.Model{}, impl.Event{}, f)
		if !slices.EqualFunc(spoilt, want, equalEvents) {
			t.Fatalf("the results for the formula %d differ from call to call", i)
		}
		for k, e := range spoilt {
			spoil(e)
			if !slices.EqualFunc(kept, want, equalEvents) || !slices.Equal(f, before) {
				t.Fatalf("event model %d of the formula %d shares memory", k, i)
			}
		}
		for _, e := range kept {
			checkListsApart(t, e)
		}
	}
}

// checkListsApart overwrites all lists of an event model, and checks that this changes no other one of them.
func checkListsApart(t *testing.T, e impl.Event) {
	t.Helper()
	for i, f := range e.Conditions {
		var later [][]impl.Node
		for _, g := range e.Conditions[i+1:] {
			later = append(later, slices.Clone(g))
		}
		for k := range f[:cap(f)] {
			f[:cap(f)][k] = impl.Node{Op: markedOp}
		}
		if !slices.EqualFunc(e.Conditions[i+1:], later, slices.Equal[[]impl.Node]) {
			t.Errorf("two conditions of an event model share memory")
		}
	}
	frame := impl.Model{Blocks: e.Blocks}
	checkNew(t, impl.Model{}, []impl.Model{frame}, nil, slicesOf([]impl.Model{copyModel(frame)}, nil))
}

func TestProductResultsAreNew(t *testing.T) {
	for _, m := range sampleModels() {
		// The product is the model itself but for its memory.
		e := manyEvents(1, len(m.Blocks), read(t, "T"))
		before := copyModel(m)
		kept, _ := callAllEvents(m, e, nil)
		want := slicesOf([]impl.Model{copyModel(before)}, nil)
		checkNew(t, before, []impl.Model{kept}, nil, want)
		if !equalModels(m, before) || !equalEvents(e, manyEvents(1, len(m.Blocks), read(t, "T"))) {
			t.Fatalf("a product shares memory with the argument %v", before)
		}
		if again, _ := callAllEvents(m, e, nil); !equalModels(again, before) {
			t.Fatalf("the products of %v differ from call to call", before)
		}
	}
}
