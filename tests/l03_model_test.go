package tests

import (
	"math"
	"slices"
	"testing"

	"loop.example/g00945/impl"
)

// plainRow reports whether a list has block numbers in the order in which they are met.
func plainRow(list []int) bool {
	greatest := -1
	for _, number := range list {
		if number < 0 || number > greatest+1 {
			return false
		}
		greatest = max(greatest, number)
	}
	return true
}

// plainOk is a second way to find out whether a model is valid.
func plainOk(m impl.Model) bool {
	n := len(m.Facts)
	if n == 0 || n > 16 || len(m.Blocks) == 0 || len(m.Blocks) > 3 || m.Actual < 0 || m.Actual >= n {
		return false
	}
	for _, facts := range m.Facts {
		if facts < 0 || facts > 15 {
			return false
		}
	}
	for _, blocks := range m.Blocks {
		if len(blocks) != n || !plainRow(blocks) {
			return false
		}
	}
	return true
}

// plainNumbers is a second way to number blocks, here for elements of any type.
func plainNumbers[T comparable](list []T) []int {
	known := map[T]int{}
	var numbers []int
	for _, x := range list {
		if _, ok := known[x]; !ok {
			known[x] = len(known)
		}
		numbers = append(numbers, known[x])
	}
	return numbers
}

// plainAscending reports whether worlds are ascending worlds of a valid model, of which the actual one is one.
func plainAscending(m impl.Model, worlds []int) bool {
	for i, world := range worlds {
		if world < 0 || world >= len(m.Facts) || i > 0 && world <= worlds[i-1] {
			return false
		}
	}
	return slices.Contains(worlds, m.Actual)
}

// plainRestrict is a second way to restrict a valid model to worlds among which the actual one is.
func plainRestrict(m impl.Model, worlds []int) impl.Model {
	r := impl.Model{Actual: slices.Index(worlds, m.Actual)}
	for _, world := range worlds {
		r.Facts = append(r.Facts, m.Facts[world])
	}
	for _, blocks := range m.Blocks {
		var left []int
		for _, world := range worlds {
			left = append(left, blocks[world])
		}
		r.Blocks = append(r.Blocks, plainNumbers(left))
	}
	return r
}

// plainReached is a second way to find the worlds that are reached: two worlds of one block get one color, again and
// again.
func plainReached(m impl.Model, from int) []int {
	colors := make([]int, len(m.Facts))
	for world := range colors {
		colors[world] = world
	}
	for range len(m.Facts) {
		for _, blocks := range m.Blocks {
			for v := range colors {
				for w := range colors {
					if blocks[v] == blocks[w] {
						least := min(colors[v], colors[w])
						colors[v], colors[w] = least, least
					}
				}
			}
		}
	}
	var reached []int
	for world, color := range colors {
		if color == colors[from] {
			reached = append(reached, world)
		}
	}
	return reached
}

// plainTell is a second way to tell an agent of a valid model a fact.
func plainTell(m impl.Model, agent int, fact int) impl.Model {
	type mark struct {
		block int
		fact  bool
	}
	told := copyModel(m)
	var marks []mark
	for world, facts := range m.Facts {
		marks = append(marks, mark{m.Blocks[agent][world], facts&[]int{1, 2, 4, 8}[fact] != 0})
	}
	told.Blocks[agent] = plainNumbers(marks)
	return told
}

// copyModel returns a copy of a model in new memory.
func copyModel(m impl.Model) impl.Model {
	c := impl.Model{Facts: slices.Clone(m.Facts), Actual: m.Actual}
	for _, blocks := range m.Blocks {
		c.Blocks = append(c.Blocks, slices.Clone(blocks))
	}
	return c
}

// equalModels is a second way to compare models.
func equalModels(m impl.Model, n impl.Model) bool {
	if len(m.Blocks) != len(n.Blocks) || m.Actual != n.Actual || !slices.Equal(m.Facts, n.Facts) {
		return false
	}
	for agent := range m.Blocks {
		if !slices.Equal(m.Blocks[agent], n.Blocks[agent]) {
			return false
		}
	}
	return true
}

// allLists returns all lists of n of some elements.
func allLists[T any](from []T, n int) [][]T {
	all := [][]T{nil}
	for range n {
		var longer [][]T
		for _, list := range all {
			for _, x := range from {
				longer = append(longer, append(slices.Clone(list), x))
			}
		}
		all = longer
	}
	return all
}

// allRows returns all ways to number the blocks of n worlds.
func allRows(n int) [][]int {
	var all [][]int
	for _, list := range allLists(numbers(0, n-1), n) {
		if plainRow(list) {
			all = append(all, list)
		}
	}
	return all
}

// modelsOf returns all models of some facts and a number of agents.
func modelsOf(facts []int, agents int) []impl.Model {
	rows := allRows(len(facts))
	var all []impl.Model
	for _, choice := range allLists(numbers(0, len(rows)-1), agents) {
		for actual := range facts {
			m := impl.Model{Facts: slices.Clone(facts), Actual: actual}
			for _, i := range choice {
				m.Blocks = append(m.Blocks, slices.Clone(rows[i]))
			}
			all = append(all, m)
		}
	}
	return all
}

// smallModels returns all models of at most 4 worlds with some facts, but those of 4 worlds for at most 2 agents.
func smallModels() []impl.Model {
	var all []impl.Model
	for agents := 1; agents <= 3; agents++ {
		all = append(all, modelsOf([]int{5}, agents)...)
		all = append(all, modelsOf([]int{15, 0}, agents)...)
		all = append(all, modelsOf([]int{1, 6, 1}, agents)...)
	}
	for agents := 1; agents <= 2; agents++ {
		all = append(all, modelsOf([]int{0, 11, 4, 2}, agents)...)
	}
	return all
}

// randomModel returns a valid model with some worlds and agents, and blocks that are the finer the greater a number is.
func randomModel(d *dice, worlds int, agents int, fine int) impl.Model {
	m := impl.Model{Actual: d.below(worlds)}
	for range worlds {
		m.Facts = append(m.Facts, d.below(16))
	}
	for range agents {
		var list []int
		for range worlds {
			list = append(list, d.below(fine))
		}
		m.Blocks = append(m.Blocks, plainNumbers(list))
	}
	return m
}

// randomModels returns valid models of all numbers of worlds and agents.
func randomModels() []impl.Model {
	d := dice(3)
	var all []impl.Model
	for worlds := 1; worlds <= 16; worlds++ {
		for agents := 1; agents <= 3; agents++ {
			for _, fine := range []int{1, 3, 8, 16, 40} {
				all = append(all, randomModel(&d, worlds, agents, fine))
			}
		}
	}
	return all
}

// longModel returns the model of 16 worlds in which each world is near to the next one alone.
func longModel() impl.Model {
	m := impl.Model{Actual: 15}
	var first, second []int
	for world := range 16 {
		m.Facts = append(m.Facts, world)
		first = append(first, world/2)
		second = append(second, (world+1)/2)
	}
	m.Blocks = [][]int{first, second}
	return m
}

// sampleModels returns all small models, and some of every other size.
func sampleModels() []impl.Model {
	return append(append(smallModels(), randomModels()...), longModel())
}

// manyWorlds returns a model of n worlds with one block for each agent.
func manyWorlds(n int, agents int) impl.Model {
	m := impl.Model{Facts: make([]int, n)}
	for range agents {
		m.Blocks = append(m.Blocks, make([]int, n))
	}
	return m
}

// invalidModels returns models that are not valid, for one reason each.
func invalidModels() map[string]impl.Model {
	two := []int{0, 1}
	return map[string]impl.Model{
		"zero value":               {},
		"no worlds":                manyWorlds(0, 2),
		"no worlds and empty rows": {Facts: []int{}, Blocks: [][]int{{}}},
		"17 worlds":                manyWorlds(17, 1),
		"100000 worlds":            manyWorlds(100000, 3),
		"no agents":                {Facts: two},
		"empty agents":             {Facts: two, Blocks: [][]int{}},
		"4 agents":                 manyWorlds(2, 4),
		"100000 agents":            manyWorlds(1, 100000),
		"facts 16":                 {Facts: []int{0, 16}, Blocks: [][]int{two}},
		"facts -1":                 {Facts: []int{-1, 0}, Blocks: [][]int{two}},
		"least facts":              {Facts: []int{0, math.MinInt}, Blocks: [][]int{two}},
		"greatest facts":           {Facts: []int{math.MaxInt, 0}, Blocks: [][]int{two}},
		"nil row":                  {Facts: two, Blocks: [][]int{nil}},
		"short row":                {Facts: two, Blocks: [][]int{{0}}},
		"long row":                 {Facts: two, Blocks: [][]int{{0, 1, 2}}},
		"long row of zeros":        {Facts: two, Blocks: [][]int{{0, 0, 0}}},
		"row of 17":                {Facts: two, Blocks: [][]int{make([]int, 17)}},
		"row of 100000":            {Facts: two, Blocks: [][]int{make([]int, 100000)}},
		"second row short":         {Facts: two, Blocks: [][]int{two, {0}}},
		"third row long":           {Facts: two, Blocks: [][]int{two, two, {0, 0, 0}}},
		"first block 1":            {Facts: two, Blocks: [][]int{{1, 0}}},
		"all blocks 1":             {Facts: two, Blocks: [][]int{{1, 1}}},
		"first block -1":           {Facts: two, Blocks: [][]int{{-1, 0}}},
		"second block -1":          {Facts: two, Blocks: [][]int{{0, -1}}},
		"block left out":           {Facts: two, Blocks: [][]int{{0, 2}}},
		"block left out later":     {Facts: []int{0, 0, 0, 0}, Blocks: [][]int{{0, 1, 0, 3}}},
		"least block":              {Facts: two, Blocks: [][]int{{0, math.MinInt}}},
		"greatest block":           {Facts: two, Blocks: [][]int{{0, math.MaxInt}}},
		"second row unordered":     {Facts: two, Blocks: [][]int{two, {1, 0}}},
		"third row unordered":      {Facts: two, Blocks: [][]int{two, two, {1, 0}}},
		"actual 2 of 2":            {Facts: two, Blocks: [][]int{two}, Actual: 2},
		"actual -1":                {Facts: two, Blocks: [][]int{two}, Actual: -1},
		"actual 16":                {Facts: two, Blocks: [][]int{two}, Actual: 16},
		"least actual":             {Facts: two, Blocks: [][]int{two}, Actual: math.MinInt},
		"greatest actual":          {Facts: two, Blocks: [][]int{two}, Actual: math.MaxInt},
	}
}

// someNumbers returns the integers around the worlds, agents and facts that there are, and the ends of the range.
func someNumbers() []int {
	return append(numbers(-3, 18), 31, 32, 63, 64, 65, 255, 256, math.MinInt, math.MinInt+1, math.MaxInt-1, math.MaxInt)
}

// checkResult compares the result of a function with what it should be, or with a failure and the zero value.
func checkResult[T any](t *testing.T, label string, got T, ok bool, want T, wantOk bool, equal func(T, T) bool, valid func(T) bool) {
	t.Helper()
	if !wantOk {
		want = *new(T)
	}
	if ok != wantOk || !equal(got, want) {
		t.Errorf("%s = %v, %v, want %v, %v", label, got, ok, want, wantOk)
	}
	if wantOk && !valid(got) {
		t.Errorf("%s = %v, which is not valid", label, got)
	}
}

// checkModel compares the result of a function with a model, or with a failure if there is none.
func checkModel(t *testing.T, label string, got impl.Model, ok bool, want impl.Model, wantOk bool) {
	t.Helper()
	valid := func(m impl.Model) bool { return plainOk(m) && impl.ModelOk(m) }
	checkResult(t, label, got, ok, want, wantOk, equalModels, valid)
}

func TestModelOk(t *testing.T) {
	for _, m := range sampleModels() {
		if !impl.ModelOk(m) {
			t.Errorf("ModelOk(%v) = false", m)
		}
	}
	for name, m := range invalidModels() {
		if plainOk(m) {
			t.Errorf("the test is wrong: %s", name)
		}
		if impl.ModelOk(m) {
			t.Errorf("ModelOk is true: %s", name)
		}
	}
	if !impl.ModelOk(impl.Model{Facts: []int{0}, Blocks: [][]int{{0}}}) {
		t.Error("ModelOk is false for one world and one agent")
	}
}

// checkAllBlocks checks which blocks are accepted for what there are at most so many of, with all sizes and short rows.
func checkAllBlocks(t *testing.T, most int, accepts func(n int, blocks [][]int) bool) {
	t.Helper()
	for n := range 40 {
		for agents := range 8 {
			want := 1 <= n && n <= most && 1 <= agents && agents <= 3
			if got := accepts(n, manyWorlds(n, agents).Blocks); got != want {
				t.Errorf("%d blocks of %d agents are accepted: %v", n, agents, got)
			}
			for agent := range agents {
				for length := range 40 {
					blocks := manyWorlds(n, agents).Blocks
					blocks[agent] = make([]int, length)
					if got := accepts(n, blocks); got != (want && length == n) {
						t.Errorf("a row of %d in place of %d is accepted: %v", length, n, got)
					}
				}
			}
		}
	}
	for n := 1; n <= min(most, 5); n++ {
		for _, list := range allLists(numbers(-1, n), n) {
			if got := accepts(n, [][]int{list}); got != plainRow(list) {
				t.Errorf("the row %v is accepted: %v", list, got)
			}
		}
	}
}

func TestModelOkOfAllBlocks(t *testing.T) {
	checkAllBlocks(t, 16, func(n int, blocks [][]int) bool {
		return impl.ModelOk(impl.Model{Facts: make([]int, n), Blocks: blocks})
	})
}

// fieldsOf returns the addresses of all numbers of a model.
func fieldsOf(m *impl.Model) []*int {
	list := []*int{&m.Actual}
	for i := range m.Facts {
		list = append(list, &m.Facts[i])
	}
	for _, blocks := range m.Blocks {
		for i := range blocks {
			list = append(list, &blocks[i])
		}
	}
	return list
}

func TestModelOkAfterOneChange(t *testing.T) {
	for _, m := range append(randomModels(), longModel()) {
		changed := copyModel(m)
		for _, field := range fieldsOf(&changed) {
			before := *field
			for _, value := range someNumbers() {
				*field = value
				if got := impl.ModelOk(changed); got != plainOk(changed) {
					t.Errorf("ModelOk(%v) = %v", changed, got)
				}
			}
			*field = before
		}
	}
}

func TestCountWorlds(t *testing.T) {
	for _, m := range sampleModels() {
		if got := impl.CountWorlds(m); got != len(m.Facts) {
			t.Errorf("CountWorlds(%v) = %d", m, got)
		}
	}
	for name, m := range invalidModels() {
		if got := impl.CountWorlds(m); got != 0 {
			t.Errorf("CountWorlds is %d: %s", got, name)
		}
	}
}

func TestNumberBlocks(t *testing.T) {
	cases := []struct {
		list []int
		want []int
	}{
		{nil, nil},
		{[]int{}, nil},
		{[]int{7}, []int{0}},
		{[]int{-7}, []int{0}},
		{[]int{7, 3, 7}, []int{0, 1, 0}},
		{[]int{1, 0}, []int{0, 1}},
		{[]int{0, 0, 0}, []int{0, 0, 0}},
		{[]int{3, 2, 1, 0}, []int{0, 1, 2, 3}},
		{[]int{5, 0, 5, 9, 0, 0, 1}, []int{0, 1, 0, 2, 1, 1, 3}},
		{[]int{math.MaxInt, math.MinInt, -1, math.MaxInt, -1}, []int{0, 1, 2, 0, 2}},
		{[]int{0, 1 << 32, 1 << 16, 256, 0}, []int{0, 1, 2, 3, 0}},
		{numbers(1, 16), numbers(0, 15)},
		{make([]int, 16), make([]int, 16)},
		{numbers(1, 17), nil},
		{make([]int, 17), nil},
		{make([]int, 100000), nil},
	}
	for _, c := range cases {
		if got := impl.NumberBlocks(c.list); !slices.Equal(got, c.want) {
			t.Errorf("NumberBlocks of %d elements, %v = %v, want %v", len(c.list), c.list[:min(len(c.list), 17)], got, c.want)
		}
	}
}

func TestNumberBlocksOfManyLists(t *testing.T) {
	var lists [][]int
	for n := range 6 {
		lists = append(lists, allLists([]int{-1, 0, 1, 5, math.MaxInt, math.MinInt}, n)...)
	}
	d := dice(5)
	for n := range 20 {
		for _, most := range []int{1, 2, 5, 16, 1000} {
			var list []int
			for range n {
				list = append(list, d.below(most)-most/2)
			}
			lists = append(lists, list)
		}
	}
	for _, list := range lists {
		want := plainNumbers(list)
		if len(list) > 16 {
			want = nil
		}
		got := impl.NumberBlocks(list)
		if !slices.Equal(got, want) {
			t.Errorf("NumberBlocks(%v) = %v, want %v", list, got, want)
		}
		if again := impl.NumberBlocks(got); !slices.Equal(again, got) {
			t.Errorf("NumberBlocks(%v) = %v, but these are numbered", got, again)
		}
	}
}

func TestSameBlock(t *testing.T) {
	for _, m := range sampleModels() {
		n := len(m.Facts)
		for agent := -1; agent <= 3; agent++ {
			for v := -1; v <= n; v++ {
				for w := -1; w <= n; w++ {
					want := 0 <= min(agent, v, w) && agent < len(m.Blocks) && max(v, w) < n && m.Blocks[agent][v] == m.Blocks[agent][w]
					if got := impl.SameBlock(m, agent, v, w); got != want {
						t.Errorf("SameBlock(%v, %d, %d, %d) = %v", m, agent, v, w, got)
					}
				}
			}
		}
	}
}

func TestSameBlockOfWhatDoesNotExist(t *testing.T) {
	m := manyWorlds(3, 2)
	for _, x := range someNumbers() {
		world := 0 <= x && x < 3
		if impl.SameBlock(m, 0, x, x) != world || impl.SameBlock(m, 1, x, 0) != world || impl.SameBlock(m, 1, 0, x) != world {
			t.Errorf("SameBlock of the world %d", x)
		}
		if got := impl.SameBlock(m, x, 1, 2); got != (x == 0 || x == 1) {
			t.Errorf("SameBlock of the agent %d = %v", x, got)
		}
	}
	for name, bad := range invalidModels() {
		if impl.SameBlock(bad, 0, 0, 0) || impl.SameBlock(bad, 0, 0, 1) || impl.SameBlock(bad, 1, 1, 1) {
			t.Errorf("SameBlock is true: %s", name)
		}
	}
}

func TestRestrictModel(t *testing.T) {
	kids := impl.Model{Facts: []int{0, 1, 2, 3}, Blocks: [][]int{{0, 0, 1, 1}, {0, 1, 0, 1}}, Actual: 3}
	cases := []struct {
		worlds []int
		want   impl.Model
		ok     bool
	}{
		{[]int{0, 1, 2, 3}, kids, true},
		{[]int{3}, impl.Model{Facts: []int{3}, Blocks: [][]int{{0}, {0}}}, true},
		{[]int{1, 3}, impl.Model{Facts: []int{1, 3}, Blocks: [][]int{{0, 1}, {0, 0}}, Actual: 1}, true},
		{[]int{2, 3}, impl.Model{Facts: []int{2, 3}, Blocks: [][]int{{0, 0}, {0, 1}}, Actual: 1}, true},
		{[]int{1, 2, 3}, impl.Model{Facts: []int{1, 2, 3}, Blocks: [][]int{{0, 1, 1}, {0, 1, 0}}, Actual: 2}, true},
		{nil, impl.Model{}, false},
		{[]int{}, impl.Model{}, false},
		{[]int{0, 1, 2}, impl.Model{}, false},
		{[]int{3, 1}, impl.Model{}, false},
		{[]int{1, 0, 3}, impl.Model{}, false},
		{[]int{0, 3, 2}, impl.Model{}, false},
		{[]int{3, 3}, impl.Model{}, false},
		{[]int{1, 1, 3}, impl.Model{}, false},
		{[]int{3, 4}, impl.Model{}, false},
		{[]int{4}, impl.Model{}, false},
		{[]int{-1, 3}, impl.Model{}, false},
		{[]int{3, -1}, impl.Model{}, false},
		{[]int{0, 1, 2, 3, 4}, impl.Model{}, false},
		{[]int{0, 1, 2, 3, 16}, impl.Model{}, false},
		{[]int{math.MinInt, 3}, impl.Model{}, false},
		{[]int{3, math.MaxInt}, impl.Model{}, false},
		{numbers(0, 100000), impl.Model{}, false},
	}
	for _, c := range cases {
		got, ok := impl.RestrictModel(kids, c.worlds)
		checkModel(t, "RestrictModel of "+plainFormat(len(c.worlds))+" worlds", got, ok, c.want, c.ok)
	}
	for name, m := range invalidModels() {
		for _, worlds := range [][]int{nil, {0}, {0, 1}, {m.Actual}} {
			got, ok := impl.RestrictModel(m, worlds)
			checkModel(t, "RestrictModel: "+name, got, ok, impl.Model{}, false)
		}
	}
}

func TestRestrictModelToAllShortLists(t *testing.T) {
	for _, m := range smallModels() {
		n := len(m.Facts)
		for length := range min(n, 3) + 2 {
			for _, worlds := range allLists(numbers(-1, n), length) {
				want, wantOk := impl.Model{}, plainAscending(m, worlds)
				if wantOk {
					want = plainRestrict(m, worlds)
				}
				got, ok := impl.RestrictModel(m, worlds)
				if ok != wantOk || !equalModels(got, want) || ok && !impl.ModelOk(got) {
					t.Fatalf("RestrictModel(%v, %v) = %v, %v, want %v, %v", m, worlds, got, ok, want, wantOk)
				}
			}
		}
	}
}

func TestModelsOfSomeWorldsAreValid(t *testing.T) {
	d := dice(7)
	for _, m := range append(randomModels(), longModel()) {
		for _, keep := range []int{1, 2, 3, 5, 16} {
			for range 20 {
				var worlds []int
				for world := range m.Facts {
					if d.below(keep) == 0 || world == m.Actual {
						worlds = append(worlds, world)
					}
				}
				got, ok := impl.RestrictModel(m, worlds)
				checkModel(t, "RestrictModel", got, ok, plainRestrict(m, worlds), true)
				same, ok := impl.RestrictModel(got, numbers(0, len(worlds)-1))
				checkModel(t, "RestrictModel to all worlds", same, ok, got, true)
			}
		}
	}
}

func TestMoveTo(t *testing.T) {
	for _, m := range sampleModels() {
		for _, world := range someNumbers() {
			want := copyModel(m)
			want.Actual = world
			got, ok := impl.MoveTo(m, world)
			checkModel(t, "MoveTo "+plainFormat(world), got, ok, want, 0 <= world && world < len(m.Facts))
		}
	}
	for name, m := range invalidModels() {
		for _, world := range []int{-1, 0, 1, m.Actual} {
			got, ok := impl.MoveTo(m, world)
			checkModel(t, "MoveTo: "+name, got, ok, impl.Model{}, false)
		}
	}
}

func TestReachedFrom(t *testing.T) {
	islands := impl.Model{Facts: make([]int, 6), Blocks: [][]int{{0, 1, 2, 1, 3, 4}, {0, 1, 2, 3, 4, 2}, {0, 1, 2, 3, 0, 4}}}
	for world, want := range [][]int{{0, 4}, {1, 3}, {2, 5}, {1, 3}, {0, 4}, {2, 5}} {
		if got := impl.ReachedFrom(islands, world); !slices.Equal(got, want) {
			t.Errorf("ReachedFrom the world %d = %v, want %v", world, got, want)
		}
	}
	for world := range 16 {
		if got := impl.ReachedFrom(longModel(), world); !slices.Equal(got, numbers(0, 15)) {
			t.Errorf("ReachedFrom the world %d of a long model = %v", world, got)
		}
	}
	for _, m := range sampleModels() {
		for _, world := range someNumbers() {
			var want []int
			if 0 <= world && world < len(m.Facts) {
				want = plainReached(m, world)
			}
			if got := impl.ReachedFrom(m, world); !slices.Equal(got, want) {
				t.Errorf("ReachedFrom(%v, %d) = %v, want %v", m, world, got, want)
			}
		}
	}
	for name, m := range invalidModels() {
		for _, world := range []int{-1, 0, 1, m.Actual} {
			if got := impl.ReachedFrom(m, world); len(got) != 0 {
				t.Errorf("ReachedFrom is %v: %s", got, name)
			}
		}
	}
}

func TestFreeModel(t *testing.T) {
	for _, facts := range someNumbers() {
		for _, agents := range someNumbers() {
			wantOk := 0 <= facts && facts <= 4 && 1 <= agents && agents <= 3
			want := impl.Model{}
			if wantOk {
				worlds := []int{1, 2, 4, 8, 16}[facts]
				want = manyWorlds(worlds, agents)
				want.Facts = numbers(0, worlds-1)
			}
			got, ok := impl.FreeModel(facts, agents)
			checkModel(t, "FreeModel", got, ok, want, wantOk)
		}
	}
}

func TestTellFact(t *testing.T) {
	m := impl.Model{Facts: []int{2, 1, 3, 0, 2}, Blocks: [][]int{{0, 0, 0, 0, 0}, {0, 1, 1, 0, 2}}, Actual: 4}
	cases := []struct {
		agent int
		fact  int
		want  [][]int
	}{
		{0, 0, [][]int{{0, 1, 1, 0, 0}, {0, 1, 1, 0, 2}}},
		{0, 1, [][]int{{0, 1, 0, 1, 0}, {0, 1, 1, 0, 2}}},
		{0, 2, [][]int{{0, 0, 0, 0, 0}, {0, 1, 1, 0, 2}}},
		{1, 0, [][]int{{0, 0, 0, 0, 0}, {0, 1, 1, 0, 2}}},
		{1, 1, [][]int{{0, 0, 0, 0, 0}, {0, 1, 2, 3, 4}}},
		{1, 3, [][]int{{0, 0, 0, 0, 0}, {0, 1, 1, 0, 2}}},
	}
	for _, c := range cases {
		got, ok := impl.TellFact(m, c.agent, c.fact)
		checkModel(t, "TellFact", got, ok, impl.Model{Facts: m.Facts, Blocks: c.want, Actual: 4}, true)
	}
	for _, m := range sampleModels() {
		for agent := -1; agent <= 3; agent++ {
			for fact := -1; fact <= 4; fact++ {
				want, wantOk := impl.Model{}, 0 <= min(agent, fact) && agent < len(m.Blocks) && fact < 4
				if wantOk {
					want = plainTell(m, agent, fact)
				}
				got, ok := impl.TellFact(m, agent, fact)
				checkModel(t, "TellFact", got, ok, want, wantOk)
			}
		}
	}
}

func TestTellFactOfWhatDoesNotExist(t *testing.T) {
	m := manyWorlds(3, 2)
	for _, x := range someNumbers() {
		got, ok := impl.TellFact(m, x, 0)
		checkModel(t, "TellFact to an agent", got, ok, m, x == 0 || x == 1)
		got, ok = impl.TellFact(m, 0, x)
		checkModel(t, "TellFact of a fact", got, ok, m, 0 <= x && x < 4)
	}
	for name, bad := range invalidModels() {
		for agent := range 2 {
			got, ok := impl.TellFact(bad, agent, 0)
			checkModel(t, "TellFact: "+name, got, ok, impl.Model{}, false)
		}
	}
}

func TestTellingAllFactsLeavesNoDoubt(t *testing.T) {
	for facts := range 5 {
		for agents := 1; agents <= 3; agents++ {
			m, _ := impl.FreeModel(facts, agents)
			for fact := range facts {
				for agent := range agents {
					m, _ = impl.TellFact(m, agent, facts-1-fact)
				}
			}
			for world := range 1 << facts {
				if got := impl.ReachedFrom(m, world); !slices.Equal(got, []int{world}) {
					t.Errorf("with %d facts told, %v are reached from %d", facts, got, world)
				}
			}
		}
	}
}

func TestSameModel(t *testing.T) {
	list := append(smallModels(), randomModels()...)
	for _, m := range invalidModels() {
		list = append(list, m)
	}
	for i, m := range list {
		if !impl.SameModel(m, m) || !impl.SameModel(m, copyModel(m)) || !impl.SameModel(copyModel(m), m) {
			t.Errorf("SameModel of %d worlds and %d agents and the same is false", len(m.Facts), len(m.Blocks))
		}
		for _, n := range list[max(0, i-50):i] {
			if want := equalModels(m, n); impl.SameModel(m, n) != want || impl.SameModel(n, m) != want {
				t.Errorf("SameModel of %d and %d worlds is not %v", len(m.Facts), len(n.Facts), want)
			}
		}
	}
}

func TestSameModelAfterOneChange(t *testing.T) {
	for _, m := range append(randomModels(), longModel()) {
		changed := copyModel(m)
		for _, field := range fieldsOf(&changed) {
			*field += 1 << 40
			if impl.SameModel(m, changed) || impl.SameModel(changed, m) {
				t.Errorf("SameModel(%v, %v) = true", m, changed)
			}
			*field -= 1 << 40
		}
		longer := copyModel(m)
		longer.Facts = append(longer.Facts, 0)
		more := copyModel(m)
		more.Blocks = append(more.Blocks, nil)
		wider := copyModel(m)
		wider.Blocks[0] = append(wider.Blocks[0], 0)
		for _, other := range []impl.Model{longer, more, wider} {
			if impl.SameModel(m, other) || impl.SameModel(other, m) {
				t.Errorf("SameModel(%v, %v) = true", m, other)
			}
		}
	}
}

func TestSameModelOfNilAndEmptyLists(t *testing.T) {
	same := [][2]impl.Model{
		{{}, {Facts: []int{}, Blocks: [][]int{}}},
		{{Blocks: [][]int{nil}}, {Blocks: [][]int{{}}}},
		{{Facts: []int{}, Blocks: [][]int{{}, nil}}, {Blocks: [][]int{nil, {}}}},
	}
	for _, pair := range same {
		if !impl.SameModel(pair[0], pair[1]) || !impl.SameModel(pair[1], pair[0]) {
			t.Errorf("SameModel(%#v, %#v) = false", pair[0], pair[1])
		}
	}
	if impl.SameModel(impl.Model{}, impl.Model{Blocks: [][]int{nil}}) {
		t.Error("SameModel of no agents and an agent without numbers is true")
	}
}

// callAllOn calls every function of the layer that takes a model or a list, and returns the models and lists that it
// gets.
func callAllOn(m impl.Model, n impl.Model, list []int) ([]impl.Model, [][]int) {
	impl.ModelOk(m)
	impl.CountWorlds(m)
	impl.SameBlock(m, 0, 0, 1)
	impl.SameModel(m, n)
	restricted, _ := impl.RestrictModel(m, list)
	moved, _ := impl.MoveTo(m, 0)
	told, _ := impl.TellFact(m, len(m.Blocks)-1, 1)
	free, _ := impl.FreeModel(len(list)%5, 2)
	return []impl.Model{restricted, moved, told, free}, [][]int{impl.NumberBlocks(list), impl.ReachedFrom(m, 0)}
}

const marked = 7777

// withRoom returns a copy of a list with marks behind its end.
func withRoom[T any](list []T, mark T) []T {
	return append(slices.Clone(list), mark, mark, mark)[:len(list)]
}

// hasRoom reports whether a list and the marks behind it are still as withRoom has made them.
func hasRoom[T comparable](list []T, want []T, mark T) bool {
	n := len(want)
	whole := list[:n+3]
	return slices.Equal(whole[:n], want) && slices.Equal(whole[n:], []T{mark, mark, mark})
}

// roomyList returns a copy of a list of numbers with marks behind its end.
func roomyList(list []int) []int {
	return withRoom(list, marked)
}

// roomyModel returns a copy of a model with marks behind the ends of all lists.
func roomyModel(m impl.Model) impl.Model {
	r := impl.Model{Facts: roomyList(m.Facts), Actual: m.Actual}
	for _, blocks := range m.Blocks {
		r.Blocks = append(r.Blocks, roomyList(blocks))
	}
	marks := [][]int{{marked}, {marked}}
	r.Blocks = append(r.Blocks, marks...)[:len(m.Blocks)]
	return r
}

// isRoomyList reports whether a list and the marks behind it are still as roomyList has made them.
func isRoomyList(list []int, want []int) bool {
	return hasRoom(list, want, marked)
}

// isRoomyModel reports the same of a model and roomyModel.
func isRoomyModel(m impl.Model, want impl.Model) bool {
	n := len(want.Blocks)
	whole := m.Blocks[:n+2]
	if !equalModels(m, want) || !isRoomyList(m.Facts, want.Facts) {
		return false
	}
	for agent, blocks := range want.Blocks {
		if !isRoomyList(whole[agent], blocks) {
			return false
		}
	}
	return slices.Equal(whole[n], []int{marked}) && slices.Equal(whole[n+1], []int{marked})
}

func TestModelArgumentsAreNotModified(t *testing.T) {
	models := append(smallModels(), randomModels()...)
	for _, m := range invalidModels() {
		models = append(models, m)
	}
	for i, m := range models {
		n := models[(i*17+3)%len(models)]
		for _, list := range [][]int{nil, {m.Actual}, numbers(0, len(m.Facts)-1), {0, 3, 0}} {
			first, second, third := roomyModel(m), roomyModel(n), roomyList(list)
			callAllOn(first, second, third)
			callAllOn(first, first, third)
			if !isRoomyModel(first, m) || !isRoomyModel(second, n) || !isRoomyList(third, list) {
				t.Errorf("an argument or the room behind it was changed: %d worlds", len(m.Facts))
			}
		}
	}
}

// slicesOf returns all lists of numbers in results.
func slicesOf(models []impl.Model, lists [][]int) [][]int {
	all := slices.Clone(lists)
	for _, m := range models {
		all = append(all, m.Facts)
		all = append(all, m.Blocks...)
	}
	return all
}

// checkNew overwrites all lists of results, up to their capacities, and checks that this changes no other one of them.
func checkNew(t *testing.T, m impl.Model, models []impl.Model, lists [][]int, want [][]int) {
	t.Helper()
	kept := slicesOf(models, lists)
	for i := range kept {
		for j := range kept[i][:cap(kept[i])] {
			kept[i][:cap(kept[i])][j] = -1
		}
		for j := i + 1; j < len(kept); j++ {
			if !slices.Equal(kept[j], want[j]) {
				t.Fatalf("two lists of the results for %v share memory", m)
			}
		}
	}
	for _, result := range models {
		for agent := range result.Blocks[:cap(result.Blocks)] {
			result.Blocks[:cap(result.Blocks)][agent] = nil
		}
	}
}

func TestModelResultsAreNew(t *testing.T) {
	for _, m := range append(smallModels(), randomModels()...) {
		list := numbers(0, len(m.Facts)-1)
		before, listBefore := copyModel(m), slices.Clone(list)
		keptModels, keptLists := callAllOn(m, m, list)
		wantModels, wantLists := callAllOn(before, before, listBefore)
		want := slicesOf(wantModels, wantLists)
		checkNew(t, before, keptModels, keptLists, want)
		if !equalModels(m, before) || !slices.Equal(list, listBefore) {
			t.Fatalf("a result shares memory with the argument %v", before)
		}
		againModels, againLists := callAllOn(m, m, list)
		if again := slicesOf(againModels, againLists); !slices.EqualFunc(again, want, slices.Equal[[]int]) {
			t.Fatalf("the results for %v differ from call to call", before)
		}
	}
}
