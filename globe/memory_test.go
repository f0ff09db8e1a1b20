package globe_test

import (
	"math/rand"
	"slices"
	"testing"

	"nadir/api"
	"nadir/globe"
)

// call is a call with one or two areas that returns an area.
type call struct {
	name string
	run  func(a, b api.Area) (api.Area, api.Errno)
}

// calls are calls of all functions that return areas, among them those that change nothing.
func calls() []call {
	return []call{
		{"Empty", func(a, b api.Area) (api.Area, api.Errno) { return globe.Empty(), api.OK }},
		{"Box", func(a, b api.Area) (api.Area, api.Errno) { return globe.Box(cell(46, 3), 4, 2) }},
		{"With", func(a, b api.Area) (api.Area, api.Errno) { return globe.With(a, cell(5, 6)) }},
		{"With again", func(a, b api.Area) (api.Area, api.Errno) {
			with, _ := globe.With(a, cell(5, 6))
			return globe.With(with, cell(5, 6))
		}},
		{"Union", globe.Union},
		{"Union with itself", func(a, b api.Area) (api.Area, api.Errno) { return globe.Union(a, a) }},
		{"Meet", globe.Meet},
		{"Meet with itself", func(a, b api.Area) (api.Area, api.Errno) { return globe.Meet(a, a) }},
		{"Less", globe.Less},
		{"Less none", func(a, b api.Area) (api.Area, api.Errno) { return globe.Less(a, globe.Empty()) }},
		{"Shifted", func(a, b api.Area) (api.Area, api.Errno) { return globe.Shifted(a, 5) }},
		{"Shifted by 0", func(a, b api.Area) (api.Area, api.Errno) { return globe.Shifted(a, 0) }},
		{"Grown", func(a, b api.Area) (api.Area, api.Errno) { return globe.Grown(a, 2) }},
		{"Grown by 0", func(a, b api.Area) (api.Area, api.Errno) { return globe.Grown(a, 0) }},
	}
}

// spacious returns the area of a grid, before and behind whose rows there are others in the same memory, and all of that memory.
func spacious(g grid) (api.Area, []int) {
	memory := slices.Concat([]int{-7, -7}, g.area().Rows, []int{-7, -7, -7, -7, -7, -7, -7, -7})
	return api.Area{Rows: memory[2:26]}, memory
}

// scribble overwrites the rows of an area, and their spare capacity.
func scribble(a api.Area) {
	rows := a.Rows[:cap(a.Rows)]
	for y := range rows {
		rows[y] = -99
	}
}

// P5.1: no call changes its arguments, or what lies beside them.
func TestArgumentsStay(t *testing.T) {
	r := rand.New(rand.NewSource(60))
	a, memoryA := spacious(random(r, 3))
	b, memoryB := spacious(random(r, 3))
	beforeA, beforeB := slices.Clone(memoryA), slices.Clone(memoryB)
	for _, c := range calls() {
		must(t)(c.run(a, b))
		if !slices.Equal(memoryA, beforeA) || !slices.Equal(memoryB, beforeB) {
			t.Fatalf("%s changes an argument", c.name)
		}
	}
	globe.Valid(a)
	globe.Same(a, b)
	globe.Has(a, cell(5, 6))
	globe.Cells(a)
	globe.Count(a)
	globe.Contains(a, b)
	if !slices.Equal(memoryA, beforeA) || !slices.Equal(memoryB, beforeB) {
		t.Error("an argument is changed")
	}
}

// P5.1: results share no memory with arguments, nor with each other.
func TestResultsAreNew(t *testing.T) {
	r := rand.New(rand.NewSource(61))
	for _, c := range calls() {
		a, memoryA := spacious(random(r, 3))
		b, memoryB := spacious(random(r, 3))
		beforeA, beforeB := slices.Clone(memoryA), slices.Clone(memoryB)
		first, second := must(t)(c.run(a, b)), must(t)(c.run(a, b))
		kept := slices.Clone(second.Rows)
		scribble(first)
		if !slices.Equal(memoryA, beforeA) || !slices.Equal(memoryB, beforeB) {
			t.Errorf("%s: the result is in the memory of an argument", c.name)
		}
		if !slices.Equal(second.Rows, kept) || !slices.Equal(must(t)(c.run(a, b)).Rows, kept) {
			t.Errorf("%s: two results share memory", c.name)
		}
		scribble(a)
		scribble(b)
		if !slices.Equal(second.Rows, kept) {
			t.Errorf("%s: an argument is retained", c.name)
		}
	}
}

// P5.1: the cells of an area are new at each call.
func TestCellsAreNew(t *testing.T) {
	g := random(rand.New(rand.NewSource(62)), 3)
	a, memory := spacious(g)
	before := slices.Clone(memory)
	first, second := globe.Cells(a), globe.Cells(a)
	first = first[:cap(first)]
	for i := range first {
		first[i] = cell(-9, -9)
	}
	if !slices.Equal(second, g.list()) || !slices.Equal(globe.Cells(a), g.list()) || !slices.Equal(memory, before) {
		t.Error("the cells of two calls share memory")
	}
}

// P5.1: a call gives the same result whatever was called before; the package keeps no state.
func TestNoState(t *testing.T) {
	r := rand.New(rand.NewSource(63))
	a, b := random(r, 3).area(), random(r, 3).area()
	var want [][]int
	for _, c := range calls() {
		want = append(want, must(t)(c.run(a, b)).Rows)
	}
	for range 300 {
		i := r.Intn(len(want))
		if now := must(t)(calls()[i].run(a, b)); !slices.Equal(now.Rows, want[i]) {
			t.Fatalf("%s: %x, then %x", calls()[i].name, want[i], now.Rows)
		}
	}
}
