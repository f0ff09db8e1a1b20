package swath_test

import (
	"math/rand"
	"testing"

	"nadir/api"
	"nadir/swath"
)

// found is what Best returned.
type found struct {
	shot api.Spell
	look int
	is   bool
	err  api.Errno
}

func foundOf(shot api.Spell, look int, is bool, err api.Errno) found {
	return found{shot, look, is, err}
}

// query is what Best is asked.
type query struct {
	o             api.Orbit
	span          api.Spell
	minutes, wide int
	g             grid
}

// best returns what Best says.
func (q query) best() found {
	return foundOf(swath.Best(q.o, q.span, q.minutes, q.wide, q.g.area()))
}

// showsFor says whether an exposure shows g with all delays.
func showsFor(o api.Orbit, shot api.Spell, look int, g grid) bool {
	for late := -o.Slack; late <= o.Slack; late++ {
		if !shown(o, shot, look, late).has(g) {
			return false
		}
	}
	return true
}

// want tries all spells, and all looks for each, in the order in which they are better.
func (q query) want() found {
	for from := q.span.From; from <= q.span.To-q.minutes; from++ {
		for _, look := range []int{0, 1, -1, 2, -2, 3, -3, 4, -4} {
			shot := spell(from, from+q.minutes)
			if -q.wide <= look && look <= q.wide && showsFor(q.o, shot, look, q.g) {
				return found{shot, look, true, api.OK}
			}
		}
	}
	return found{}
}

// anyQuery returns a question about an orbit, in a span of up to some minutes, for some of what an exposure within the span shows for sure or, sometimes, not for sure.
func anyQuery(r *rand.Rand, o api.Orbit, most int) query {
	q := query{o: o, minutes: 1 + r.Intn(min(60, most)), wide: r.Intn(5)}
	length := q.minutes + r.Intn(most-q.minutes+1)
	q.span.From = []int{0, r.Intn(last + 2 - length), last + 1 - length}[r.Intn(3)]
	q.span.To = q.span.From + length
	from := q.span.From + r.Intn(length-q.minutes+1)
	s := stripOf(o, spell(from, from+q.minutes), r.Intn(2*q.wide+1)-q.wide)
	all := s.sure.cells()
	if len(all) == 0 || r.Intn(5) == 0 {
		all = s.can.cells()
	}
	for _, c := range all {
		if r.Intn(3) > 0 {
			q.g[c.Y][c.X] = true
		}
	}
	return q
}

// P8.1, P8.7: what Best finds is what trying everything finds.
func TestBest(t *testing.T) {
	r, looks, none := rand.New(rand.NewSource(13)), map[int]int{}, 0
	for _, o := range someOrbits(13, 400) {
		for _, most := range []int{1, 10, 30, 30, 60, 60, 90} {
			q := anyQuery(r, o, most)
			got, want := q.best(), q.want()
			if got != want {
				t.Fatalf("%+v: %v; want %v", q, got, want)
			}
			if got.is {
				looks[got.look]++
			} else {
				none++
			}
		}
	}
	if len(looks) != 9 || none == 0 {
		t.Errorf("not every case: %v, %d times none", looks, none)
	}
}

// P8.1, P8.7: what Best finds in the longest spans.
func TestBestInLongSpans(t *testing.T) {
	r := rand.New(rand.NewSource(14))
	for _, o := range someOrbits(14, 30) {
		for _, minutes := range []int{1, 7, 60} {
			for _, from := range []int{0, 12345, last - 299} {
				q := anyQuery(r, o, 60)
				q.span, q.minutes = spell(from, from+300), minutes
				s := stripOf(o, spell(from+200, from+200+minutes), 1)
				q.g = s.sure
				if got, want := q.best(), q.want(); got != want {
					t.Fatalf("%+v: %v; want %v", q, got, want)
				}
			}
		}
	}
}

// P8.7: what Best returns shows the area for sure; no spell that begins earlier does, with any look, and no look that is nearer to 0, or as near and to the east.
func TestBestIsFirstAndNearest(t *testing.T) {
	r := rand.New(rand.NewSource(15))
	for _, o := range someOrbits(15, 100) {
		q := anyQuery(r, o, 40)
		shows := func(from, look int) bool {
			return swath.Shows(o, spell(from, from+q.minutes), look, q.g.area())
		}
		b, end := q.best(), q.span.To-q.minutes+1
		if b.is {
			end = b.shot.From
			if b.shot.To-end != q.minutes || end < q.span.From || b.shot.To > q.span.To || b.look < -q.wide || b.look > q.wide || !shows(end, b.look) {
				t.Fatalf("%+v: %v", q, b)
			}
			for look := -4; look <= 4; look++ {
				nearer := look*look < b.look*b.look || look == -b.look && look > 0
				if nearer && shows(end, look) {
					t.Fatalf("%+v: %v; the look %d shows it, too", q, b, look)
				}
			}
		}
		for from := q.span.From; from < end; from++ {
			for look := -q.wide; look <= q.wide; look++ {
				if shows(from, look) {
					t.Fatalf("%+v: %v; it is shown from %d on, with the look %d", q, b, from, look)
				}
			}
		}
	}
}

// P8.1, P8.7: what is known to be found, and what is not.
func TestBestExamples(t *testing.T) {
	calm := with(func(o *api.Orbit) { o.Slack = 0 })
	lazy := with(func(o *api.Orbit) { o.Slack = 10 })
	// It is above every other column: 7, 9, 11 and so on.
	jumps := api.Orbit{Period: 60, Low: 2000, High: 2999, Node: 7000, Turn: 2000, Slack: 0}
	edge := api.Orbit{Period: 2000, Low: 0, High: 1000, Node: 47000, Turn: 500, Slack: 0}
	none := found{}
	at := func(from, to, look int) found { return found{spell(from, to), look, true, api.OK} }
	for _, x := range []struct {
		q    query
		want found
	}{
		{query{example(), spell(0, 60), 10, 3, rows(12, 5)}, at(17, 27, 2)},
		{query{example(), spell(0, 60), 10, 2, rows(12, 5)}, at(17, 27, 2)},
		{query{example(), spell(0, 60), 10, 1, rows(12, 5)}, none},
		{query{example(), spell(18, 60), 10, 4, rows(8, 5)}, at(18, 28, -2)},
		{query{example(), spell(0, 60), 10, 4, rows(14, 5)}, at(17, 27, 4)},
		{query{example(), spell(0, 60), 10, 4, rows(6, 5)}, at(17, 27, -4)},
		{query{example(), spell(0, 60), 10, 4, rows(15, 5)}, none},
		{query{example(), spell(0, 60), 10, 4, rows(5, 5)}, none},
		{query{example(), spell(0, 60), 10, 0, rows(10, 5)}, at(17, 27, 0)},
		{query{example(), spell(0, 60), 10, 0, rows(11, 5)}, none},
		// Without a delay it needs a minute less, and with longer ones it needs more.
		{query{calm, spell(0, 60), 10, 0, rows(10, 5)}, at(16, 26, 0)},
		{query{lazy, spell(0, 60), 10, 0, rows(10, 5)}, none},
		{query{lazy, spell(0, 60), 17, 0, rows(10, 5)}, at(19, 36, 0)},
		{query{lazy, spell(0, 60), 16, 0, rows(10, 5)}, none},
		// Spans that are as long as the exposure, shorter, and of one minute.
		{query{example(), spell(17, 27), 10, 2, rows(12, 5)}, at(17, 27, 2)},
		{query{example(), spell(16, 26), 10, 2, rows(12, 5)}, none},
		{query{example(), spell(17, 26), 10, 2, rows(12, 5)}, none},
		{query{example(), spell(12, 13), 1, 0, rows(10, 2)}, at(12, 13, 0)},
		{query{example(), spell(11, 12), 1, 0, rows(10, 2)}, at(11, 12, 0)},
		{query{example(), spell(10, 11), 1, 0, rows(10, 2)}, none},
		{query{example(), spell(10, 11), 2, 0, rows(10, 2)}, none},
		{query{example(), spell(0, 1), 60, 4, grid{}}, none},
		// Spans of 300 minutes: there, and on the way back.
		{query{example(), spell(0, 300), 10, 0, rows(10, 5)}, at(17, 27, 0)},
		{query{example(), spell(30, 330), 10, 0, rows(10, 5)}, at(163, 173, 0)},
		{query{example(), spell(0, 300), 60, 0, rows(10, 5)}, at(0, 60, 0)},
		{query{example(), spell(176, 476), 60, 0, rows(10, 5)}, at(176, 236, 0)},
		{query{example(), spell(180, 480), 60, 0, rows(10, 5, 18)}, none},
		// The last exposure of all.
		{query{example(), spell(last-299, last+1), 3, 0, rows(10, 0)}, at(last-205, last-202, 0)},
		{query{example(), spell(last-99, last+1), 3, 0, rows(10, 0)}, at(last-5, last-2, 0)},
		{query{example(), spell(last-2, last+1), 3, 0, rows(10, 0)}, at(last-2, last+1, 0)},
		{query{lazy, spell(last, last+1), 1, 4, grid{}}, at(last, last+1, 0)},
		{query{calm, spell(last, last+1), 1, 4, rows(9, 0)}, at(last, last+1, -1)},
		// An empty area is shown at once.
		{query{example(), spell(30, 60), 5, 4, grid{}}, at(30, 35, 0)},
		{query{example(), spell(0, 60), 60, 0, grid{}}, at(0, 60, 0)},
		{query{example(), spell(30, 34), 5, 4, grid{}}, none},
		// Of two looks that are equally near, the eastern one; the earlier spell first, also with a farther look.
		{query{jumps, spell(0, 10), 3, 4, rows(10, 2)}, at(0, 3, 1)},
		{query{jumps, spell(0, 10), 3, 1, rows(10, 2)}, at(0, 3, 1)},
		{query{jumps, spell(0, 10), 2, 4, rows(8, 2)}, at(0, 2, 1)},
		{query{jumps, spell(1, 10), 2, 4, rows(8, 2)}, at(1, 3, -1)},
		{query{jumps, spell(0, 10), 1, 4, rows(10, 2)}, at(0, 1, 3)},
		{query{jumps, spell(0, 10), 1, 2, rows(10, 2)}, at(1, 2, 1)},
		{query{jumps, spell(2, 10), 1, 2, rows(10, 2)}, at(2, 3, -1)},
		{query{jumps, spell(0, 10), 5, 4, rows(11, 2)}, at(0, 5, 0)},
		{query{jumps, spell(0, 60), 60, 0, rows(10, 2)}, none},
		// Both sides of the column 0.
		{query{edge, spell(0, 6), 6, 4, of(cell(0, 0), cell(1, 0), cell(2, 0))}, at(0, 6, 1)},
		{query{edge, spell(0, 6), 6, 4, of(cell(46, 0), cell(47, 0), cell(0, 0))}, at(0, 6, -1)},
		{query{edge, spell(0, 2), 1, 4, of(cell(3, 0))}, at(0, 1, 4)},
		{query{edge, spell(4, 6), 1, 4, of(cell(45, 0))}, at(4, 5, -4)},
	} {
		if got := x.q.best(); got != x.want {
			t.Errorf("%+v in %v, %d minutes, wide %d, for %v: %v; want %v", x.q.o, x.q.span, x.q.minutes, x.q.wide, x.q.g.cells(), got, x.want)
		}
	}
}

// refusedBest checks that Best says that its arguments are not valid, and nothing else.
func refusedBest(t *testing.T, o api.Orbit, span api.Spell, minutes, wide int, a api.Area) {
	t.Helper()
	if got := foundOf(swath.Best(o, span, minutes, wide, a)); got != (found{err: api.ErrSwath}) {
		t.Errorf("%+v in %v, %d minutes, wide %d, for %x: %v", o, span, minutes, wide, a.Rows, got)
	}
}

// P8.1: without a valid orbit, a span within its bounds, minutes, a width and a valid area, nothing is found, and Best says why.
func TestBestInvalid(t *testing.T) {
	// The second span is shorter than what is asked for, which alone would be no error.
	for _, span := range []api.Spell{spell(0, 300), spell(0, 5), spell(last-9, last+1)} {
		for _, a := range []api.Area{grid{}.area(), rows(10, 5).area()} {
			for _, o := range badOrbits() {
				refusedBest(t, o, span, 10, 2, a)
			}
			for _, o := range edgeOrbits() {
				for _, minutes := range append(badNumbers(), 0, -1, -10, 61, 62, 300, 301) {
					refusedBest(t, o, span, minutes, 2, a)
				}
				for _, wide := range append(badNumbers(), -1, -4, 5, 6, 48) {
					refusedBest(t, o, span, 10, wide, a)
				}
				for _, bad := range badSpells(300) {
					refusedBest(t, o, bad, 10, 2, a)
					refusedBest(t, o, bad, 1, 0, a)
				}
			}
		}
		for _, o := range edgeOrbits() {
			for _, a := range badAreas() {
				refusedBest(t, o, span, 10, 2, a)
			}
		}
	}
}

// P8.1: minutes and widths at their bounds are allowed.
func TestBestAtBounds(t *testing.T) {
	for _, o := range edgeOrbits() {
		for minutes := 1; minutes <= 60; minutes++ {
			for _, wide := range []int{0, minutes % 5, 4} {
				for _, from := range []int{0, last + 1 - minutes} {
					q := query{o, spell(from, from+minutes), minutes, wide, grid{}}
					if got := q.best(); got != (found{q.span, 0, true, api.OK}) {
						t.Fatalf("%+v: %v", q, got)
					}
				}
			}
		}
		for length := 1; length <= 300; length += 13 {
			for _, from := range []int{0, 777, last + 1 - length} {
				q := query{o, spell(from, from+length), 1, 4, grid{}}
				if got := q.best(); got != (found{spell(from, from+1), 0, true, api.OK}) {
					t.Fatalf("%+v: %v", q, got)
				}
			}
		}
	}
}
