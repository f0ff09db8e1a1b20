package swath_test

import (
	"testing"

	"nadir/api"
)

// has says whether s has all that other has, for sure and possibly.
func (s strip) has(other strip) bool {
	return s.sure.has(other.sure) && s.can.has(other.can)
}

// east returns everything one column farther to the east.
func (s strip) east() strip {
	return strip{s.sure.east(), s.can.east()}
}

// P8.3: a longer exposure shows all that a part of it shows, with each delay, for sure and possibly.
func TestLonger(t *testing.T) {
	more := 0
	for i, o := range someOrbits(7, 25) {
		for _, shot := range shots() {
			look := i%9 - 4
			whole := stripBy(t, o, shot, look)
			step := 1 + (shot.To-shot.From)/7
			for from := shot.From; from < shot.To; from += step {
				for to := shot.To; to > from; to -= step {
					part := stripBy(t, o, spell(from, to), look)
					if !whole.has(part) {
						t.Fatalf("%+v in %v, with the look %d: %v, and in %v %v", o, shot, look, whole, spell(from, to), part)
					}
					if whole.sure != part.sure && whole.can != part.can {
						more++
					}
				}
			}
			for late := -o.Slack; late <= o.Slack; late++ {
				all, half := shownBy(t, o, shot, look, late), shownBy(t, o, spell(shot.From, (shot.From+shot.To+1)/2), look, late)
				if !all.has(half) {
					t.Fatalf("%+v in %v, with the look %d and the delay %d", o, shot, look, late)
				}
			}
		}
	}
	if more == 0 {
		t.Error("no longer exposure shows more")
	}
}

// P8.3: two exposures, one after the other, possibly show what both of them do together, as one; for sure they may show less.
func TestOneAfterTheOther(t *testing.T) {
	more := 0
	for i, o := range someOrbits(8, 25) {
		for _, shot := range shots() {
			look := i%9 - 4
			whole := stripBy(t, o, shot, look)
			for middle := shot.From + 1; middle < shot.To; middle += 1 + (shot.To-shot.From)/9 {
				first, second := stripBy(t, o, spell(shot.From, middle), look), stripBy(t, o, spell(middle, shot.To), look)
				sure := first.sure.with(second.sure)
				if whole.can != first.can.with(second.can) || !whole.sure.has(sure) {
					t.Fatalf("%+v in %v, with the look %d, up to %d and from there", o, shot, look, middle)
				}
				if whole.sure != sure {
					more++
				}
			}
		}
	}
	if more == 0 {
		t.Error("no two exposures show less for sure than both together")
	}
}

// P8.4: looking one column farther to the east shows everything one column farther to the east.
func TestLooks(t *testing.T) {
	for _, o := range someOrbits(9, 20) {
		for _, shot := range shots() {
			for look := -4; look < 4; look++ {
				if stripBy(t, o, shot, look+1) != stripBy(t, o, shot, look).east() {
					t.Fatalf("%+v in %v, with the look %d and the next one", o, shot, look)
				}
				for _, late := range []int{-o.Slack, 0, o.Slack} {
					if shownBy(t, o, shot, look+1, late) != shownBy(t, o, shot, look, late).east() {
						t.Fatalf("%+v in %v, with the look %d and the next one, and the delay %d", o, shot, look, late)
					}
				}
			}
		}
	}
}

// P8.5: with less Slack, Sure is not smaller, and Can not greater; without any, both are the same.
func TestLessDelay(t *testing.T) {
	lost, won := 0, 0
	for i, o := range someOrbits(10, 40) {
		for _, shot := range shots() {
			look := i%9 - 4
			o.Slack = 0
			less := stripBy(t, o, shot, look)
			if less.sure != less.can || less.sure != shownBy(t, o, shot, look, 0) {
				t.Fatalf("%+v in %v, with the look %d: %v", o, shot, look, less)
			}
			for o.Slack = 1; o.Slack <= 10; o.Slack++ {
				s := stripBy(t, o, shot, look)
				if !less.sure.has(s.sure) || !s.can.has(less.can) {
					t.Fatalf("%+v in %v, with the look %d: %v, and with less Slack %v", o, shot, look, s, less)
				}
				if s.sure != less.sure {
					lost++
				}
				if s.can != less.can {
					won++
				}
				less = s
			}
		}
	}
	if lost == 0 || won == 0 {
		t.Errorf("%d times fewer cells for sure, %d times more possible ones", lost, won)
	}
}

// P8.1: Slack is only about which delays there are: what is shown with a delay does not depend on it.
func TestSameDelay(t *testing.T) {
	for slack := 0; slack <= 10; slack++ {
		o := with(func(o *api.Orbit) { o.Slack, o.Turn = slack, 77 })
		for late := -slack; late <= slack; late++ {
			if shownBy(t, o, spell(3, 30), 2, late) != shown(o, spell(3, 30), 2, late) {
				t.Errorf("Slack %d, with the delay %d", slack, late)
			}
		}
	}
}
