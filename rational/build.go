package rational

import (
	"slices"
	"strings"

	"nadir/api"
	"nadir/integer"
)

// operation makes an integer of two others.
type operation func(x, y string) (string, api.Errno)

// step is a part of the way to a fraction. An error says that there is no such fraction.
type step func() api.Errno

// build takes the steps, which set the integers of r, and returns r, reduced. After an error, the steps that are left are skipped.
func build(r *api.Ratio, steps ...step) (api.Ratio, api.Errno) {
	for _, take := range slices.Concat(steps, reduce(r)) {
		if take() != api.OK {
			return api.Ratio{}, api.ErrRational
		}
	}
	return *r, api.OK
}

// reduce returns the steps that reduce r.
func reduce(r *api.Ratio) []step {
	var divisor string
	return []step{
		set(&divisor, integer.Gcd, &r.Num, &r.Den),
		func() (err api.Errno) {
			// Divided by something of its own sign, the denominator becomes positive.
			switch integer.Compare(r.Den, "0") {
			case 0:
				err = api.ErrRational
			case -1:
				divisor, err = integer.Sub("0", divisor)
			}
			return err
		},
		set(&r.Num, quotient, &r.Num, &divisor),
		set(&r.Den, quotient, &r.Den, &divisor),
	}
}

// set returns the step that sets z to what the operation makes of x and y, as these are when the step is taken.
func set(z *string, apply operation, x, y *string) step {
	return func() (err api.Errno) {
		*z, err = apply(*x, *y)
		return err
	}
}

// valid returns the step that no fraction passes that is not valid.
func valid(fractions ...api.Ratio) step {
	return func() api.Errno {
		for _, r := range fractions {
			if !Valid(r) {
				return api.ErrRational
			}
		}
		return api.OK
	}
}

// quotient returns the quotient of integer.Div.
func quotient(x, y string) (string, api.Errno) {
	q, _, err := integer.Div(x, y)
	return q, err
}

// sum returns the fraction that the operation, integer.Add or integer.Sub, makes of a and b, when both are counted in parts of the same size.
func sum(a, b api.Ratio, apply operation) (api.Ratio, api.Errno) {
	var r api.Ratio
	var partsA, partsB string
	return build(&r,
		valid(a, b),
		set(&partsA, integer.Mul, &a.Num, &b.Den),
		set(&partsB, integer.Mul, &b.Num, &a.Den),
		set(&r.Num, apply, &partsA, &partsB),
		set(&r.Den, integer.Mul, &a.Den, &b.Den))
}

// round returns r with so many decimal places: as many units of the last one as choose makes of the quotient and the remainder.
func round(r api.Ratio, places int, choose operation) (api.Ratio, api.Errno) {
	var rounded api.Ratio
	var scaled, units, rest string
	return build(&rounded,
		valid(r),
		func() api.Errno {
			if places < 0 || places > api.MaxPlaces {
				return api.ErrRational
			}
			rounded.Den = "1" + strings.Repeat("0", places)
			return api.OK
		},
		set(&scaled, integer.Mul, &r.Num, &rounded.Den),
		func() (err api.Errno) {
			units, rest, err = integer.Div(scaled, r.Den)
			return err
		},
		set(&rounded.Num, choose, &units, &rest))
}
