package globe

import (
	"math/bits"

	"nadir/api"
)

// allColumns has the bits of all columns of a row.
const allColumns = 1<<api.MaxColumns - 1

// field is the rows of a valid area: an array, so that it is compared and copied as a whole.
type field [api.MaxRows]int

// read returns the rows of a; none and false if it is not valid.
func read(a api.Area) (field, bool) {
	if len(a.Rows) != api.MaxRows {
		return field{}, false
	}
	for _, row := range a.Rows {
		if row < 0 || row > allColumns {
			return field{}, false
		}
	}
	return field(a.Rows), true
}

// write returns the area with the rows f, which are a copy of those of the caller.
func write(f field) api.Area {
	return api.Area{Rows: f[:]}
}

// change returns what apply makes of a.
func change(a api.Area, apply func(field) field) (api.Area, api.Errno) {
	f, valid := read(a)
	if !valid {
		return api.Area{}, api.ErrGlobe
	}
	return write(apply(f)), api.OK
}

// combine returns the area whose rows join makes of those of a and b.
func combine(a, b api.Area, join func(x, y int) int) (api.Area, api.Errno) {
	other, valid := read(b)
	if !valid {
		return api.Area{}, api.ErrGlobe
	}
	return change(a, func(f field) field {
		for y := range f {
			f[y] = join(f[y], other[y])
		}
		return f
	})
}

// cells yields the cells of f, in order.
func (f field) cells(yield func(api.Cell) bool) {
	for y, row := range f {
		for rest := row; rest != 0; rest &= rest - 1 {
			if !yield(api.Cell{X: bits.TrailingZeros(uint(rest)), Y: y}) {
				return
			}
		}
	}
}

// shifted returns f, so many columns farther east.
func (f field) shifted(columns int) field {
	for y := range f {
		f[y] = turned(f[y], columns)
	}
	return f
}

// grown returns f with all cells beside one of f, also across its corners.
func (f field) grown() field {
	east, west := f.shifted(1), f.shifted(-1)
	for y := range f {
		f[y] |= east[y] | west[y]
	}
	wide := f
	for y := 1; y < len(f); y++ {
		f[y-1] |= wide[y]
		f[y] |= wide[y-1]
	}
	return f
}

// turned returns the row, turned around by so many columns eastward. What passes the column 47 comes back at 0.
func turned(row, columns int) int {
	// The remainder of a negative number is negative; no sum here overflows, whatever columns is.
	east := (columns%api.MaxColumns + api.MaxColumns) % api.MaxColumns
	return (row<<east | row>>(api.MaxColumns-east)) & allColumns
}

// apart returns by how much i and j differ.
func apart(i, j int) int {
	return max(i-j, j-i)
}
