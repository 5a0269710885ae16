package strength

import (
	"cmp"
	"iter"
	"sort"

	"wormtub/api"
)

// validTable tells whether a table is as the document describes it.
func validTable(t api.Table) bool {
	if !validAxis(t.Temps, api.MinTemp, api.MaxTemp) || !validAxis(t.Strengths, 0, api.MaxStrength) {
		return false
	}
	return validShown(t.Shown, len(t.Temps), len(t.Strengths)) &&
		validRoom(t.Room, len(t.Temps), len(t.Strengths))
}

// validAxis tells whether a table can have these temperatures, or strengths.
func validAxis(axis []int, least, greatest int) bool {
	return len(axis) >= 2 && len(axis) <= api.MaxRows && rises(axis, least, greatest)
}

// rises tells whether a row strictly rises within two limits.
func rises[N cmp.Ordered](row []N, least, greatest N) bool {
	for i, n := range row {
		if n < least || n > greatest || i > 0 && n <= row[i-1] {
			return false
		}
	}
	return true
}

// validShown tells whether there are so many rows of what is shown, each of that
// length and rising.
func validShown(rows [][]int, count, length int) bool {
	if len(rows) != count {
		return false
	}
	for _, row := range rows {
		if len(row) != length || !rises(row, -api.MaxStrength, 2*api.MaxStrength) {
			return false
		}
	}
	return true
}

// validRoom tells whether there are so many rows of room, each of that length.
func validRoom(rows [][]int, count, length int) bool {
	valid := len(rows) == count
all:
	for _, row := range rows {
		valid = valid && len(row) == length
		for _, room := range row {
			if room < api.MinRoom || room > api.MaxRoom {
				valid = false
				break all
			}
		}
	}
	return valid
}

// validSpan tells whether a span contains anything.
func validSpan(s api.Span) bool { return s.Lo <= s.Hi }

// within tells whether a span is valid and has nothing outside two limits.
func within(s api.Span, least, greatest int) bool {
	return validSpan(s) && least <= s.Lo && s.Hi <= greatest
}

// validPart tells whether a part has an amount and a strength.
func validPart(p api.Part) bool {
	return within(p.Amount, 0, api.MaxAmount) && within(p.Strength, 0, api.MaxStrength)
}

// whole returns the span from the first number of an axis to the last one.
func whole(axis []int) api.Span { return api.Span{Lo: axis[0], Hi: axis[len(axis)-1]} }

// fits tells whether a span is valid and within the numbers of an axis.
func fits(s api.Span, axis []int) bool {
	w := whole(axis)
	return within(s, w.Lo, w.Hi)
}

// before returns the index of the last of count rising numbers, told by a function,
// that is not above x. It is never that of the very last one, so that the place of x
// is between this number and the next one.
func before(count int, at func(i int) int, x int) int {
	return sort.Search(count-2, func(i int) bool { return at(i+1) > x })
}

// place is where a number lies between two neighbours of an axis: the index of the
// first one, how far away this one is, and how far the second one is.
type place struct{ index, past, left int }

// find returns the place of a number on an axis.
func find(axis []int, x int) place {
	i := before(len(axis), func(i int) int { return axis[i] }, x)
	return place{i, x - axis[i], axis[i+1] - x}
}

// between returns the number that is as far from a to b as the place is between its
// neighbours, times their distance, so that it is a whole number.
func (p place) between(a, b int) int { return p.left*a + p.past*b }

// width returns the distance of the neighbours.
func (p place) width() int { return p.past + p.left }

// value returns what rows of the table have at a temperature and a strength.
func value(t api.Table, rows [][]int, temp, strength int) fraction {
	r, c := find(t.Temps, temp), find(t.Strengths, strength)
	upper, lower := rows[r.index], rows[r.index+1]
	return fraction{
		num: r.between(c.between(upper[c.index], upper[c.index+1]), c.between(lower[c.index], lower[c.index+1])),
		den: r.width() * c.width(),
	}
}

// bends ranges over the ends of a span and the numbers of the axis within it. From
// each of them to the next one, values go along straight lines.
func bends(axis []int, s api.Span) iter.Seq[int] {
	return func(yield func(int) bool) {
		if !yield(s.Lo) {
			return
		}
		for _, x := range axis {
			if s.Lo < x && x < s.Hi && !yield(x) {
				return
			}
		}
		if s.Lo < s.Hi {
			yield(s.Hi)
		}
	}
}

// corners ranges over the values of rows at the corners of the rectangles into which
// the lines of the table cut these strengths and temperatures. A value is never less,
// or greater, within a rectangle than at one of its corners.
func corners(t api.Table, rows [][]int, strength, temp api.Span) iter.Seq[fraction] {
	return func(yield func(fraction) bool) {
		for x := range bends(t.Temps, temp) {
			for s := range bends(t.Strengths, strength) {
				if !yield(value(t, rows, x, s)) {
					return
				}
			}
		}
	}
}

// extremes returns the least and the greatest value of rows.
func extremes(t api.Table, rows [][]int, strength, temp api.Span) (least, greatest fraction) {
	least = foremost(corners(t, rows, strength, temp), fraction.less)
	greatest = foremost(corners(t, rows, strength, temp), fraction.more)
	return least, greatest
}

// showing ranges over the strengths that show x at the temperatures where they may
// be least, or greatest: what is shown bends only there.
func showing(t api.Table, x int, temp api.Span) iter.Seq[fraction] {
	return func(yield func(fraction) bool) {
		for y := range bends(t.Temps, temp) {
			if !yield(showingAt(t, x, y)) {
				return
			}
		}
	}
}

// showingAt returns the strength that shows x at a temperature: the first or the
// last one of the table if each of them shows more, or less.
func showingAt(t api.Table, x, temp int) fraction {
	p := find(t.Temps, temp)
	upper, lower := t.Shown[p.index], t.Shown[p.index+1]
	at := func(i int) int { return p.between(upper[i], lower[i]) }
	last := len(t.Strengths) - 1
	// No table shows anything beyond these limits; further away x could be too
	// great to be multiplied.
	x = min(max(x, -api.MaxStrength), 2*api.MaxStrength)
	goal := min(max(x*p.width(), at(0)), at(last))
	i := before(last+1, at, goal)
	part := place{i, goal - at(i), at(i+1) - goal}
	return fraction{part.between(t.Strengths[i], t.Strengths[i+1]), part.width()}
}
