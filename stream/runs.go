package stream

import (
	"slices"
	"sort"

	"wormtub/api"
)

// hours is how much room there is in each hour.
type hours [api.MaxSlots]int

// Runs returns when stills can run.
func Runs(room []int, l []api.Burner) ([]int, api.Errno) {
	if !validRuns(l, len(room)) || !validRoom(room) {
		return nil, api.ErrArg
	}
	var free hours
	copy(free[:], room)
	// What ends by some hour ends by each later one, too.
	end := sort.Search(len(room)+1, func(by int) bool { return free.hasPlan(l, by) })
	if end > len(room) {
		return nil, api.ErrNone
	}
	return free.plan(l, end), api.OK
}

// validRuns tells whether there are not too many runs, all of them valid.
func validRuns(l []api.Burner, count int) bool {
	if len(l) > api.MaxRuns {
		return false
	}
	for _, b := range l {
		// Due - Ready is not looked at before it is known to be a number from 1 on.
		if b.Ready < 0 || b.Due > count || b.Due <= b.Ready || b.Hours < 1 || b.Hours > b.Due-b.Ready ||
			b.Heat < 0 || b.Heat > api.MaxAdded {
			return false
		}
	}
	return true
}

// validRoom tells whether there are not too many hours, with as much room as there can be.
func validRoom(room []int) bool {
	const most = 8 * api.MaxAdded
	return len(room) <= api.MaxSlots && !slices.ContainsFunc(room, func(n int) bool { return n < 0 || n > most })
}

// start returns the first start, not before an hour, with which there is room for a run
// that ends by another hour.
func (free hours) start(b api.Burner, from, by int) (start int, ok bool) {
	start = from
	for hour := from; hour < min(b.Due, by); hour++ {
		if free[hour] < b.Heat {
			start = hour + 1
		} else if hour-start+1 == b.Hours {
			return start, true
		}
	}
	return 0, false
}

// without returns the room that a run leaves.
func (free hours) without(b api.Burner, start int) hours {
	for hour := range b.Hours {
		free[start+hour] -= b.Heat
	}
	return free
}

// hasPlan tells whether there is a plan in which all runs end by an hour.
func (free hours) hasPlan(l []api.Burner, by int) bool {
	// In a plan in which no run can start earlier while the others stay, each has the
	// first start that is free beside the runs that start before it: with an earlier one
	// there would be room in the plan, too, as the later ones are not on until it
	// starts, and it is on itself from then on. So it is enough to let the runs take the
	// first start that is free, in each order.
	var try func(free hours, rest []api.Burner) bool
	try = func(free hours, rest []api.Burner) bool {
		for i, b := range rest {
			start, ok := free.start(b, b.Ready, by)
			if !ok {
				return false // nor will there be room when others are on
			}
			if try(free.without(b, start), slices.Concat(rest[:i], rest[i+1:])) {
				return true
			}
		}
		return len(rest) == 0
	}
	return try(free, l)
}

// plan returns the starts of the first plan, in lexicographic order, in which all runs
// end by an hour. There is one.
func (free hours) plan(l []api.Burner, by int) []int {
	var starts []int
runs:
	for i, b := range l {
		for start, ok := free.start(b, b.Ready, by); ok; start, ok = free.start(b, start+1, by) {
			then := free.without(b, start)
			if then.hasPlan(l[i+1:], by) {
				free, starts = then, append(starts, start)
				continue runs
			}
		}
	}
	return starts
}
