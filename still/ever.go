package still

import "wormtub/api"

// thousand is how many thousandths a whole has.
const thousand = 1000

// never is in the place of a number that there is not.
const never = -1

// Cycle returns how much returns from run to run at most, or the run before which it is
// above a limit.
func Cycle(fresh, keep api.Span, start, limit int) (most, run int, e api.Errno) {
	amounts, shares := span{0, api.MaxPot}, span{0, api.MaxKeep}
	if !amounts.covers(fresh) || !shares.covers(keep) {
		return 0, 0, api.ErrArg
	}
	if start < 0 || start > api.MaxPot || limit < 0 || limit > api.MaxPot {
		return 0, 0, api.ErrRange
	}
	for most = start; most <= limit; run++ {
		next := up((most+fresh.Hi)*keep.Hi, thousand)
		// No more than before leaves no more to return: what does not rise once never will.
		if next <= most {
			return most, never, api.OK
		}
		most = next
	}
	return most, run, api.OK
}

// Wear returns how many runs the copper lasts.
func Wear(thick, wear api.Span, least int) (surely, perhaps int, e api.Errno) {
	all := span{0, api.MaxThick}
	if !all.covers(thick) || !all.covers(wear) {
		return 0, 0, api.ErrArg
	}
	if least < 0 || least > api.MaxThick {
		return 0, 0, api.ErrRange
	}
	if thick.Lo < least {
		return 0, 0, api.ErrLimit
	}
	return runs(thick.Lo-least, wear.Hi), runs(thick.Hi-least, wear.Lo), api.OK
}

// runs returns how many runs there can be that take so much each, of so much in all.
func runs(all, each int) int {
	if each == 0 {
		return never
	}
	return down(all, each)
}
