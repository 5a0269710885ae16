package wash

import "wormtub/api"

// Air returns how much gas is in a room behind each hour.
func Air(start api.Span, in []api.Span, vent int) ([]api.Span, api.Errno) {
	if len(in) > api.MaxFerment {
		return nil, api.ErrLong
	}
	room := span{0, api.MaxGas}
	if !room.covers(start) || !all(in, room.covers) {
		return nil, api.ErrArg
	}
	if vent < 0 || vent > thousand {
		return nil, api.ErrRange
	}
	var behind []api.Span
	gas := span(start)
	for _, more := range in {
		gas = gas.plus(span(more)).times(exactly(thousand - vent)).by(thousand)
		if gas.Hi > api.MaxGas {
			return nil, api.ErrLimit
		}
		behind = append(behind, api.Span(gas))
	}
	return behind, api.OK
}

// Bound returns how much gas is in a room at most, for ever.
func Bound(most, vent int) (int, api.Errno) {
	if most < 0 || most > api.MaxGas || vent < 0 || vent > thousand {
		return 0, api.ErrRange
	}
	if most == 0 {
		return 0, api.OK
	}
	if vent == 0 {
		return 0, api.ErrLimit
	}
	// What is there stays at most b just if (b + most) (1000 - vent) is at most 1000 b,
	// also when it is rounded up, as b is whole.
	return up(most*(thousand-vent), vent), api.OK
}

// Vent returns the least vent with which a room never has more gas than a limit.
func Vent(most, limit int) (int, api.Errno) {
	if most < 0 || most > api.MaxGas || limit < 0 || limit > api.MaxGas {
		return 0, api.ErrRange
	}
	for vent := range thousand + 1 {
		if bound, e := Bound(most, vent); e == api.OK && bound+most <= limit {
			return vent, api.OK
		}
	}
	return 0, api.ErrLimit
}
