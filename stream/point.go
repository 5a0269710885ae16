package stream

import "wormtub/api"

// point is something that happens to a stream.
type point interface {
	// valid tells whether all that the kind asks for is within the limits.
	valid() bool
	// behind returns what is known behind the point. It may be beyond the limits.
	behind(ahead api.Water) api.Water
}

// The points of each kind have just what the kind asks for, so nothing else can matter.
type (
	join struct{ flow, warm api.Span }
	draw struct{ flow api.Span }
	add  struct{ heat api.Span }
	air  struct{ warm, share api.Span }
)

// pointOf returns a point as one of its kind, if there is this kind.
func pointOf(p api.Point) (is point, ok bool) {
	switch p.Kind {
	case api.Join:
		return join{p.Flow, p.Warm}, true
	case api.Draw:
		return draw{p.Flow}, true
	case api.Add:
		return add{p.Heat}, true
	case api.Air:
		return air{p.Warm, p.Share}, true
	}
	return nil, false
}

func (j join) valid() bool {
	return within(j.flow, 1, api.MaxFlow) && within(j.warm, 0, api.MaxWarm)
}

func (j join) behind(ahead api.Water) api.Water {
	flow := api.Span{Lo: ahead.Flow.Lo + j.flow.Lo, Hi: ahead.Flow.Hi + j.flow.Hi}
	little := fraction{j.flow.Lo, ahead.Flow.Hi + j.flow.Lo}
	much := fraction{j.flow.Hi, ahead.Flow.Lo + j.flow.Hi}
	return api.Water{Flow: flow, Warm: toward(ahead.Warm, j.warm, little, much)}
}

func (d draw) valid() bool { return within(d.flow, 0, api.MaxFlow) }

func (d draw) behind(ahead api.Water) api.Water {
	ahead.Flow = api.Span{Lo: ahead.Flow.Lo - d.flow.Hi, Hi: ahead.Flow.Hi - d.flow.Lo}
	return ahead
}

func (a add) valid() bool { return within(a.heat, 0, api.MaxAdded) }

func (a add) behind(ahead api.Water) api.Water {
	ahead.Warm.Lo += down(a.heat.Lo, ahead.Flow.Hi)
	ahead.Warm.Hi += up(a.heat.Hi, ahead.Flow.Lo)
	return ahead
}

func (a air) valid() bool {
	return within(a.warm, 0, api.MaxWarm) && within(a.share, 0, api.Whole)
}

func (a air) behind(ahead api.Water) api.Water {
	little, much := fraction{a.share.Lo, api.Whole}, fraction{a.share.Hi, api.Whole}
	ahead.Warm = toward(ahead.Warm, a.warm, little, much)
	return ahead
}
