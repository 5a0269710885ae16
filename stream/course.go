package stream

import (
	"iter"

	"wormtub/api"
)

// course is a stream that is followed: what is known where it is now, and what was
// known behind each point on the way.
type course struct {
	api.Water
	behind []api.Water
}

// pass follows the stream to behind a point.
func (c *course) pass(p api.Point) api.Errno {
	next, ok := pointOf(p)
	if !ok || !next.valid() {
		return api.ErrArg
	}
	c.Water = next.behind(c.Water)
	if c.Flow.Lo < 1 {
		return api.ErrShort
	}
	if c.Flow.Hi > api.MaxFlow || c.Warm.Hi > api.MaxWarm {
		return api.ErrLimit
	}
	c.behind = append(c.behind, c.Water)
	return api.OK
}

// follow returns what is known behind each point, up to the first one with an error.
func follow(first api.Water, points iter.Seq[api.Point]) (behind []api.Water, e api.Errno) {
	c := course{Water: first}
	for p := range points {
		if e := c.pass(p); e != api.OK {
			return c.behind, e
		}
	}
	return c.behind, api.OK
}

// heated ranges over points, and ahead of one of them, or at the end, over one more that
// adds a heat.
func heated(l []api.Point, at, heat int) iter.Seq[api.Point] {
	more := api.Point{Kind: api.Add, Heat: api.Span{Lo: heat, Hi: heat}}
	return func(yield func(api.Point) bool) {
		for i, p := range l {
			if i == at && !yield(more) || !yield(p) {
				return
			}
		}
		if at == len(l) {
			yield(more)
		}
	}
}
