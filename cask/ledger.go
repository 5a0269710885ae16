package cask

import (
	"iter"
	"maps"
	"slices"

	"wormtub/api"
)

// ledger is what is left of the events that were taken: all casks, by their numbers, and
// the day.
type ledger struct {
	casks map[int]*barrel
	day   int
	taken int
}

// play plays a ledger up to a day. With the error of an event, the events ahead of it were
// taken.
func play(l []api.CaskEvent, day int) (*ledger, api.Errno) {
	g := &ledger{casks: map[int]*barrel{}}
	if len(l) > api.MaxCaskEvents {
		return g, api.ErrLong
	}
	if !within(day, 0, api.MaxDay) {
		return g, api.ErrRange
	}
	e := g.take(l, day)
	g.day = day
	return g, e
}

// take takes events up to a day, or up to one that cannot be: this one panics with its
// error.
func (g *ledger) take(l []api.CaskEvent, day int) (e api.Errno) {
	defer func() {
		if why, ok := recover().(api.Errno); ok {
			e = why
		}
	}()
	doings := doings()
	for _, v := range l {
		if v.Day > day {
			break
		}
		must(valid(v), api.ErrArg)
		must(v.Day >= g.day, api.ErrOrder)
		g.day = v.Day
		doings[v.Kind](g, v)
		g.taken++
	}
	return api.OK
}

// must panics with an error unless something is so.
func must(is bool, e api.Errno) {
	if !is {
		panic(e)
	}
}

// find returns a cask as it is now, if there is one.
func (g *ledger) find(number int) (b *barrel, ok bool) {
	b, ok = g.casks[number]
	if ok {
		b.rest(g.day)
	}
	return b, ok
}

// inOrder ranges over all casks as they are now, by rising numbers.
func (g *ledger) inOrder() iter.Seq[*barrel] {
	return func(yield func(*barrel) bool) {
		for _, number := range slices.Sorted(maps.Keys(g.casks)) {
			if b, _ := g.find(number); !yield(b) {
				return
			}
		}
	}
}
