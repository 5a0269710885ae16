package malt

import "wormtub/api"

// grain is what is known at some time: what there is, and what was taken up and lost
// until then.
type grain struct {
	dry, water, phenol       known
	taken, gas, roots, steam known
}

// doing is what a step does to grain, with a number that is not known better than x.
type doing func(g grain, x known) grain

// doings returns what the steps do, by their kinds. What cannot be panics.
func doings() [api.Weigh + 1]doing {
	return [...]doing{
		api.Steep: func(g grain, x known) grain {
			g.water, g.taken = g.water.plus(x), g.taken.plus(x)
			return g
		},
		api.Sprout: func(g grain, x known) grain {
			g.gas = g.gas.plus(know(g.dry.share(x, api.Whole)))
			kept := know(api.Whole-x.Hi, api.Whole-x.Lo)
			g.dry = know(g.dry.share(kept, api.Whole))
			return g
		},
		api.Kiln: func(g grain, x known) grain {
			left := know(g.dry.share(x, api.Whole)).atMost(g.water.Hi)
			g.water, g.steam = left, g.steam.plus(g.water.less(left))
			return g
		},
		api.Peat: func(g grain, x known) grain {
			// The smoke alone may have no whole number of milligrams: only what it
			// leaves in the malt decides whether this can be.
			lo, hi := g.dry.share(x, kilogram)
			g.phenol = know(g.phenol.Lo+lo, g.phenol.Hi+hi)
			return g
		},
		api.Sieve: func(g grain, x known) grain {
			g.roots = g.roots.plus(x.atMost(g.dry.Hi))
			g.dry = g.dry.less(x)
			return g
		},
		api.Weigh: func(g grain, x known) grain {
			dry := g.dry.meets(x.Lo-g.water.Hi, x.Hi-g.water.Lo)
			g.water = g.water.meets(x.Lo-g.dry.Hi, x.Hi-g.dry.Lo)
			g.dry = dry
			return g
		},
	}
}

// validStep tells whether a step is one, with a number that its kind allows.
func validStep(s api.MaltStep) bool {
	var most int
	switch s.Kind {
	case api.Steep, api.Sieve, api.Weigh:
		most = api.MaxAmount
	case api.Sprout, api.Kiln:
		most = api.Whole
	case api.Peat:
		most = api.MaxPeat
	default:
		return false
	}
	return within(api.Span{Lo: s.A, Hi: s.B}, most)
}

// next returns what is known behind a step.
func (g grain) next(s api.MaltStep) (grain, api.Errno) {
	if !validStep(s) {
		return grain{}, api.ErrArg
	}
	behind, e := g.done(s)
	if e == api.OK && behind.tooMuch() {
		return grain{}, api.ErrLimit
	}
	return behind, e
}

// done returns what is known behind a valid step, or ErrNone if this step cannot be.
func (g grain) done(s api.MaltStep) (behind grain, e api.Errno) {
	defer func() {
		if recover() != nil {
			behind, e = grain{}, api.ErrNone
		}
	}()
	return doings()[s.Kind](g, know(s.A, s.B)), api.OK
}

// tooMuch tells whether anything, or a sum of what was taken up or lost, may be
// greater than an amount can be.
func (g grain) tooMuch() bool {
	for _, k := range [...]known{g.dry, g.water, g.phenol, g.taken, g.gas, g.roots, g.steam} {
		if k.Hi > api.MaxAmount {
			return true
		}
	}
	return false
}

// malt returns what there is.
func (g grain) malt() api.Malt {
	return api.Malt{Dry: g.dry.Span, Water: g.water.Span, Phenol: g.phenol.Span}
}

// loss returns what was taken up and lost.
func (g grain) loss() api.MaltLoss {
	return api.MaltLoss{Taken: g.taken.Span, Gas: g.gas.Span, Roots: g.roots.Span, Steam: g.steam.Span}
}
