package cask

import "wormtub/api"

// doings returns what happens with the events, by their kinds. What cannot be panics.
func doings() map[int]func(*ledger, api.CaskEvent) {
	return map[int]func(*ledger, api.CaskEvent){
		api.Make:   (*ledger).create,
		api.Fill:   (*ledger).fill,
		api.Rack:   (*ledger).rack,
		api.Drain:  (*ledger).drain,
		api.Carry:  (*ledger).carry,
		api.Sell:   (*ledger).sell,
		api.Pledge: (*ledger).pledge,
		api.Free:   (*ledger).free,
		api.Char:   (*ledger).char,
	}
}

// valid tells whether an event is one of a kind, with all that its kind uses in its range.
func valid(v api.CaskEvent) bool {
	if !within(v.Day, 0, api.MaxDay) || !within(v.Cask, 0, api.MaxCaskNumber) {
		return false
	}
	amount := within(v.Amount, 1, api.MaxAmount)
	person, to := within(v.Person, 0, api.MaxPerson), within(v.To, 0, api.MaxPerson)
	switch v.Kind {
	case api.Make:
		return within(v.Other, 0, api.MaxWoods-1) && within(v.Where, 0, api.MaxPlaces-1) && amount && person
	case api.Fill, api.Drain:
		return amount
	case api.Rack:
		return within(v.Other, 0, api.MaxCaskNumber) && amount
	case api.Carry:
		return within(v.Where, 0, api.MaxPlaces-1)
	case api.Sell, api.Pledge:
		return person && to
	case api.Free:
		return person
	case api.Char:
		return within(v.Where, 0, api.MaxWoods-1)
	}
	return false
}

// within tells whether a number is from least to most.
func within(n, least, most int) bool { return least <= n && n <= most }

// barrel returns the cask with a number as it is now. There must be one.
func (g *ledger) barrel(number int) *barrel {
	b, ok := g.find(number)
	must(ok, api.ErrNone)
	return b
}

func (g *ledger) create(v api.CaskEvent) {
	must(g.casks[v.Cask] == nil, api.ErrTwice)
	must(len(g.casks) < api.MaxCasks, api.ErrFull)
	made := api.Cask{Number: v.Cask, Wood: v.Other, Place: v.Where, Room: v.Amount, Owner: v.Person, Creditor: nobody}
	g.casks[v.Cask] = &barrel{Cask: made, day: g.day}
}

func (g *ledger) fill(v api.CaskEvent) {
	g.barrel(v.Cask).pour(v.Amount, fresh(g.taken))
}

func (g *ledger) rack(v api.CaskEvent) {
	from, into := g.barrel(v.Cask), g.barrel(v.Other)
	must(from != into, api.ErrTwice)
	must(from.Owner == into.Owner && !from.pledged() && !into.pledged(), api.ErrRefuse)
	into.pour(v.Amount, from.tap(v.Amount))
}

func (g *ledger) drain(v api.CaskEvent) {
	b := g.barrel(v.Cask)
	must(!b.pledged(), api.ErrRefuse)
	b.tap(v.Amount)
}

func (g *ledger) carry(v api.CaskEvent) {
	g.barrel(v.Cask).Place = v.Where
}

func (g *ledger) sell(v api.CaskEvent) {
	b := g.barrel(v.Cask)
	must(b.Owner == v.Person && !b.pledged(), api.ErrRefuse)
	must(b.Owner != v.To, api.ErrTwice)
	b.Owner = v.To
}

func (g *ledger) pledge(v api.CaskEvent) {
	b := g.barrel(v.Cask)
	must(b.Owner == v.Person, api.ErrRefuse)
	must(!b.pledged(), api.ErrTwice)
	b.Creditor = v.To
}

func (g *ledger) free(v api.CaskEvent) {
	b := g.barrel(v.Cask)
	must(b.Creditor == v.Person, api.ErrRefuse)
	b.Creditor = nobody
}

func (g *ledger) char(v api.CaskEvent) {
	b := g.barrel(v.Cask)
	must(b.Amount == 0, api.ErrState)
	b.Wood = v.Where
}
