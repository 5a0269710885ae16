package cask_test

import (
	"maps"
	"math/rand"
	"slices"

	"wormtub/api"
)

// The tests find what is right on their own: day by day, with all kinds of drops that are
// in each cask, each kind with all that happened to it.

const (
	maxInt = int(^uint(0) >> 1)
	minInt = -maxInt - 1
)

func newCask(day, number, wood, place, room, owner int) api.CaskEvent {
	return api.CaskEvent{Kind: api.Make, Day: day, Cask: number, Other: wood, Where: place, Amount: room, Person: owner}
}

func fill(day, number, amount int) api.CaskEvent {
	return api.CaskEvent{Kind: api.Fill, Day: day, Cask: number, Amount: amount}
}

func rack(day, from, into, amount int) api.CaskEvent {
	return api.CaskEvent{Kind: api.Rack, Day: day, Cask: from, Other: into, Amount: amount}
}

func drain(day, number, amount int) api.CaskEvent {
	return api.CaskEvent{Kind: api.Drain, Day: day, Cask: number, Amount: amount}
}

func carry(day, number, place int) api.CaskEvent {
	return api.CaskEvent{Kind: api.Carry, Day: day, Cask: number, Where: place}
}

func sell(day, number, person, to int) api.CaskEvent {
	return api.CaskEvent{Kind: api.Sell, Day: day, Cask: number, Person: person, To: to}
}

func pledge(day, number, person, to int) api.CaskEvent {
	return api.CaskEvent{Kind: api.Pledge, Day: day, Cask: number, Person: person, To: to}
}

func free(day, number, person int) api.CaskEvent {
	return api.CaskEvent{Kind: api.Free, Day: day, Cask: number, Person: person}
}

func char(day, number, wood int) api.CaskEvent {
	return api.CaskEvent{Kind: api.Char, Day: day, Cask: number, Where: wood}
}

// example returns the ledger of the document's examples.
func example() []api.CaskEvent {
	return []api.CaskEvent{
		newCask(0, 1, 2, 0, 500, 9), newCask(0, 2, 3, 1, 300, 9), fill(0, 1, 400),
		rack(100, 1, 2, 150),
		carry(150, 1, 4), fill(150, 2, 50),
		pledge(200, 2, 9, 30),
	}
}

// eight returns numbers of which one is n.
func eight(i, n int) (l [8]int) {
	l[i] = n
	return l
}

// both returns the sum of numbers.
func both(a, b [8]int) [8]int {
	for i, n := range b {
		a[i] += n
	}
	return a
}

// kind is a kind of drops: of which filling it is, and where it has been for how long.
type kind struct {
	fill, age     int
	woods, places [8]int
}

// vessel is a cask, with all kinds of drops that are in it.
type vessel struct {
	number, wood, place, room, owner, creditor, amount int

	kinds map[kind]bool
}

// model is all casks on a day, behind some events.
type model struct {
	casks      map[int]*vessel
	day, taken int
}

func newModel() *model { return &model{casks: map[int]*vessel{}} }

// pass lets a day pass.
func (m *model) pass() {
	m.day++
	for _, v := range m.casks {
		older := map[kind]bool{}
		for k := range v.kinds {
			k.age++
			k.woods[v.wood]++
			k.places[v.place]++
			older[k] = true
		}
		v.kinds = older
	}
}

// until lets days pass.
func (m *model) until(day int) {
	for m.day < day {
		m.pass()
	}
}

// errorOf returns the error of a valid event that is not ahead of its time.
func (m *model) errorOf(v api.CaskEvent) api.Errno {
	c, other := m.casks[v.Cask], m.casks[v.Other]
	if v.Kind == api.Make {
		return first(c != nil, api.ErrTwice, len(m.casks) == 256, api.ErrFull)
	}
	if c == nil {
		return api.ErrNone
	}
	is := c.creditor != -1
	switch v.Kind {
	case api.Fill:
		return first(c.amount+v.Amount > c.room, api.ErrFull)
	case api.Rack:
		if other == nil {
			return api.ErrNone
		}
		return first(v.Cask == v.Other, api.ErrTwice,
			c.owner != other.owner || is || other.creditor != -1, api.ErrRefuse,
			c.amount < v.Amount, api.ErrShort, other.amount+v.Amount > other.room, api.ErrFull)
	case api.Drain:
		return first(is, api.ErrRefuse, c.amount < v.Amount, api.ErrShort)
	case api.Sell:
		return first(c.owner != v.Person || is, api.ErrRefuse, v.To == c.owner, api.ErrTwice)
	case api.Pledge:
		return first(c.owner != v.Person, api.ErrRefuse, is, api.ErrTwice)
	case api.Free:
		return first(!is || c.creditor != v.Person, api.ErrRefuse)
	case api.Char:
		return first(c.amount > 0, api.ErrState)
	}
	return api.OK
}

// first returns the error behind the first condition that is true.
func first(l ...any) api.Errno {
	for i := 0; i < len(l); i += 2 {
		if l[i].(bool) {
			return l[i+1].(api.Errno)
		}
	}
	return api.OK
}

// do does an event without an error.
func (m *model) do(v api.CaskEvent) {
	c := m.casks[v.Cask]
	switch v.Kind {
	case api.Make:
		m.casks[v.Cask] = &vessel{
			number: v.Cask, wood: v.Other, place: v.Where, room: v.Amount, owner: v.Person, creditor: -1,
			kinds: map[kind]bool{},
		}
	case api.Fill:
		c.kinds[kind{fill: m.taken}] = true
		c.amount += v.Amount
	case api.Rack:
		maps.Copy(m.casks[v.Other].kinds, c.kinds)
		m.casks[v.Other].amount += v.Amount
		c.lose(v.Amount)
	case api.Drain:
		c.lose(v.Amount)
	case api.Carry:
		c.place = v.Where
	case api.Sell:
		c.owner = v.To
	case api.Pledge:
		c.creditor = v.To
	case api.Free:
		c.creditor = -1
	case api.Char:
		c.wood = v.Where
	}
	m.taken++
}

// lose takes an amount away, and its drops with it if nothing is left.
func (v *vessel) lose(amount int) {
	v.amount -= amount
	if v.amount == 0 {
		v.kinds = map[kind]bool{}
	}
}

// told returns what is to be told of a cask.
func (v *vessel) told() api.Cask {
	c := api.Cask{
		Number: v.number, Wood: v.wood, Place: v.place, Room: v.room, Owner: v.owner, Creditor: v.creditor,
		Amount: v.amount,
	}
	if len(v.kinds) == 0 {
		return c
	}
	c.Age = maxInt
	for i := range 8 {
		c.Woods[i], c.Places[i] = maxInt, maxInt
	}
	for k := range v.kinds {
		c.Age = min(c.Age, k.age)
		for i := range 8 {
			c.Woods[i], c.Places[i] = min(c.Woods[i], k.woods[i]), min(c.Places[i], k.places[i])
		}
	}
	return c
}

// sources returns the fillings of which drops are in a cask.
func (v *vessel) sources() []int {
	var l []int
	for k := range v.kinds {
		l = append(l, k.fill)
	}
	slices.Sort(l)
	return slices.Compact(l)
}

// told returns what is to be told of all casks.
func (m *model) told() []api.Cask {
	var l []api.Cask
	for _, number := range slices.Sorted(maps.Keys(m.casks)) {
		l = append(l, m.casks[number].told())
	}
	return l
}

// rightPlay plays a ledger of valid events up to a day. With an error, taken is its index.
func rightPlay(l []api.CaskEvent, day int) (*model, api.Errno) {
	m := newModel()
	for _, v := range l {
		if v.Day > day {
			break
		}
		if v.Day < m.day {
			return m, api.ErrOrder
		}
		m.until(v.Day)
		if e := m.errorOf(v); e != api.OK {
			return m, e
		}
		m.do(v)
	}
	m.until(day)
	return m, api.OK
}

// anyEvent returns a valid event with small numbers.
func anyEvent(r *rand.Rand, day int) api.CaskEvent {
	v := api.CaskEvent{
		Kind: []int{0, 1, 1, 2, 2, 2, 2, 3, 4, 4, 5, 6, 7, 8}[r.Intn(14)], Day: day,
		Cask: r.Intn(4), Other: r.Intn(4), Person: r.Intn(2), To: r.Intn(2), Amount: 1 + r.Intn(6), Where: r.Intn(3),
	}
	if v.Kind == api.Make {
		v.Amount = 5 + r.Intn(20)
	}
	return v
}

// anyLedger returns a ledger of n events of which all are possible, and the days pass.
func anyLedger(r *rand.Rand, n int) []api.CaskEvent {
	m := newModel()
	l := []api.CaskEvent{newCask(0, 0, 0, 1, 20, 0), newCask(0, 1, 1, 0, 15, 0), newCask(0, 2, 2, 1, 9, 0)}
	for _, v := range l {
		m.do(v)
	}
	for len(l) < n {
		if r.Intn(3) == 0 {
			m.until(m.day + r.Intn(4))
		}
		v := anyEvent(r, m.day)
		if m.errorOf(v) == api.OK {
			m.do(v)
			l = append(l, v)
		}
	}
	return l
}
