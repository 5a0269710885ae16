package cask_test

import (
	"math/rand"
	"slices"
	"testing"

	"wormtub/api"
	"wormtub/cask"
)

// coming checks what Sources returns.
func coming(t *testing.T, l []api.CaskEvent, number, day int, want ...int) {
	t.Helper()
	if s, e := cask.Sources(l, number, day); !slices.Equal(s, want) || e != api.OK {
		t.Fatal(l, number, day, s, e, "want", want)
	}
}

// P6.3: the examples.
func TestSourcesExamples(t *testing.T) {
	coming(t, example(), 2, 140, 2)
	coming(t, example(), 2, 200, 2, 5)
	coming(t, example(), 2, 99)
	coming(t, example(), 1, 0, 2)
	coming(t, example(), 1, api.MaxDay, 2)
}

// P6.3: drops of a filling are in what goes and in what is left, until nothing is left.
func TestSources(t *testing.T) {
	l := []api.CaskEvent{
		newCask(0, 1, 0, 0, 99, 1), newCask(0, 2, 0, 0, 99, 1), newCask(0, 3, 0, 0, 99, 1),
		fill(1, 1, 5), fill(2, 2, 5), fill(3, 1, 1), // their indices are 3 to 5
		rack(4, 1, 2, 1), rack(5, 2, 3, 2), rack(6, 2, 3, 4), drain(7, 3, 1), drain(7, 1, 4),
		rack(8, 1, 3, 1), drain(9, 3, 6), fill(10, 3, 1), rack(11, 3, 1, 1),
	}
	all := []int{3, 4, 5}
	for day, want := range [][3][]int{
		{}, {{3}}, {{3}, {4}}, {{3, 5}, {4}}, {{3, 5}, all}, {{3, 5}, all, all}, {{3, 5}, nil, all},
		{{3, 5}, nil, all}, {nil, nil, all}, {}, {nil, nil, {13}}, {{13}},
	} {
		for i, fills := range want {
			coming(t, l, i+1, day, fills...)
		}
	}
}

// P6.3: fillings at each index that there can be.
func TestSourcesMany(t *testing.T) {
	l := []api.CaskEvent{newCask(0, 1, 0, 0, api.MaxAmount, 1), newCask(0, 2, 0, 0, api.MaxAmount, 1)}
	var want []int
	for len(l) < api.MaxCaskEvents-1 {
		want = append(want, len(l))
		l = append(l, fill(len(l), 1, 1))
	}
	l = append(l, rack(api.MaxCaskEvents, 1, 2, 7))
	coming(t, l, 1, api.MaxDay, want...)
	coming(t, l, 2, api.MaxDay, want...)
	coming(t, l, 2, api.MaxCaskEvents-1)
	l[api.MaxCaskEvents-1] = fill(api.MaxCaskEvents, 2, 7)
	coming(t, l, 2, api.MaxDay, api.MaxCaskEvents-1)
	coming(t, l, 1, 1000, want[:999]...)
}

// P6.3: ledgers of all kinds of events.
func TestSourcesAny(t *testing.T) {
	r := rand.New(rand.NewSource(3))
	count := map[int]int{}
	for range 2000 {
		l := anyLedger(r, 4+r.Intn(90))
		day := r.Intn(l[len(l)-1].Day + 5)
		m, e := rightPlay(l, day)
		if e != api.OK {
			t.Fatal(l, day, e)
		}
		for number, v := range m.casks {
			coming(t, l, number, day, v.sources()...)
			count[min(len(v.sources()), 5)]++
		}
	}
	for n := range 6 {
		if count[n] < 100 {
			t.Error("the ledgers do not show what they are to show", count)
		}
	}
}
