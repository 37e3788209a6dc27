package cool

import (
	"slices"
	"testing"

	"talik/api"
)

// P3.3 (Best, Floor), and P0.3 as far as it is kept here

func TestBestExample(t *testing.T) {
	for fails, x := range []struct {
		best []int
		cost int
		e    api.Errno
	}{
		{[]int{1, 3}, 950, api.OK},
		{[]int{0, 1, 2, 3}, 1650, api.OK},
		{nil, 0, api.ErrNone},
		{nil, 0, api.ErrNone},
	} {
		if best, cost, e := Best(town(), fails); e != x.e || !slices.Equal(best, x.best) || cost != x.cost {
			t.Error(fails, best, cost, e)
		}
	}
}

func TestFloorExample(t *testing.T) {
	for fails, x := range []struct {
		floor int
		e     api.Errno
	}{{2, api.OK}, {3, api.OK}, {0, api.ErrNone}, {0, api.ErrNone}} {
		if floor, e := Floor(town(), fails); e != x.e || floor != x.floor {
			t.Error(fails, floor, e)
		}
	}
}

// priced returns a town with one house, whose sites cost this.
func priced(t api.CoolTown, costs ...int) api.CoolTown {
	for site, cost := range costs {
		t.Sites[site].Cost = cost
	}
	return t
}

func TestBestEdges(t *testing.T) {
	apart := api.CoolTown{ // each of the sites 0 to 2 is for one house, the site 3 for all
		Houses: slices.Repeat([]api.CoolHouse{{Need: sp(5, 10)}}, 3),
		Sites: []api.CoolSite{
			{Cost: 3, Weeks: 1, Gives: []api.Span{sp(10, 10), sp(0, 9), sp(0, 9)}},
			{Cost: 3, Weeks: 1, Gives: []api.Span{sp(0, 9), sp(10, 10), sp(0, 9)}},
			{Cost: 3, Weeks: 1, Gives: []api.Span{sp(0, 9), sp(0, 9), sp(10, 10)}},
			{Cost: 9, Weeks: 1, Gives: []api.Span{sp(10, 10), sp(10, 10), sp(10, 10)}},
		},
	}
	dear := cloneTown(apart)
	dear.Sites[3].Cost = 10
	for _, x := range []struct {
		name  string
		town  api.CoolTown
		fails int
		best  []int
		cost  int
		floor int
		e     api.Errno
	}{
		{"no cold is needed", even(0, 5), 3, nil, 0, 0, api.OK},
		{"no cold is needed, and it costs nothing", priced(even(0, 5), 0), 0, nil, 0, 0, api.OK},
		{"just enough", even(5, 5), 0, []int{0}, 1, 1, api.OK},
		{"just too little", even(6, 5), 0, nil, 0, 0, api.ErrNone},
		{"one may fail", even(5, 5), 1, nil, 0, 0, api.ErrNone},
		{"one of two may fail", even(5, 5, 5), 1, []int{0, 1}, 2, 2, api.OK},
		{"the first one of those that are as good", even(5, 4, 5, 5, 6), 0, []int{1}, 1, 1, api.OK},
		{"the first two in order", even(8, 5, 3, 3, 5), 0, []int{0, 1}, 2, 2, api.OK},
		{"the first two in order, not those with the least last one", even(8, 1, 4, 4, 7), 0, []int{0, 3}, 2, 2, api.OK},
		{"two that are cheaper than one", priced(even(8, 4, 4, 8), 1, 1, 3), 0, []int{0, 1}, 2, 1, api.OK},
		{"one that is as cheap as two before it", priced(even(8, 4, 4, 8), 1, 1, 2), 0, []int{2}, 2, 1, api.OK},
		{"nothing that is not needed, though it costs nothing", priced(even(8, 4, 9, 9), 0, 0, 0), 0, []int{1}, 0, 1, api.OK},
		{"weak ones that cost nothing", priced(even(8, 4, 9, 4), 0, 1, 0), 0, []int{0, 2}, 0, 1, api.OK},
		{"a number for all houses", apart, 0, []int{3}, 9, 1, api.OK},
		{"a site for each house", dear, 0, []int{0, 1, 2}, 9, 1, api.OK},
		{"all sites", apart, 1, []int{0, 1, 2, 3}, 18, 2, api.OK},
		{"one house too many", api.CoolTown{Houses: append(slices.Clone(even(4, 4).Houses), api.CoolHouse{Need: sp(0, 1)}), Sites: []api.CoolSite{{Weeks: 1, Gives: []api.Span{sp(4, 4), sp(0, 9)}}}}, 0, nil, 0, 0, api.ErrNone},
		{"the greatest town", greatest(), 3, []int{0, 1, 2, 3}, 4 * api.CoolCost, 4, api.OK},
	} {
		if best, cost, e := Best(x.town, x.fails); e != x.e || !slices.Equal(best, x.best) || cost != x.cost {
			t.Error(x.name, best, cost, e)
		}
		if floor, e := Floor(x.town, x.fails); e != x.e || floor != x.floor {
			t.Error(x.name, floor, e)
		}
	}
}

func TestFloorCountsHousesAlone(t *testing.T) {
	// each house is kept by a site of its own, so that more coolers are bought than the floor says
	c := api.CoolTown{
		Houses: slices.Repeat([]api.CoolHouse{{Need: sp(1, 1)}}, 2),
		Sites: []api.CoolSite{
			{Weeks: 1, Gives: []api.Span{sp(1, 1), sp(0, 0)}},
			{Weeks: 1, Gives: []api.Span{sp(0, 0), sp(1, 1)}},
		},
	}
	best, _, e := Best(c, 0)
	if e != api.OK || !slices.Equal(best, []int{0, 1}) {
		t.Error(best, e)
	}
	if floor, e := Floor(c, 0); e != api.OK || floor != 1 {
		t.Error(floor, e)
	}
}

func TestBestOfAllCoolers(t *testing.T) {
	r := source()
	found, none := 0, 0
	for range 600 {
		s := someSlow(r, 6)
		fails := r.IntN(api.CoolFails + 1)
		want, is := s.best(fails)
		best, cost, e := Best(s.CoolTown, fails)
		if !is {
			none++
			if e != api.ErrNone || best != nil || cost != 0 {
				t.Fatal(s.CoolTown, fails, best, cost, e)
			}
			continue
		}
		found++
		if e != api.OK || !slices.Equal(best, want) || cost != s.cost(want) {
			t.Fatal(s.CoolTown, fails, best, cost, want, e)
		}
	}
	if found < 100 || none < 100 {
		t.Error(found, none)
	}
}

func TestFloorOfAllSites(t *testing.T) {
	r := source()
	found, none := 0, 0
	for range 300 {
		s := someSlow(r, 6)
		fails := r.IntN(api.CoolFails + 1)
		want, is := s.floor(fails)
		floor, e := Floor(s.CoolTown, fails)
		if !is {
			none++
			if e != api.ErrNone || floor != 0 {
				t.Fatal(s.CoolTown, fails, floor, e)
			}
			continue
		}
		found++
		if e != api.OK || floor != want {
			t.Fatal(s.CoolTown, fails, floor, want, e)
		}
	}
	if found < 50 || none < 50 {
		t.Error(found, none)
	}
}

func TestNoCoolersThatKeepAreBetter(t *testing.T) {
	r := source()
	found, none := 0, 0
	for range 30 {
		c := large(r, api.CoolHouses, api.CoolSites)
		fails := r.IntN(3)
		best, cost, bestE := Best(c, fails)
		floor, floorE := Floor(c, fails)
		if bestE == api.OK {
			found++
			if keeps, e := Keeps(c, best, fails); e != api.OK || !keeps || floorE != api.OK || len(best) < floor {
				t.Fatal(c, fails, best, floor, keeps, e)
			}
		} else {
			none++
		}
		first := true
		for _, coolers := range lists(api.CoolSites) { // of those that cost the same, the first ones are the best
			keeps, e := Keeps(c, coolers, fails)
			if e != api.OK || keeps && bestE != api.OK || keeps && len(coolers) < floor {
				t.Fatal(c, fails, coolers, keeps, bestE, floor, e)
			}
			price := (slow{c, ends}).cost(coolers)
			if keeps && price < cost || keeps && price == cost && first != slices.Equal(coolers, best) {
				t.Fatal(c, fails, coolers, price, best, cost)
			}
			first = first && (!keeps || price > cost)
		}
	}
	if found < 5 || none < 2 {
		t.Error(found, none)
	}
}

func TestBestCoolersKeepInTruth(t *testing.T) {
	r := source()
	for range 300 {
		c := large(r, 1+r.IntN(api.CoolHouses), 4+r.IntN(api.CoolSites-3))
		fails := r.IntN(api.CoolFails + 1)
		best, _, e := Best(c, fails)
		if e != api.OK {
			continue
		}
		for range 50 {
			gone := shuffled(r, best)
			gone = gone[:min(len(gone), fails)]
			for _, x := range []api.CoolTruth{someTruth(r, c), worst(c)} {
				if more, e := Play(c, minus(best, gone), x); e != api.OK || slices.Min(more) < 0 {
					t.Fatal(c, fails, best, gone, x, more, e)
				}
			}
		}
	}
}

func TestBestAndFloorErrors(t *testing.T) {
	fails := func(name string, c api.CoolTown, fails int) {
		if best, cost, e := Best(c, fails); best != nil || cost != 0 || e != api.ErrArg {
			t.Error(name, best, cost, e)
		}
		if floor, e := Floor(c, fails); floor != 0 || e != api.ErrArg {
			t.Error(name, floor, e)
		}
	}
	for name, c := range badTowns() {
		fails(name, c, 0)
	}
	for _, n := range []int{-1, 4, -1 << 63, 1<<63 - 1} {
		fails("failures", town(), n)
		fails("failures of a town without a need", even(0, 1), n)
	}
}
