package store

import (
	"math"
	"slices"
	"testing"

	"talik/api"
)

// P6.1 (Check, Run)

func TestCheck(t *testing.T) {
	fine := map[string]api.Store{
		"the example":                  town(),
		"the least of all":             smallest(),
		"the most of all":              greatest(),
		"no ships":                     changed(town(), func(s *api.Store) { s.Ships = nil }),
		"a ship that comes too late":   changed(town(), func(s *api.Store) { s.Ships[0].Week = 7 }),
		"a full yard":                  changed(town(), func(s *api.Store) { s.Stock = s.Yard }),
		"no room":                      changed(town(), func(s *api.Store) { s.Stock, s.Yard = goods{}, goods{} }),
		"all weeks to land":            changed(town(), func(s *api.Store) { s.Land, s.Ices = 4, [][]bool{open("oxox")} }),
		"equal ices":                   changed(town(), func(s *api.Store) { s.Ices = slices.Repeat(s.Ices[:1], 4) }),
		"equal winters":                changed(town(), func(s *api.Store) { s.Winters = slices.Repeat(s.Winters, 4) }),
		"more is needed than the yard": changed(town(), func(s *api.Store) { s.Winters[0][0] = goods{1000, 1000, 1000} }),
	}
	for _, name := range names(fine) {
		if e := Check(fine[name]); e != api.OK {
			t.Error(name, e)
		}
	}
	bad := badStores()
	for _, name := range names(bad) {
		if e := Check(bad[name]); e != api.ErrArg {
			t.Error(name, e)
		}
	}
}

func TestRunExample(t *testing.T) {
	for _, x := range []struct {
		plan, ice int
		want      api.StoreTrace
	}{
		{2, 0, api.StoreTrace{
			Landed: []goods{{}, {2, 4, 1}, {}},
			Stocks: []goods{{1, 0, 0}, {2, 1, 0}, {1, 2, 1}, {0, 1, 0}},
			Lacks:  []goods{{}, {}, {}, {}},
		}},
		{1, 0, api.StoreTrace{
			Landed: []goods{{4, 2, 1}, {}, {}},
			Stocks: []goods{{5, 0, 0}, {4, 1, 1}, {3, 0, 1}, {2, 0, 0}},
			Lacks:  []goods{{}, {}, {}, {0, 1, 0}},
		}},
		// what the chapter says below its examples
		{1, 1, api.StoreTrace{
			Landed: []goods{{4, 2, 1}, {}, {}},
			Stocks: []goods{{1, 0, 0}, {4, 0, 0}, {3, 1, 1}, {2, 0, 0}},
			Lacks:  []goods{{}, {0, 1, 0}, {}, {}},
		}},
	} {
		if got, e := Run(town(), x.plan, x.ice, 0); e != api.OK || !equalTrace(got, x.want) {
			t.Error(x.plan, x.ice, got, e)
		}
	}
}

// TestLanding is of stores of which nothing is taken: what there is at the end of each week is what was landed.
func TestLanding(t *testing.T) {
	ship := func(week int, cargo goods) api.StoreShip { return api.StoreShip{Week: week, Cargo: cargo} }
	yard := func(s api.Store, stock, yard goods) api.Store {
		s.Stock, s.Yard = stock, yard
		return s
	}
	few := goods{3, 2, 1}
	for _, x := range []struct {
		name   string
		store  api.Store
		plan   int
		stocks []goods
	}{
		{"none is ordered", port(9, "oo", ship(0, few)), 0, []goods{{}, {}}},
		{"all at once", port(6, "oo", ship(0, few)), 1, []goods{few, few}},
		{"a ship that is not ordered", port(99, "o", ship(0, few), ship(0, goods{5, 5, 5})), 1, []goods{few}},
		{"kind by kind", port(4, "oo", ship(0, few)), 1, []goods{{3, 1, 0}, few}},
		{"a unit a week", port(1, "ooooooo", ship(0, few)), 1, []goods{{1}, {2}, {3}, {3, 1}, {3, 2}, few, few}},
		{"nothing a week", port(0, "oo", ship(0, few)), 1, []goods{{}, {}}},
		{"one after the other", port(5, "ooo", ship(0, few), ship(0, few)), 3, []goods{{3, 2}, {6, 3, 1}, {6, 4, 2}}},
		{"what is left of the rate", port(7, "oo", ship(0, few), ship(0, goods{0, 0, 9})), 3, []goods{{3, 2, 2}, {3, 2, 9}}},
		{"an empty ship in front", port(4, "oo", ship(0, goods{}), ship(0, few)), 3, []goods{{3, 1, 0}, few}},
		{"a later week", port(9, "ooo", ship(1, few)), 1, []goods{{}, few, few}},
		{"the last week", port(9, "ooo", ship(2, few)), 1, []goods{{}, {}, few}},
		{"after the last week", port(9, "ooo", ship(3, few)), 1, []goods{{}, {}, {}}},
		{"far after the last week", port(9, "ooo", ship(7, few)), 1, []goods{{}, {}, {}}},
		{"the ice opens later", port(9, "xox", ship(0, few)), 1, []goods{{}, few, few}},
		{"the ice is open earlier only", port(9, "oox", ship(2, few)), 1, []goods{{}, {}, {}}},
		{"the ice never opens", port(9, "xxx", ship(0, few)), 1, []goods{{}, {}, {}}},
		{"the ice closes while a ship is there", port(2, "oxxo", ship(0, few)), 1, []goods{{2}, {2}, {2}, {3, 1}}},
		{"the first to arrive, not the first number", port(2, "ooo", ship(1, goods{0, 0, 2}), ship(0, goods{4})), 3, []goods{{2}, {4}, {4, 0, 2}}},
		{"the first number, if both wait for the ice", port(2, "xooo", ship(1, goods{0, 0, 2}), ship(0, goods{4})), 3, []goods{{}, {0, 0, 2}, {2, 0, 2}, {4, 0, 2}}},
		{"the first number, not the first week", port(1, "xxoo", ship(2, goods{1}), ship(0, goods{0, 1}), ship(1, goods{0, 0, 1})), 7, []goods{{}, {}, {1}, {1, 1}}},
		{"three that arrive one by one", port(1, "oooo", ship(2, goods{0, 0, 1}), ship(1, goods{0, 1}), ship(0, goods{2})), 7, []goods{{1}, {2}, {2, 1}, {2, 1, 1}}},
		{"just room", yard(port(99, "o", ship(0, few)), goods{1, 1, 1}, goods{4, 3, 2}), 1, []goods{{4, 3, 2}}},
		{"no room", yard(port(99, "oo", ship(0, few)), goods{1, 1, 1}, goods{1, 1, 1}), 1, []goods{{1, 1, 1}, {1, 1, 1}}},
		{"no room for a kind", yard(port(3, "oo", ship(0, few)), goods{2}, goods{2, 9, 9}), 1, []goods{{2, 2, 1}, {2, 2, 1}}},
		{"room for a part of a kind", yard(port(3, "oo", ship(0, few)), goods{}, goods{2, 9, 9}), 1, []goods{{2, 1, 0}, {2, 2, 1}}},
		{"no room for the first ship, but for the next one", yard(port(3, "ooo", ship(0, goods{5}), ship(0, goods{5, 4})), goods{}, goods{4, 9, 9}), 3, []goods{{3}, {4, 2}, {4, 4}}},
	} {
		want := x.stocks[len(x.stocks)-1]
		got, e := Run(x.store, x.plan, 0, 0)
		if e != api.OK || !slices.Equal(got.Stocks, x.stocks) || !slices.Equal(got.Lacks, make([]goods, len(x.stocks))) {
			t.Error(x.name, got, e)
		}
		for _, landed := range got.Landed {
			want = minus(want, landed)
		}
		if want != x.store.Stock {
			t.Error(x.name, got)
		}
	}
}

// TestTheOrderStays has a ship in front that there is no room for: it is still the first one when there is, in the week 4.
func TestTheOrderStays(t *testing.T) {
	s := port(2, "ooooo", api.StoreShip{Cargo: goods{4}}, api.StoreShip{Cargo: goods{4, 3}}, api.StoreShip{Cargo: goods{4, 0, 3}})
	s.Yard = goods{1, 9, 9}
	s.Winters[0] = []goods{{}, {}, {}, {1}, {1}}
	want := api.StoreTrace{
		Landed: []goods{{2}, {0, 3}, {0, 0, 3}},
		Stocks: []goods{{1, 1}, {1, 3}, {1, 3, 2}, {0, 3, 3}, {0, 3, 3}},
		Lacks:  make([]goods, 5),
	}
	if got, e := Run(s, 7, 0, 0); e != api.OK || !equalTrace(got, want) {
		t.Error(got, e)
	}
}

func TestTaking(t *testing.T) {
	for _, x := range []struct {
		name   string
		stock  goods
		cargo  goods
		winter []goods
		stocks []goods
		lacks  []goods
	}{
		{"nothing is needed", goods{1, 2, 3}, goods{}, needs(2, goods{}), []goods{{1, 2, 3}, {1, 2, 3}}, needs(2, goods{})},
		{"just all", goods{2, 4, 6}, goods{}, needs(2, goods{1, 2, 3}), []goods{{1, 2, 3}, {}}, needs(2, goods{})},
		{"one too little of each", goods{2, 4, 6}, goods{}, []goods{{1, 2, 3}, {2, 3, 4}}, []goods{{1, 2, 3}, {}}, []goods{{}, {1, 1, 1}}},
		{"all there is is taken", goods{2, 0, 1}, goods{}, needs(2, goods{5, 0, 1}), []goods{{}, {}}, []goods{{3}, {5, 0, 1}}},
		{"one kind is not another one", goods{9, 0, 9}, goods{}, needs(2, goods{0, 1, 0}), []goods{{9, 0, 9}, {9, 0, 9}}, needs(2, goods{0, 1, 0})},
		{"what was lacking is not taken later", goods{}, goods{0, 0, 0}, []goods{{1}, {}}, []goods{{}, {}}, []goods{{1}, {}}},
		{"what is landed in the week", goods{}, goods{1, 1, 1}, []goods{{}, {1, 1, 1}}, []goods{{}, {}}, needs(2, goods{})},
		{"what is landed after the week", goods{}, goods{2, 2, 2}, needs(2, goods{1, 1, 1}), []goods{{}, {1, 1, 1}}, []goods{{1, 1, 1}, {}}},
	} {
		s := port(9, "oo", api.StoreShip{Week: 1, Cargo: x.cargo})
		s.Stock, s.Winters[0] = x.stock, x.winter
		if got, e := Run(s, 1, 0, 0); e != api.OK || !equalTrace(got, api.StoreTrace{Landed: []goods{x.cargo}, Stocks: x.stocks, Lacks: x.lacks}) {
			t.Error(x.name, got, e)
		}
	}
}

// TestRoomIsMadeAfterTheLanding: what is taken in a week makes room in the next one.
func TestRoomIsMadeAfterTheLanding(t *testing.T) {
	s := port(99, "ooo", api.StoreShip{Cargo: goods{9, 9, 9}})
	s.Stock, s.Yard = goods{2, 2, 2}, goods{3, 3, 3}
	s.Winters[0] = []goods{{3, 1, 0}, {0, 2, 4}, {9, 0, 0}}
	want := api.StoreTrace{
		Landed: []goods{{4, 4, 4}},
		Stocks: []goods{{0, 2, 3}, {3, 1, 0}, {0, 3, 3}},
		Lacks:  []goods{{}, {0, 0, 1}, {6, 0, 0}},
	}
	if got, e := Run(s, 1, 0, 0); e != api.OK || !equalTrace(got, want) {
		t.Error(got, e)
	}
}

// TestTheWeeksOfLandingEnd: what is still aboard goes home, and no ship comes any more.
func TestTheWeeksOfLandingEnd(t *testing.T) {
	s := port(2, "oooo", api.StoreShip{Cargo: goods{9}}, api.StoreShip{Week: 2, Cargo: goods{0, 9}})
	s.Land, s.Ices = 2, [][]bool{open("oo")}
	want := api.StoreTrace{
		Landed: []goods{{4}, {}},
		Stocks: []goods{{2}, {4}, {4}, {4}},
		Lacks:  make([]goods, 4),
	}
	if got, e := Run(s, 3, 0, 0); e != api.OK || !equalTrace(got, want) {
		t.Error(got, e)
	}
}

func TestRunTheBounds(t *testing.T) {
	all := goods{1000, 1000, 1000}
	got, e := Run(greatest(), 63, 3, 3)
	want := api.StoreTrace{Landed: make([]goods, 6), Stocks: make([]goods, 30), Lacks: needs(30, all)}
	want.Lacks[0], want.Lacks[7], want.Landed[0] = goods{}, goods{}, all
	if e != api.OK || !equalTrace(got, want) {
		t.Error(got, e)
	}
	got, e = Run(smallest(), 0, 0, 0)
	if want := (api.StoreTrace{Stocks: make([]goods, 1), Lacks: make([]goods, 1)}); e != api.OK || !equalTrace(got, want) {
		t.Error(got, e)
	}
}

func TestRunErrors(t *testing.T) {
	fails := func(name string, s api.Store, plan, ice, winter int) {
		t.Helper()
		if got, e := Run(s, plan, ice, winter); e != api.ErrArg || !equalTrace(got, api.StoreTrace{}) {
			t.Error(name, plan, ice, winter, got, e)
		}
	}
	bad := badStores()
	for _, name := range names(bad) {
		fails(name, bad[name], 0, 0, 0)
	}
	for _, n := range []int{-1, 8, 63, 64, math.MinInt, math.MaxInt} {
		fails("plan", town(), n, 0, 0)
		fails("ice", town(), 0, n, 0)
		fails("winter", town(), 0, 0, n)
	}
	fails("an ice more", town(), 0, 2, 0)
	fails("a winter more", town(), 0, 0, 1)
	fails("a ship of none", smallest(), 1, 0, 0)
	fails("a ship more than all", greatest(), 64, 0, 0)
}

func TestRunUnitByUnit(t *testing.T) {
	r := source()
	for range 3000 {
		s := small(r)
		plan, ice, winter := r.IntN(1<<len(s.Ships)), r.IntN(len(s.Ices)), r.IntN(len(s.Winters))
		want := slow{s}.run(plan, ice, winter)
		if got, e := Run(s, plan, ice, winter); e != api.OK || !equalTrace(got, want) {
			t.Fatal(s, plan, ice, winter, got, want, e)
		}
	}
	for range 300 {
		s := large(r)
		plan, ice, winter := r.IntN(64), r.IntN(4), r.IntN(4)
		want := slow{s}.run(plan, ice, winter)
		if got, e := Run(s, plan, ice, winter); e != api.OK || !equalTrace(got, want) {
			t.Fatal(s, plan, ice, winter, got, want, e)
		}
	}
}

// TestNothingIsLost follows what there was at first, and what was landed: it is what was taken, and what there is.
func TestNothingIsLost(t *testing.T) {
	r := source()
	full, slowly := 0, 0
	for i := range 2000 {
		s := small(r)
		if i%4 == 0 {
			s = large(r)
		}
		plan, ice, winter := r.IntN(1<<len(s.Ships)), r.IntN(len(s.Ices)), r.IntN(len(s.Winters))
		got, e := Run(s, plan, ice, winter)
		if e != api.OK || len(got.Landed) != len(s.Ships) || len(got.Stocks) != s.Weeks || len(got.Lacks) != s.Weeks {
			t.Fatal(s, plan, ice, winter, got, e)
		}
		there, landed := s.Stock, goods{}
		for week, stock := range got.Stocks {
			lacks := got.Lacks[week]
			taken := minus(s.Winters[winter][week], lacks)
			before := plus(stock, taken) // before anything was taken
			came := minus(before, there)
			rate := 0
			if week < s.Land && s.Ices[ice][week] {
				rate = s.Rate
			}
			if !noLess(goods{}, came, taken, lacks, stock) || !noLess(before, s.Yard) || whole(came) > rate {
				t.Fatal(s, plan, ice, winter, got, week)
			}
			for kind := range kinds {
				if lacks[kind] > 0 && stock[kind] > 0 {
					t.Fatal(s, plan, ice, winter, got, week)
				}
				if came[kind] > 0 && before[kind] == s.Yard[kind] {
					full++
				}
			}
			if rate > 0 && whole(came) == rate {
				slowly++
			}
			there, landed = stock, plus(landed, came)
		}
		for ship, g := range got.Landed {
			landed = minus(landed, g)
			if !noLess(goods{}, g) || !noLess(g, s.Ships[ship].Cargo) || plan&(1<<ship) == 0 && g != (goods{}) {
				t.Fatal(s, plan, ice, winter, got, ship)
			}
		}
		if landed != (goods{}) {
			t.Fatal(s, plan, ice, winter, got)
		}
	}
	if full < 300 || slowly < 300 {
		t.Error(full, slowly)
	}
}
