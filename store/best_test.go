package store

import (
	"slices"
	"testing"

	"talik/api"
)

// P6.3 (Best), and P0.6 as far as it is kept here

func TestBestExample(t *testing.T) {
	if plan, cost, e := Best(town()); e != api.OK || plan != 2 || cost != 40 {
		t.Error(plan, cost, e)
	}
}

// bearing returns a store that needs 4 of each kind in a week, and has ships in the week 0 with these cargoes and costs.
func bearing(ships ...api.StoreShip) api.Store {
	s := port(3000, "oo", ships...)
	s.Winters[0][1] = goods{4, 4, 4}
	return s
}

func TestBestEdges(t *testing.T) {
	ship := func(units, cost int) api.StoreShip {
		return api.StoreShip{Cargo: goods{units, units, units}, Cost: cost}
	}
	stocked := bearing(ship(4, 0), ship(9, 0))
	stocked.Stock = goods{4, 4, 4}
	late := ship(4, 1)
	late.Week = 2
	way := port(2, "ooo", api.StoreShip{Cargo: goods{4}, Cost: 1}, api.StoreShip{Cargo: goods{0, 2}, Cost: 1})
	way.Winters[0] = []goods{{0, 1}, {0, 1}, {2}}
	way.Stock = goods{2}
	both := changed(way, func(s *api.Store) { s.Stock = goods{} }) // needs both ships
	turned := changed(way, func(s *api.Store) { slices.Reverse(s.Ships); s.Stock = goods{} })
	for _, x := range []struct {
		name  string
		store api.Store
		plan  int
		cost  int
		e     api.Errno
	}{
		{"no ships, and nothing is needed", smallest(), 0, 0, api.OK},
		{"no ships, and something is", bearing(), 0, 0, api.ErrNone},
		{"enough at first", stocked, 0, 0, api.OK},
		{"just enough", bearing(ship(4, 7)), 1, 7, api.OK},
		{"one too little", bearing(ship(3, 7)), 0, 0, api.ErrNone},
		{"a ship that costs nothing", bearing(ship(4, 0)), 1, 0, api.OK},
		{"too late", bearing(late), 0, 0, api.ErrNone},
		{"too late, and in time", bearing(late, ship(4, 9)), 2, 9, api.OK},
		{"the cheapest one", bearing(ship(4, 3), ship(5, 2), ship(9, 3)), 2, 2, api.OK},
		{"the first one of those that cost the same", bearing(ship(3, 2), ship(9, 2), ship(4, 2), ship(5, 2)), 2, 2, api.OK},
		{"two that are cheaper than one", bearing(ship(2, 1), ship(9, 3), ship(2, 1)), 5, 2, api.OK},
		{"one that costs as much as two before it", bearing(ship(2, 1), ship(2, 1), ship(9, 2)), 3, 2, api.OK},
		{"one that costs as much as two behind it", bearing(ship(9, 2), ship(2, 1), ship(2, 1)), 1, 2, api.OK},
		{"the least number, not the fewest ships", bearing(ship(1, 0), ship(3, 1), ship(4, 1)), 3, 1, api.OK},
		{"the least number, not the first ship", bearing(ship(2, 1), ship(1, 0), ship(2, 0), ship(1, 0), ship(2, 1)), 14, 0, api.OK},
		{"all ships", bearing(ship(1, 5), ship(1, 6), ship(1, 7), ship(1, 8)), 15, 26, api.OK},
		{"all but one", bearing(ship(1, 5), ship(1, 6), ship(1, 7), ship(1, 8), ship(1, 4)), 23, 22, api.OK},
		{"all six, at the highest cost", bearing(slices.Repeat([]api.StoreShip{{Cargo: goods{1, 1, 1}, Cost: 1000000}}, 6)...), 15, 4000000, api.OK},
		{"a ship is in the way of another one", way, 2, 1, api.OK},
		{"the first ship is in the way of the other one", both, 0, 0, api.ErrNone},
		{"the first ship is not in the way of the other one", turned, 3, 2, api.OK},
		{"too much is needed", greatest(), 0, 0, api.ErrNone},
	} {
		if plan, cost, e := Best(x.store); e != x.e || plan != x.plan || cost != x.cost {
			t.Error(x.name, plan, cost, e)
		}
	}
}

func TestBestForAllIcesAndWinters(t *testing.T) {
	s := port(100, "oooo",
		api.StoreShip{Week: 1, Cargo: goods{5, 0, 0}, Cost: 1}, // in time with an open ice
		api.StoreShip{Week: 0, Cargo: goods{5, 0, 0}, Cost: 2}, // in time with both ices
		api.StoreShip{Week: 0, Cargo: goods{0, 0, 5}, Cost: 3}) // for the second winter
	fuel := []goods{{}, {5}, {}, {}}
	others := []goods{{}, {}, {}, {0, 0, 5}}
	s.Winters[0] = fuel
	hard := open("oxoo")
	for _, x := range []struct {
		name    string
		ices    [][]bool
		winters [][]goods
		plan    int
		cost    int
		e       api.Errno
	}{
		{"open", [][]bool{open("oooo")}, [][]goods{fuel}, 1, 1, api.OK},
		{"hard", [][]bool{hard}, [][]goods{fuel}, 2, 2, api.OK},
		{"one or the other", [][]bool{open("oooo"), hard}, [][]goods{fuel}, 2, 2, api.OK},
		{"one or the other, turned", [][]bool{hard, open("oooo")}, [][]goods{fuel}, 2, 2, api.OK},
		{"the other winter", [][]bool{hard}, [][]goods{others}, 4, 3, api.OK},
		{"both winters", [][]bool{open("oooo")}, [][]goods{fuel, others}, 5, 4, api.OK},
		{"all", [][]bool{open("oooo"), hard}, [][]goods{others, fuel, fuel}, 6, 5, api.OK},
		{"closed", [][]bool{open("oooo"), hard, open("xxoo")}, [][]goods{others, fuel}, 0, 0, api.ErrNone},
	} {
		s.Ices, s.Winters = x.ices, x.winters
		if plan, cost, e := Best(s); e != x.e || plan != x.plan || cost != x.cost {
			t.Error(x.name, plan, cost, e)
		}
	}
}

func TestBestErrors(t *testing.T) {
	bad := badStores()
	for _, name := range names(bad) {
		if plan, cost, e := Best(bad[name]); e != api.ErrArg || plan != 0 || cost != 0 {
			t.Error(name, plan, cost, e)
		}
	}
}

func TestBestOfAllPlans(t *testing.T) {
	r := source()
	none, several, some := 0, 0, 0
	for i := range 1500 {
		s := small(r)
		if i%30 == 0 {
			s = large(r)
		}
		all := slow{s}.sufficing()
		best, lowest, e := Best(s)
		if len(all) == 0 {
			none++
			if e != api.ErrNone || best != 0 || lowest != 0 {
				t.Fatal(s, best, lowest, e)
			}
			continue
		}
		want := slices.MinFunc(all, func(a, b int) int { return cost(s, a) - cost(s, b) })
		if e != api.OK || best != want || lowest != cost(s, want) {
			t.Fatal(s, best, lowest, want, e)
		}
		if len(all) > 1 {
			several++
		}
		if best != 0 {
			some++
		}
	}
	if none < 100 || several < 100 || some < 100 {
		t.Error(none, several, some)
	}
}

// TestNoPlanThatSufficesIsCheaper proposes all plans, and looks at what the best one lands.
func TestNoPlanThatSufficesIsCheaper(t *testing.T) {
	r := source()
	found, worse := 0, 0
	for range 500 {
		s := small(r)
		best, lowest, bestE := Best(s)
		if bestE == api.OK {
			found++
			mustSuffice(t, s, best)
		}
		for plan := range 1 << len(s.Ships) {
			got, e := Fault(s, plan)
			if e != api.OK {
				t.Fatal(s, plan, e)
			}
			c := cost(s, plan)
			if !got.Lacks && (bestE != api.OK || c < lowest || c == lowest && plan < best) || plan == best && c != lowest {
				t.Fatal(s, plan, best, lowest, bestE)
			}
			if got.Lacks && bestE == api.OK && plan&best == best {
				worse++ // more ships than the best ones
			}
		}
	}
	if found < 100 || worse < 10 {
		t.Error(found, worse)
	}
}

// mustSuffice runs a store with all ices and in all winters.
func mustSuffice(t *testing.T, s api.Store, plan int) {
	t.Helper()
	for ice := range s.Ices {
		for winter := range s.Winters {
			trace, e := Run(s, plan, ice, winter)
			if e != api.OK || !slices.Equal(trace.Lacks, make([]goods, s.Weeks)) {
				t.Fatal(s, plan, ice, winter, trace, e)
			}
		}
	}
}
