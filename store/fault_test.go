package store

import (
	"cmp"
	"math"
	"slices"
	"testing"

	"talik/api"
)

// P6.2 (Fault, First)

// fault returns a fault.
func fault(ice, winter, week, kind int) api.StoreFault {
	return api.StoreFault{Lacks: true, Ice: ice, Winter: winter, Week: week, Kind: kind}
}

// testLacks tests what is lacking with a plan, and what runs out first.
func testLacks(t *testing.T, name string, s api.Store, plan int, want api.StoreFault, week, kind int) {
	t.Helper()
	if got, e := Fault(s, plan); e != api.OK || got != want {
		t.Error(name, plan, got, e)
	}
	none := api.OK
	if !want.Lacks {
		none = api.ErrNone
	}
	if w, k, e := First(s, plan); e != none || w != week || k != kind {
		t.Error(name, plan, w, k, e)
	}
}

func TestFaultExample(t *testing.T) {
	testLacks(t, "none", town(), 0, fault(0, 0, 1, 1), 1, 1)
	testLacks(t, "the ship 0", town(), 1, fault(0, 0, 3, 1), 1, 1)
	testLacks(t, "the ship 1", town(), 2, api.StoreFault{}, 0, 0)
}

// winters returns a store without ships, with an amount at first, and with winters.
func winters(stock goods, list ...[]goods) api.Store {
	s := port(0, "xx")
	s.Stock, s.Weeks, s.Winters = stock, len(list[0]), list
	s.Land, s.Ices = 1, [][]bool{open("o")}
	return s
}

func TestFaultEdges(t *testing.T) {
	short := needs(4, goods{})
	at := func(week int, need goods) []goods {
		winter := slices.Clone(short)
		winter[week] = need
		return winter
	}
	for _, x := range []struct {
		name       string
		store      api.Store
		want       api.StoreFault
		week, kind int
	}{
		{"nothing is needed", winters(goods{}, short), api.StoreFault{}, 0, 0},
		{"just enough", winters(goods{3, 2, 1}, []goods{{1, 1, 1}, {2, 1, 0}}), api.StoreFault{}, 0, 0},
		{"one too little", winters(goods{3, 2, 1}, []goods{{1, 1, 1}, {2, 1, 1}}), fault(0, 0, 1, 2), 1, 2},
		{"the first week", winters(goods{}, at(0, goods{1, 0, 0})), fault(0, 0, 0, 0), 0, 0},
		{"the last week", winters(goods{}, at(3, goods{0, 0, 1})), fault(0, 0, 3, 2), 3, 2},
		{"all kinds", winters(goods{}, at(2, goods{1, 1, 1})), fault(0, 0, 2, 0), 2, 0},
		{"the first of two kinds", winters(goods{}, at(2, goods{0, 1, 9})), fault(0, 0, 2, 1), 2, 1},
		{"the first week, not the first kind", winters(goods{}, []goods{{0, 0, 1}, {1, 1, 1}}), fault(0, 0, 0, 2), 0, 2},
		{"the second winter", winters(goods{}, short, at(1, goods{0, 1, 0})), fault(0, 1, 1, 1), 1, 1},
		{"a later winter earlier", winters(goods{}, at(3, goods{1, 0, 0}), short, at(1, goods{0, 0, 1})), fault(0, 0, 3, 0), 1, 2},
		{"two winters in one week", winters(goods{}, at(2, goods{0, 0, 1}), at(2, goods{0, 1, 0}), at(2, goods{0, 1, 1})), fault(0, 0, 2, 2), 2, 1},
		{"the first kind in a later week", winters(goods{}, at(3, goods{1, 0, 0}), at(2, goods{0, 0, 1})), fault(0, 0, 3, 0), 2, 2},
	} {
		testLacks(t, x.name, x.store, 0, x.want, x.week, x.kind)
	}
}

// TestFaultOfIces has a ship that comes the later, the worse the ice is.
func TestFaultOfIces(t *testing.T) {
	ship := api.StoreShip{Cargo: goods{9, 9, 9}}
	ices := func(list ...string) api.Store {
		s := port(99, "oooo", ship)
		s.Stock = goods{1, 1, 2}
		s.Winters = [][]goods{{{}, {}, {0, 0, 3}, {}}, {{}, {0, 2, 0}, {2, 0, 0}, {}}}
		s.Ices = nil
		for _, ice := range list {
			s.Ices = append(s.Ices, open(ice))
		}
		return s
	}
	testLacks(t, "open", ices("oooo"), 1, api.StoreFault{}, 0, 0)
	testLacks(t, "open, and none comes", ices("oooo"), 0, fault(0, 0, 2, 2), 1, 1)
	testLacks(t, "in time", ices("oxxx", "xoxx"), 1, api.StoreFault{}, 0, 0)
	testLacks(t, "in the second ice, the second winter", ices("oxxx", "xxox"), 1, fault(1, 1, 1, 1), 1, 1)
	testLacks(t, "in the third ice, the first winter", ices("oxxx", "xoxx", "xxxo", "xxxx"), 1, fault(2, 0, 2, 2), 1, 1)
	testLacks(t, "closed", ices("xxxx", "oooo"), 1, fault(0, 0, 2, 2), 1, 1)
}

// TestAShipInTheWay has a ship that is ordered besides, and unloaded first.
func TestAShipInTheWay(t *testing.T) {
	s := port(2, "ooo", api.StoreShip{Cargo: goods{4}}, api.StoreShip{Cargo: goods{0, 2}})
	s.Winters[0] = []goods{{0, 1}, {0, 1}, {}}
	testLacks(t, "alone", s, 2, api.StoreFault{}, 0, 0)
	testLacks(t, "with another one", s, 3, fault(0, 0, 0, 1), 0, 1)
}

func TestFaultErrors(t *testing.T) {
	fails := func(name string, s api.Store, plan int) {
		t.Helper()
		if got, e := Fault(s, plan); e != api.ErrArg || got != (api.StoreFault{}) {
			t.Error(name, plan, got, e)
		}
		if week, kind, e := First(s, plan); e != api.ErrArg || week != 0 || kind != 0 {
			t.Error(name, plan, week, kind, e)
		}
	}
	bad := badStores()
	for _, name := range names(bad) {
		fails(name, bad[name], 0)
	}
	for _, n := range []int{-1, 8, 63, 64, math.MinInt, math.MaxInt} {
		fails("plan", town(), n)
	}
	fails("a ship of none", smallest(), 1)
	fails("a ship more than all", greatest(), 64)
}

// byTime compares what is lacking week by week, and then kind by kind.
func byTime(a, b api.StoreFault) int { return cmp.Or(a.Week-b.Week, a.Kind-b.Kind) }

func TestFaultOfAllThatIsLacking(t *testing.T) {
	r := source()
	suffice, other := 0, 0
	for i := range 2000 {
		s := small(r)
		if i%20 == 0 {
			s = large(r)
		}
		plan := r.IntN(1 << len(s.Ships))
		all := slow{s}.lacks(plan)
		if len(all) == 0 {
			suffice++
			testLacks(t, "nothing", s, plan, api.StoreFault{}, 0, 0)
			continue
		}
		first := slices.MinFunc(all, byTime)
		testLacks(t, "something", s, plan, all[0], first.Week, first.Kind)
		if byTime(first, all[0]) != 0 {
			other++
		}
		if t.Failed() {
			t.Fatal(s, plan, all)
		}
	}
	if suffice < 300 || other < 300 {
		t.Error(suffice, other)
	}
}

// TestNothingIsLackingBefore runs stores with all ices and in all winters.
func TestNothingIsLackingBefore(t *testing.T) {
	r := source()
	suffice := 0
	for range 1000 {
		s := small(r)
		plan := r.IntN(1 << len(s.Ships))
		week, kind, e := First(s, plan)
		if e == api.ErrNone {
			week, kind = s.Weeks, 0
			suffice++
		}
		found := e == api.ErrNone
		for ice := range s.Ices {
			for winter := range s.Winters {
				trace, e := Run(s, plan, ice, winter)
				if e != api.OK {
					t.Fatal(s, plan, e)
				}
				for w, lacks := range trace.Lacks {
					for k, n := range lacks {
						if n > 0 && (w < week || w == week && k < kind) {
							t.Fatal(s, plan, ice, winter, week, kind, trace)
						}
						found = found || n > 0 && w == week && k == kind
					}
				}
			}
		}
		if !found {
			t.Fatal(s, plan, week, kind)
		}
	}
	if suffice < 200 {
		t.Error(suffice)
	}
}
