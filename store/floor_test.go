package store

import (
	"math"
	"math/rand/v2"
	"testing"

	"talik/api"
)

// P6.4 (Floor)

func TestFloorExample(t *testing.T) {
	if floor, e := Floor(town(), 0, goods{0, 10, 0}); e != api.OK || floor != 30 {
		t.Error(floor, e)
	}
	if floor, e := Floor(town(), 0, goods{5, 10, 0}); e != api.ErrRule || floor != 0 {
		t.Error(floor, e)
	}
}

func TestFloorEdges(t *testing.T) {
	ship := func(cost int, cargo goods) api.StoreShip { return api.StoreShip{Cost: cost, Cargo: cargo} }
	far := ship(5, goods{1, 1, 1})
	far.Week = 7
	for _, x := range []struct {
		name   string
		stock  goods
		ships  []api.StoreShip
		prices goods
		want   int
		e      api.Errno
	}{
		{"no prices", goods{}, []api.StoreShip{far}, goods{}, 0, api.OK},
		{"no ships", goods{}, nil, goods{7, 8, 9}, 10*7 + 20*8 + 30*9, api.OK},
		{"no ships, and the highest prices", goods{}, nil, goods{1000000, 1000000, 1000000}, 60000000, api.OK},
		{"each kind less what there is", goods{1, 2, 3}, nil, goods{100, 10, 1}, 900 + 180 + 27, api.OK},
		{"just enough of a kind", goods{10, 20, 29}, nil, goods{5, 5, 5}, 5, api.OK},
		{"more than enough of a kind", goods{500, 20, 29}, nil, goods{5, 5, 5}, 5, api.OK},
		{"more than enough of all", goods{11, 21, 31}, nil, goods{5, 5, 5}, 0, api.OK},
		{"more than enough, at prices that are not fair", goods{11, 21, 31}, []api.StoreShip{ship(4, goods{1, 0, 0})}, goods{5, 5, 5}, 0, api.ErrRule},
		{"just fair", goods{}, []api.StoreShip{ship(32, goods{1, 2, 3})}, goods{7, 5, 5}, 320, api.OK},
		{"just not fair", goods{}, []api.StoreShip{ship(31, goods{1, 2, 3})}, goods{7, 5, 5}, 0, api.ErrRule},
		{"fair for the second ship only", goods{}, []api.StoreShip{ship(6, goods{1, 0, 0}), ship(7, goods{1, 0, 0})}, goods{7, 0, 0}, 0, api.ErrRule},
		{"fair for the first ship only", goods{}, []api.StoreShip{ship(7, goods{1, 0, 0}), ship(6, goods{1, 0, 0})}, goods{7, 0, 0}, 0, api.ErrRule},
		{"fair for both ships", goods{}, []api.StoreShip{ship(7, goods{1, 0, 0}), ship(6, goods{0, 1, 0})}, goods{7, 6, 0}, 190, api.OK},
		{"a ship that never arrives counts", goods{}, []api.StoreShip{far}, goods{2, 2, 2}, 0, api.ErrRule},
		{"an empty ship that costs nothing", goods{}, []api.StoreShip{ship(0, goods{})}, goods{1, 1, 1}, 60, api.OK},
		{"a ship that costs nothing", goods{}, []api.StoreShip{ship(0, goods{0, 1, 0})}, goods{1, 0, 1}, 40, api.OK},
		{"a ship that costs nothing, at a price", goods{}, []api.StoreShip{ship(0, goods{0, 1, 0})}, goods{0, 1, 0}, 0, api.ErrRule},
		{"more than all ships can carry", goods{}, []api.StoreShip{ship(1, goods{1, 0, 0})}, goods{1, 0, 0}, 10, api.OK},
	} {
		s := port(1, "xx", x.ships...)
		s.Stock = x.stock
		s.Winters = [][]goods{needs(2, goods{1000, 1000, 1000}), {{4, 0, 30}, {6, 20, 0}}}
		if floor, e := Floor(s, 1, x.prices); e != x.e || floor != x.want {
			t.Error(x.name, floor, e)
		}
	}
}

func TestFloorTheMost(t *testing.T) {
	s := greatest()
	s.Ships, s.Stock = nil, goods{}
	if floor, e := Floor(s, 3, goods{1000000, 1000000, 1000000}); e != api.OK || floor != 3*30*1000*1000000 {
		t.Error(floor, e)
	}
	if floor, e := Floor(greatest(), 0, goods{1000000, 1000000, 1000000}); e != api.ErrRule || floor != 0 {
		t.Error(floor, e)
	}
	if floor, e := Floor(greatest(), 0, goods{300, 300, 400}); e != api.OK || floor != 29*1000*1000 {
		t.Error(floor, e)
	}
}

func TestFloorErrors(t *testing.T) {
	fails := func(name string, s api.Store, winter int, prices goods) {
		t.Helper()
		if floor, e := Floor(s, winter, prices); e != api.ErrArg || floor != 0 {
			t.Error(name, winter, prices, floor, e)
		}
	}
	bad := badStores()
	for _, name := range names(bad) {
		fails(name, bad[name], 0, goods{})
		fails(name, bad[name], 0, goods{1000000, 1000000, 1000000})
	}
	for _, n := range []int{-1, 1, 4, math.MinInt, math.MaxInt} {
		fails("winter", town(), n, goods{})
		fails("winter, and prices that are not fair", town(), n, goods{1000, 0, 0})
	}
	for _, n := range []int{-1, 1000001, math.MinInt, math.MaxInt} {
		for kind := range 3 {
			prices := goods{}
			prices[kind] = n
			fails("a price", town(), 0, prices)
		}
	}
}

// somePrices returns prices of which the greatest one can often be no higher.
func somePrices(r *rand.Rand, s api.Store) goods {
	prices := someGoods(r, goods{8, 8, 8})
	kind := r.IntN(3)
	for prices[kind] = 20; prices[kind] > 0 && !isFair(s, prices); prices[kind]-- {
	}
	return prices
}

// isFair reports whether prices are fair.
func isFair(s api.Store, prices goods) bool {
	for _, ship := range s.Ships {
		rest := ship.Cost
		for kind, units := range ship.Cargo {
			for range units {
				rest -= prices[kind]
			}
		}
		if rest < 0 {
			return false
		}
	}
	return true
}

func TestFloorUnitByUnit(t *testing.T) {
	r := source()
	fair, not := 0, 0
	for range 3000 {
		s := small(r)
		for i := range s.Ships {
			s.Ships[i].Cost = r.IntN(100)
		}
		winter, prices := r.IntN(len(s.Winters)), somePrices(r, s)
		want := 0
		there := s.Stock
		for _, need := range s.Winters[winter] {
			for kind, units := range need {
				for range units {
					if there[kind]--; there[kind] < 0 {
						want += prices[kind]
					}
				}
			}
		}
		floor, e := Floor(s, winter, prices)
		if !isFair(s, prices) {
			not++
			if e != api.ErrRule || floor != 0 {
				t.Fatal(s, winter, prices, floor, e)
			}
			continue
		}
		fair++
		if e != api.OK || floor != want {
			t.Fatal(s, winter, prices, floor, want, e)
		}
	}
	if fair < 500 || not < 500 {
		t.Error(fair, not)
	}
}

// TestNoPlanCostsLessThanAFloor compares the floors of all winters with what all plans that suffice cost.
func TestNoPlanCostsLessThanAFloor(t *testing.T) {
	r := source()
	higher, near := 0, 0
	for range 1500 {
		s := small(r)
		for i := range s.Ships {
			s.Ships[i].Cost = r.IntN(100)
		}
		best, lowest, e := Best(s)
		if e != api.OK {
			continue
		}
		for range 10 {
			prices := somePrices(r, s)
			for winter := range s.Winters {
				floor, e := Floor(s, winter, prices)
				if e != api.OK && e != api.ErrRule || floor > lowest || floor > 0 && best == 0 {
					t.Fatal(s, winter, prices, floor, lowest, e)
				}
				if floor > 0 {
					higher++
				}
				if floor > lowest/2 && floor > 0 {
					near++
				}
			}
		}
	}
	if higher < 300 || near < 30 {
		t.Error(higher, near)
	}
}

// TestAFloorCanBeTheCost has ships of which each unit costs the same, and of which just as many are needed.
func TestAFloorCanBeTheCost(t *testing.T) {
	s := bearing(api.StoreShip{Cargo: goods{4, 0, 0}, Cost: 12}, api.StoreShip{Cargo: goods{0, 4, 4}, Cost: 28})
	plan, lowest, e := Best(s)
	if e != api.OK || plan != 3 || lowest != 40 {
		t.Error(plan, lowest, e)
	}
	if floor, e := Floor(s, 0, goods{3, 2, 5}); e != api.OK || floor != 40 {
		t.Error(floor, e)
	}
}
