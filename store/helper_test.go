package store

import (
	"math/rand/v2"
	"slices"

	"talik/api"
)

type goods = api.StoreGoods

// source returns a source of numbers that are the same in each run.
func source() *rand.Rand { return rand.New(rand.NewPCG(1, 2)) }

// town returns the store s of the chapter's examples.
func town() api.Store {
	return api.Store{
		Stock: goods{2, 1, 0},
		Yard:  goods{10, 8, 5},
		Rate:  4,
		Weeks: 4,
		Land:  3,
		Ships: []api.StoreShip{
			{Week: 0, Cargo: goods{4, 2, 1}, Cost: 50},
			{Week: 1, Cargo: goods{2, 4, 1}, Cost: 40},
			{Week: 0, Cargo: goods{6, 6, 3}, Cost: 100},
		},
		Ices:    [][]bool{{true, true, true}, {false, true, true}},
		Winters: [][]goods{{{1, 1, 0}, {1, 1, 0}, {1, 1, 0}, {1, 1, 1}}},
	}
}

// open returns an ice of some weeks, of which it is open in those with an o.
func open(weeks string) []bool {
	var ice []bool
	for _, c := range weeks {
		ice = append(ice, c == 'o')
	}
	return ice
}

// needs returns a winter of so many weeks, in each of which the same is needed.
func needs(weeks int, each goods) []goods { return slices.Repeat([]goods{each}, weeks) }

// port returns a store of which nothing is needed, with room for all, where ships can be unloaded in all weeks of an ice.
func port(rate int, weeks string, ships ...api.StoreShip) api.Store {
	return api.Store{
		Yard:    goods{1000, 1000, 1000},
		Rate:    rate,
		Weeks:   len(weeks),
		Land:    len(weeks),
		Ships:   ships,
		Ices:    [][]bool{open(weeks)},
		Winters: [][]goods{needs(len(weeks), goods{})},
	}
}

// greatest returns a store with the most of all.
func greatest() api.Store {
	all := goods{1000, 1000, 1000}
	return api.Store{
		Stock:   all,
		Yard:    all,
		Rate:    3000,
		Weeks:   30,
		Land:    8,
		Ships:   slices.Repeat([]api.StoreShip{{Week: 7, Cargo: all, Cost: 1000000}}, 6),
		Ices:    slices.Repeat([][]bool{open("oooooooo")}, 4),
		Winters: slices.Repeat([][]goods{needs(30, all)}, 4),
	}
}

// smallest returns a store with the least of all.
func smallest() api.Store {
	return api.Store{Weeks: 1, Land: 1, Ices: [][]bool{{false}}, Winters: [][]goods{{{}}}}
}

func cloneStore(s api.Store) api.Store {
	s.Ships = slices.Clone(s.Ships)
	s.Ices, s.Winters = slices.Clone(s.Ices), slices.Clone(s.Winters)
	for i, ice := range s.Ices {
		s.Ices[i] = slices.Clone(ice)
	}
	for i, winter := range s.Winters {
		s.Winters[i] = slices.Clone(winter)
	}
	return s
}

// changed returns a store after something was done to a copy of it.
func changed(s api.Store, do func(s *api.Store)) api.Store {
	s = cloneStore(s)
	do(&s)
	return s
}

func equalTrace(a, b api.StoreTrace) bool {
	return slices.Equal(a.Landed, b.Landed) && slices.Equal(a.Stocks, b.Stocks) && slices.Equal(a.Lacks, b.Lacks)
}

// badStores returns stores that are not as defined, each for one reason.
func badStores() map[string]api.Store {
	all := map[string]api.Store{"nothing": {}}
	change := func(name string, do func(s *api.Store)) { all[name] = changed(town(), do) }
	for kind, name := range []string{"fuel", "food", "others"} {
		change("stock -1: "+name, func(s *api.Store) { s.Stock[kind] = -1 })
		change("stock 1001: "+name, func(s *api.Store) { s.Stock[kind], s.Yard[kind] = 1001, 1001 })
		change("more than the yard: "+name, func(s *api.Store) { s.Stock[kind] = s.Yard[kind] + 1 })
		change("yard -1: "+name, func(s *api.Store) { s.Stock[kind], s.Yard[kind] = 0, -1 })
		change("yard 1001: "+name, func(s *api.Store) { s.Yard[kind] = 1001 })
		change("cargo -1: "+name, func(s *api.Store) { s.Ships[0].Cargo[kind] = -1 })
		change("cargo 1001: "+name, func(s *api.Store) { s.Ships[2].Cargo[kind] = 1001 })
		change("need -1: "+name, func(s *api.Store) { s.Winters[0][3][kind] = -1 })
		change("need 1001: "+name, func(s *api.Store) { s.Winters[0][0][kind] = 1001 })
	}
	change("rate -1", func(s *api.Store) { s.Rate = -1 })
	change("rate 3001", func(s *api.Store) { s.Rate = 3001 })
	change("weeks -1", func(s *api.Store) { s.Weeks = -1 })
	change("no weeks", func(s *api.Store) { s.Weeks, s.Land = 0, 0; s.Ices, s.Winters = [][]bool{{}}, [][]goods{{}} })
	change("31 weeks", func(s *api.Store) { s.Weeks, s.Winters = 31, [][]goods{needs(31, goods{})} })
	change("land -1", func(s *api.Store) { s.Land = -1 })
	change("no weeks to land", func(s *api.Store) { s.Land, s.Ices = 0, [][]bool{{}} })
	change("9 weeks to land", func(s *api.Store) {
		s.Weeks, s.Land = 9, 9
		s.Ices, s.Winters = [][]bool{open("ooooooooo")}, [][]goods{needs(9, goods{})}
	})
	change("more weeks to land", func(s *api.Store) { s.Land, s.Ices = 5, [][]bool{open("ooooo")} })
	change("7 ships", func(s *api.Store) { s.Ships = make([]api.StoreShip, 7) })
	change("week -1", func(s *api.Store) { s.Ships[0].Week = -1 })
	change("week 8", func(s *api.Store) { s.Ships[2].Week = 8 })
	change("cost -1", func(s *api.Store) { s.Ships[0].Cost = -1 })
	change("cost 1000001", func(s *api.Store) { s.Ships[2].Cost = 1000001 })
	change("no ices", func(s *api.Store) { s.Ices = nil })
	change("5 ices", func(s *api.Store) { s.Ices = slices.Repeat([][]bool{open("ooo")}, 5) })
	change("a short ice", func(s *api.Store) { s.Ices[1] = open("oo") })
	change("a long ice", func(s *api.Store) { s.Ices[0] = open("oooo") })
	change("an empty ice", func(s *api.Store) { s.Ices[0] = nil })
	change("no winters", func(s *api.Store) { s.Winters = nil })
	change("5 winters", func(s *api.Store) { s.Winters = slices.Repeat([][]goods{needs(4, goods{})}, 5) })
	change("a short winter", func(s *api.Store) { s.Winters = append(s.Winters, needs(3, goods{})) })
	change("a long winter", func(s *api.Store) { s.Winters[0] = needs(5, goods{}) })
	change("an empty winter", func(s *api.Store) { s.Winters[0] = nil })
	return all
}

// names returns the names of some things in order.
func names[T any](things map[string]T) []string {
	var all []string
	for name := range things {
		all = append(all, name)
	}
	slices.Sort(all)
	return all
}

// slow does what the chapter says, unit by unit.
type slow struct {
	api.Store
}

// ashore is a ship that has arrived, with what is aboard yet.
type ashore struct {
	ship   int
	aboard goods
}

func (s slow) run(plan, ice, winter int) api.StoreTrace {
	t := api.StoreTrace{Landed: make([]goods, len(s.Ships))}
	var here []ashore
	there := s.Stock
	for week, need := range s.Winters[winter] {
		if week < s.Land {
			here = append(here, s.come(plan, s.Ices[ice][:week+1])...)
		}
		for range s.Rate {
			if week >= s.Land || !s.Ices[ice][week] || !s.unit(&t, here, &there) {
				break
			}
		}
		var lacks goods
		for kind, units := range need {
			for range units {
				if there[kind] > 0 {
					there[kind]--
				} else {
					lacks[kind]++
				}
			}
		}
		t.Stocks, t.Lacks = append(t.Stocks, there), append(t.Lacks, lacks)
	}
	return t
}

// come returns the ships that arrive in the last of some weeks.
func (s slow) come(plan int, weeks []bool) []ashore {
	var come []ashore
	last := len(weeks) - 1
	for ship, x := range s.Ships {
		if plan&(1<<ship) != 0 && x.Week <= last && weeks[last] && !slices.Contains(weeks[x.Week:last], true) {
			come = append(come, ashore{ship, x.Cargo})
		}
	}
	return come
}

// unit lands the next unit, and reports whether there is one.
func (s slow) unit(t *api.StoreTrace, here []ashore, there *goods) bool {
	for i := range here {
		for kind := range there {
			if here[i].aboard[kind] > 0 && there[kind] < s.Yard[kind] {
				here[i].aboard[kind]--
				there[kind]++
				t.Landed[here[i].ship][kind]++
				return true
			}
		}
	}
	return false
}

// lacks returns what is lacking with a plan: all of it, ice by ice, winter by winter, week by week and kind by kind.
func (s slow) lacks(plan int) []api.StoreFault {
	var all []api.StoreFault
	for ice := range s.Ices {
		for winter := range s.Winters {
			for week, lacks := range s.run(plan, ice, winter).Lacks {
				for kind, n := range lacks {
					if n > 0 {
						all = append(all, api.StoreFault{Lacks: true, Ice: ice, Winter: winter, Week: week, Kind: kind})
					}
				}
			}
		}
	}
	return all
}

// sufficing returns all plans that suffice.
func (s slow) sufficing() []int {
	var all []int
	for plan := range 1 << len(s.Ships) {
		if len(s.lacks(plan)) == 0 {
			all = append(all, plan)
		}
	}
	return all
}

// cost returns what a plan costs.
func cost(s api.Store, plan int) int {
	whole := 0
	for ship, x := range s.Ships {
		if plan&(1<<ship) != 0 {
			whole += x.Cost
		}
	}
	return whole
}

// someGoods returns an amount up to some one.
func someGoods(r *rand.Rand, most goods) goods {
	var g goods
	for kind := range g {
		g[kind] = r.IntN(most[kind] + 1)
	}
	return g
}

func plus(a, b goods) goods { return goods{a[0] + b[0], a[1] + b[1], a[2] + b[2]} }

func minus(a, b goods) goods { return goods{a[0] - b[0], a[1] - b[1], a[2] - b[2]} }

// noLess reports whether there is no less of any kind of all others than of the first goods.
func noLess(than goods, others ...goods) bool {
	for _, g := range others {
		if g[0] < than[0] || g[1] < than[1] || g[2] < than[2] {
			return false
		}
	}
	return true
}

func whole(g goods) int { return g[0] + g[1] + g[2] }

// small returns a store with few of all, of which some plan often suffices.
func small(r *rand.Rand) api.Store {
	s := api.Store{Stock: someGoods(r, goods{6, 6, 6}), Rate: r.IntN(16), Weeks: 1 + r.IntN(9)}
	s.Yard = plus(s.Stock, someGoods(r, goods{15, 15, 15}))
	s.Land = 1 + r.IntN(min(s.Weeks, api.StoreLand))
	for range r.IntN(api.StoreShips + 1) {
		ship := api.StoreShip{Week: min(7, r.IntN(s.Land+1)), Cargo: someGoods(r, goods{9, 9, 9}), Cost: r.IntN(9)}
		s.Ships = append(s.Ships, ship)
	}
	for range 1 + r.IntN(api.StoreIces) {
		s.Ices = append(s.Ices, someIce(r, s.Land))
	}
	for range 1 + r.IntN(api.StoreWinters) {
		s.Winters = append(s.Winters, someWinter(r, s.Weeks))
	}
	return s
}

func someIce(r *rand.Rand, weeks int) []bool {
	var ice []bool
	for range weeks {
		ice = append(ice, r.IntN(4) > 0)
	}
	return ice
}

// someWinter returns a winter in which not much is needed.
func someWinter(r *rand.Rand, weeks int) []goods {
	var winter []goods
	for range weeks {
		winter = append(winter, someGoods(r, goods{r.IntN(3), r.IntN(3), r.IntN(2)}))
	}
	return winter
}

// large returns a store with up to as many of all as is allowed.
func large(r *rand.Rand) api.Store {
	s := api.Store{Yard: someGoods(r, goods{1000, 1000, 1000}), Rate: r.IntN([]int{100, 1000, 3001}[r.IntN(3)]), Weeks: 8 + r.IntN(23), Land: 1 + r.IntN(8)}
	s.Stock = someGoods(r, s.Yard)
	for range api.StoreShips {
		s.Ships = append(s.Ships, api.StoreShip{Week: r.IntN(8), Cargo: someGoods(r, goods{1000, 1000, 1000}), Cost: r.IntN(1000001)})
	}
	for range api.StoreIces {
		s.Ices = append(s.Ices, someIce(r, s.Land))
	}
	most := []int{5, 50, 1000}[r.IntN(3)]
	for range api.StoreWinters {
		var winter []goods
		for range s.Weeks {
			winter = append(winter, someGoods(r, goods{most, most, most}))
		}
		s.Winters = append(s.Winters, winter)
	}
	return s
}
