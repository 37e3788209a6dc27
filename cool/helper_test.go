package cool

import (
	"iter"
	"math/rand/v2"
	"slices"

	"talik/api"
)

func sp(low, high int) api.Span { return api.Span{Low: low, High: high} }

// source returns a source of numbers that are the same in each run.
func source() *rand.Rand { return rand.New(rand.NewPCG(1, 2)) }

// town returns the town t of the chapter's examples.
func town() api.CoolTown {
	return api.CoolTown{
		Houses: []api.CoolHouse{
			{Need: sp(80, 100), Grace: 3},
			{Need: sp(50, 60), Grace: 5},
		},
		Sites: []api.CoolSite{
			{Cost: 300, Weeks: 2, Gives: []api.Span{sp(60, 70), sp(0, 0)}},
			{Cost: 500, Weeks: 3, Gives: []api.Span{sp(50, 60), sp(40, 50)}},
			{Cost: 400, Weeks: 1, Gives: []api.Span{sp(0, 0), sp(60, 80)}},
			{Cost: 450, Weeks: 4, Gives: []api.Span{sp(50, 55), sp(30, 35)}},
		},
	}
}

// truth returns what is true in the chapter's example; what the sites 0 and 2 give does not matter there.
func truth() api.CoolTruth {
	return api.CoolTruth{
		Needs: []int{90, 55},
		Gives: [][]int{{65, 0}, {55, 45}, {0, 70}, {50, 35}},
	}
}

// even returns a town with one house that needs some cold, and with sites that give it some cold each, and cost 1 each.
func even(need int, colds ...int) api.CoolTown {
	t := api.CoolTown{Houses: []api.CoolHouse{{Need: sp(0, need)}}}
	for _, cold := range colds {
		t.Sites = append(t.Sites, api.CoolSite{Cost: 1, Weeks: 1, Gives: []api.Span{sp(cold, cold+1)}})
	}
	return t
}

// greatest returns a town with as many houses and sites as are allowed, and with the greatest numbers.
func greatest() api.CoolTown {
	all := sp(api.CoolCold, api.CoolCold)
	return cloneTown(api.CoolTown{
		Houses: slices.Repeat([]api.CoolHouse{{Need: all, Grace: api.CoolWeeks}}, api.CoolHouses),
		Sites:  slices.Repeat([]api.CoolSite{{Cost: api.CoolCost, Weeks: api.CoolWeeks, Gives: slices.Repeat([]api.Span{all}, api.CoolHouses)}}, api.CoolSites),
	})
}

func cloneTown(t api.CoolTown) api.CoolTown {
	t.Houses, t.Sites = slices.Clone(t.Houses), slices.Clone(t.Sites)
	for i := range t.Sites {
		t.Sites[i].Gives = slices.Clone(t.Sites[i].Gives)
	}
	return t
}

// badTowns returns towns that are not as defined, each for one reason.
func badTowns() map[string]api.CoolTown {
	towns := map[string]api.CoolTown{}
	change := func(name string, do func(t *api.CoolTown)) {
		t := town()
		do(&t)
		towns[name] = t
	}
	gives := func(t *api.CoolTown, many int) {
		for i := range t.Sites {
			t.Sites[i].Gives = slices.Repeat([]api.Span{sp(1, 2)}, many)
		}
	}
	change("nothing", func(t *api.CoolTown) { *t = api.CoolTown{} })
	change("no houses", func(t *api.CoolTown) { t.Houses = nil; gives(t, 0) })
	change("7 houses", func(t *api.CoolTown) { t.Houses = slices.Repeat(t.Houses[:1], 7); gives(t, 7) })
	change("no sites", func(t *api.CoolTown) { t.Sites = nil })
	change("11 sites", func(t *api.CoolTown) { t.Sites = slices.Repeat(t.Sites[:1], 11) })
	change("70 sites", func(t *api.CoolTown) { t.Sites = slices.Repeat(t.Sites[:1], 70) })
	change("need from -1", func(t *api.CoolTown) { t.Houses[0].Need = sp(-1, 5) })
	change("need upside", func(t *api.CoolTown) { t.Houses[1].Need = sp(6, 5) })
	change("need to 1000001", func(t *api.CoolTown) { t.Houses[1].Need = sp(5, 1000001) })
	change("grace -1", func(t *api.CoolTown) { t.Houses[0].Grace = -1 })
	change("grace 101", func(t *api.CoolTown) { t.Houses[1].Grace = 101 })
	change("cost -1", func(t *api.CoolTown) { t.Sites[0].Cost = -1 })
	change("cost 1000001", func(t *api.CoolTown) { t.Sites[3].Cost = 1000001 })
	change("weeks 0", func(t *api.CoolTown) { t.Sites[0].Weeks = 0 })
	change("weeks 101", func(t *api.CoolTown) { t.Sites[3].Weeks = 101 })
	change("gives nothing", func(t *api.CoolTown) { t.Sites[0].Gives = nil })
	change("gives to a house less", func(t *api.CoolTown) { t.Sites[3].Gives = t.Sites[3].Gives[:1] })
	change("gives to a house more", func(t *api.CoolTown) { t.Sites[3].Gives = append(t.Sites[3].Gives, sp(1, 2)) })
	change("gives from -1", func(t *api.CoolTown) { t.Sites[0].Gives[0] = sp(-1, 2) })
	change("gives upside", func(t *api.CoolTown) { t.Sites[2].Gives[1] = sp(3, 2) })
	change("gives to 1000001", func(t *api.CoolTown) { t.Sites[3].Gives[1] = sp(3, 1000001) })
	return towns
}

// badCoolers returns lists that are no coolers in the chapter's town.
func badCoolers() map[string][]int {
	return map[string][]int{
		"-1":           {-1, 1},
		"site 4":       {1, 4},
		"site 70":      {70},
		"site 1 << 62": {1 << 62},
		"twice":        {1, 1},
		"downwards":    {3, 1},
		"all and one":  {0, 1, 2, 3, 4},
		"many":         slices.Repeat([]int{0}, 1000),
	}
}

// lists returns all lists of strictly increasing numbers below many, the short ones first, and those of a length in lexicographic order.
func lists(many int) [][]int {
	all := [][]int{{}}
	for i := 0; i < len(all); i++ {
		next := 0
		if n := len(all[i]); n > 0 {
			next = all[i][n-1] + 1
		}
		for ; next < many; next++ {
			all = append(all, append(slices.Clone(all[i]), next))
		}
	}
	return all
}

// minus returns the numbers of a list that are not in a second one.
func minus(list, gone []int) []int {
	var left []int
	for _, n := range list {
		if !slices.Contains(gone, n) {
			left = append(left, n)
		}
	}
	return left
}

// of returns the numbers of a list at some places.
func of(list, places []int) []int {
	var some []int
	for _, i := range places {
		some = append(some, list[i])
	}
	return some
}

// ends reports whether a house is level at the worst ends of all spans.
func ends(t api.CoolTown, house int, working []int) bool {
	cold := 0
	for _, site := range working {
		cold += t.Sites[site].Gives[house].Low
	}
	return cold >= t.Houses[house].Need.High
}

// always reports whether a house is level with working coolers in each truth.
func always(t api.CoolTown, house int, working []int) bool {
	for x := range truths(t) {
		cold := 0
		for _, site := range working {
			cold += x.Gives[site][house]
		}
		if cold < x.Needs[house] {
			return false
		}
	}
	return true
}

// truths yields all truths of a town.
func truths(t api.CoolTown) iter.Seq[api.CoolTruth] {
	return func(yield func(api.CoolTruth) bool) {
		x := someTruth(source(), t)
		many := len(t.Houses)
		var next func(i int) bool
		next = func(i int) bool {
			if i == many*(len(t.Sites)+1) {
				return yield(x)
			}
			span, n := t.Houses[i%many].Need, &x.Needs[i%many]
			if i >= many {
				span, n = t.Sites[i/many-1].Gives[i%many], &x.Gives[i/many-1][i%many]
			}
			for *n = span.Low; *n <= span.High; *n++ {
				if !next(i + 1) {
					return false
				}
			}
			return true
		}
		next(0)
	}
}

// slow does what the chapter says, step by step, if it is known whether a house is surely level.
type slow struct {
	api.CoolTown
	surely func(t api.CoolTown, house int, working []int) bool
}

// breaks returns the first of the shortest lists of coolers after whose failure a house is not surely level.
func (s slow) breaks(house int, bought []int, fails int) ([]int, bool) {
	for _, places := range lists(len(bought)) {
		failed := of(bought, places)
		if len(failed) <= fails && !s.surely(s.CoolTown, house, minus(bought, failed)) {
			return failed, true
		}
	}
	return nil, false
}

// firstBreak returns the break, and whether there is one.
func (s slow) firstBreak(bought []int, fails int) (int, []int, bool) {
	for house := range s.Houses {
		if failed, is := s.breaks(house, bought, fails); is {
			return house, failed, true
		}
	}
	return 0, nil, false
}

func (s slow) cost(coolers []int) int {
	cost := 0
	for _, site := range coolers {
		cost += s.Sites[site].Cost
	}
	return cost
}

// best returns the best coolers, and whether there are any.
func (s slow) best(fails int) ([]int, bool) {
	var best []int
	found := false
	for _, coolers := range lists(len(s.Sites)) {
		if found && s.cost(coolers) >= s.cost(best) {
			continue
		}
		if _, _, broken := s.firstBreak(coolers, fails); !broken {
			best, found = coolers, true
		}
	}
	return best, found
}

// suffices reports whether a house, if it were alone, has some sites that keep it.
func (s slow) suffices(house, many, fails int) bool {
	for _, coolers := range lists(len(s.Sites)) {
		if _, broken := s.breaks(house, coolers, fails); len(coolers) == many && !broken {
			return true
		}
	}
	return false
}

// floor returns the floor, and whether there is one.
func (s slow) floor(fails int) (int, bool) {
number:
	for many := range len(s.Sites) + 1 {
		for house := range s.Houses {
			if !s.suffices(house, many, fails) {
				continue number
			}
		}
		return many, true
	}
	return 0, false
}

// again returns in which week each house is level again, by going through all weeks.
func (s slow) again(bought, order []int) []int {
	var weeks []int
	for house := range s.Houses {
		found := -1
		for week := api.CoolRepairs * api.CoolWeeks; week >= 0; week-- {
			if s.surely(s.CoolTown, house, s.working(bought, order, week)) {
				found = week
			}
		}
		weeks = append(weeks, found)
	}
	return weeks
}

// working returns the coolers that work in a week.
func (s slow) working(bought, order []int, week int) []int {
	left := slices.Clone(order)
	for len(left) > 0 && s.Sites[left[0]].Weeks <= week {
		week -= s.Sites[left[0]].Weeks
		left = left[1:]
	}
	return minus(bought, left)
}

// good reports whether an order is good.
func (s slow) good(bought, order []int) bool {
	for house, week := range s.again(bought, order) {
		if week < 0 || week > s.Houses[house].Grace {
			return false
		}
	}
	return true
}

// orders returns all orders of a list, in lexicographic order of places.
func orders(list []int) [][]int {
	if len(list) == 0 {
		return [][]int{nil}
	}
	var all [][]int
	for i, n := range list {
		for _, rest := range orders(slices.Concat(list[:i], list[i+1:])) {
			all = append(all, slices.Concat([]int{n}, rest))
		}
	}
	return all
}

// repair returns the first good order, and whether there is one.
func (s slow) repair(bought, failed []int) ([]int, bool) {
	for _, order := range orders(failed) {
		if s.good(bought, order) {
			return order, true
		}
	}
	return nil, false
}

// someSpan returns a span from low to high whose ends differ by at most wide.
func someSpan(r *rand.Rand, low, high, wide int) api.Span {
	a := low + r.IntN(high-low+1)
	return sp(a, min(high, a+r.IntN(wide+1)))
}

// someOf returns some of the numbers of a list, each with a chance of one in so many.
func someOf(r *rand.Rand, list []int, one int) []int {
	var some []int
	for _, n := range list {
		if r.IntN(one) == 0 {
			some = append(some, n)
		}
	}
	return some
}

// numbers returns the numbers below many.
func numbers(many int) []int {
	var l []int
	for i := range many {
		l = append(l, i)
	}
	return l
}

// most returns some, mostly all, of the sites of a town.
func most(r *rand.Rand, t api.CoolTown) []int {
	return minus(numbers(len(t.Sites)), someOf(r, numbers(len(t.Sites)), 5))
}

// failures returns some of the bought coolers, not more than may be repaired.
func failures(r *rand.Rand, bought []int) []int {
	some := someOf(r, bought, 2)
	return some[:min(len(some), api.CoolRepairs)]
}

// shuffled returns a list in some order.
func shuffled(r *rand.Rand, list []int) []int {
	l := slices.Clone(list)
	r.Shuffle(len(l), func(i, j int) { l[i], l[j] = l[j], l[i] })
	return l
}

// someTruth returns one truth.
func someTruth(r *rand.Rand, t api.CoolTown) api.CoolTruth {
	one := func(span api.Span) int { return span.Low + r.IntN(span.High-span.Low+1) }
	var x api.CoolTruth
	for _, h := range t.Houses {
		x.Needs = append(x.Needs, one(h.Need))
	}
	for _, s := range t.Sites {
		var gives []int
		for _, span := range s.Gives {
			gives = append(gives, one(span))
		}
		x.Gives = append(x.Gives, gives)
	}
	return x
}

// worst returns the truth in which each house needs the most and is given the least.
func worst(t api.CoolTown) api.CoolTruth {
	var x api.CoolTruth
	for _, h := range t.Houses {
		x.Needs = append(x.Needs, h.Need.High)
	}
	for _, s := range t.Sites {
		var gives []int
		for _, span := range s.Gives {
			gives = append(gives, span.Low)
		}
		x.Gives = append(x.Gives, gives)
	}
	return x
}

// small returns a town with few truths.
func small(r *rand.Rand) api.CoolTown {
	var t api.CoolTown
	for range 1 + r.IntN(2) {
		t.Houses = append(t.Houses, api.CoolHouse{Need: someSpan(r, 0, 4, 1), Grace: r.IntN(6)})
	}
	for range 1 + r.IntN(4) {
		s := api.CoolSite{Cost: r.IntN(4), Weeks: 1 + r.IntN(3)}
		for range t.Houses {
			s.Gives = append(s.Gives, someSpan(r, 0, 3, 1))
		}
		t.Sites = append(t.Sites, s)
	}
	return t
}

// large returns a town with as many houses and sites, whose coolers are about enough.
func large(r *rand.Rand, houses, sites int) api.CoolTown {
	var t api.CoolTown
	scale := []int{3, 20, 1000, 100000}[r.IntN(4)]
	for range houses {
		t.Houses = append(t.Houses, api.CoolHouse{Need: someSpan(r, 0, sites*scale/3, scale/2), Grace: r.IntN(30)})
	}
	for range sites {
		s := api.CoolSite{Cost: r.IntN(2 + r.IntN(10)), Weeks: 1 + r.IntN(9)}
		for range houses {
			cold := someSpan(r, 0, 2*scale, scale/2)
			if r.IntN(5) == 0 {
				cold.Low = 0
			}
			s.Gives = append(s.Gives, cold)
		}
		t.Sites = append(t.Sites, s)
	}
	return t
}

// repairable returns a town with as many houses and sites, all of whose coolers are surely enough for most houses, some of which do not bear to wait for long.
func repairable(r *rand.Rand, houses, sites int) api.CoolTown {
	t := large(r, houses, sites)
	for house := range t.Houses {
		cold := 0
		for _, s := range t.Sites {
			cold += s.Gives[house].Low
		}
		need := r.IntN(cold + 1)
		if r.IntN(20) == 0 {
			need = cold + 1
		}
		need = min(need, api.CoolCold)
		t.Houses[house] = api.CoolHouse{Need: sp(need/2, need), Grace: 5 + r.IntN(25)}
	}
	return t
}

// someSlow returns a town with the slow way to look at it: over all its truths if it is small.
func someSlow(r *rand.Rand, sites int) slow {
	if r.IntN(4) == 0 {
		return slow{small(r), always}
	}
	return slow{large(r, 1+r.IntN(api.CoolHouses), 1+r.IntN(sites)), ends}
}
