package pile

import (
	"iter"
	"slices"

	"talik/api"
)

// never is more than any plan costs: the cost of what has a fault however it goes on.
const never = (api.PileYears*api.PilePiles + 1) * api.PileCost

// starts are, for each pile, the year at whose beginning its head was at 0 the last time. Nothing else that was done before matters to what can go wrong later.
type starts [api.PilePiles]int

// stage is a year of a group of piles, which is a set of bits.
type stage struct {
	group int
	year  int
}

// planner looks for the best plan.
type planner struct {
	*looked
	unjacked [][]api.Span    // the levels, if no pile is ever jacked
	costs    map[stage][]int // what a group costs at least from the end of a year on, by the place of its starts
}

// bestPlan returns the best plan, its cost, and whether there is one.
func (l *looked) bestPlan() ([]int, int, bool) {
	plan := make([]int, len(l.thaws))
	if l.firstFault(plan).Rule == api.PileFine {
		return plan, 0, true
	}
	for pile := range l.Piles { // what no jacking helps against
		if l.firstYear(pile, l.loses) >= 0 || l.firstYear(pile, l.fails) >= 0 {
			return nil, 0, false
		}
	}
	p := &planner{looked: l, unjacked: l.levels(plan), costs: map[stage][]int{}}
	whole := 0
	for _, group := range l.groups() {
		cost := p.cost(group)
		if cost >= never {
			return nil, 0, false
		}
		whole += cost
		p.jack(group, plan)
	}
	return plan, whole, true
}

// groups returns all piles in sets without pairs between them. The best plan for all piles is the best one for each of these sets.
func (l *looked) groups() []int {
	groups := make([]int, len(l.Piles)) // that of each pile
	for pile := range groups {
		groups[pile] = 1 << pile
	}
	for _, pair := range l.Pairs {
		both := groups[pair.One] | groups[pair.Other]
		for pile := range pilesOf(both) {
			groups[pile] = both
		}
	}
	slices.Sort(groups)
	return slices.Compact(groups)
}

// cost returns what a group costs at least; never, if it has a fault in each plan.
func (p *planner) cost(group int) int {
	var later []int
	for year := len(p.thaws) - 1; year >= 0; year-- {
		costs := slices.Repeat([]int{never}, places(group, year))
		for place, next := range p.standing(group, year) {
			costs[place] = 0
			if later != nil {
				costs[place] = later[next]
			}
		}
		p.costs[stage{group, year}] = costs
		later = p.chosen(group, year, costs)
	}
	return p.costs[stage{group, 0}][0]
}

// chosen returns what a group costs at least if the best of its piles are jacked before a year. One pile after the other is jacked or not, which needs fewer steps than to try all sets.
func (p *planner) chosen(group, year int, costs []int) []int {
	chosen := slices.Clone(costs)
	many := len(chosen) // places, for all starts of the piles before
	for pile := range pilesOf(group) {
		same := many / (year + 1) // places, for each start of the pile
		for part := range slices.Chunk(chosen, many) {
			jacked := part[same*year:]
			for i, cost := range part {
				part[i] = min(cost, p.Piles[pile].Cost+jacked[i%same])
			}
		}
		many = same
	}
	return chosen
}

// jack adds the best jackings of a group to a plan; none after the last year, as it could only cost.
func (p *planner) jack(group int, plan []int) {
	var s starts
	for year := 1; year < len(p.thaws); year++ {
		costs := p.costs[stage{group, year}]
		best := cheapest(setsOf(group), func(set int) int {
			return p.price(set) + costs[s.jacked(set, year).place(group, year)]
		})
		plan[year-1] |= best
		s = s.jacked(best, year)
	}
}

// price returns what it costs to jack a set of piles.
func (p *planner) price(set int) int {
	price := 0
	for pile := range pilesOf(set) {
		price += p.Piles[pile].Cost
	}
	return price
}

// standing goes through all starts of a group with which nothing is wrong at the end of a year: through their places in this year, and in the next one.
func (p *planner) standing(group, year int) iter.Seq2[int, int] {
	piles := slices.Collect(pilesOf(group))
	return func(yield func(place, next int) bool) {
		var s starts
		var from func(i, place, next int) bool
		from = func(i, place, next int) bool {
			if i == len(piles) {
				return yield(place, next)
			}
			for start := range year + 1 {
				s[piles[i]] = start
				if p.stands(s, year, piles[i]) && !from(i+1, place*(year+1)+start, next*(year+2)+start) {
					return false
				}
			}
			return true
		}
		from(0, 0, 0)
	}
}

// stands reports whether a pile neither can sink too far nor can tilt with one before it, at the end of a year.
func (p *planner) stands(s starts, year, pile int) bool {
	level := p.level(s, year, pile)
	if p.sinks(level) {
		return false
	}
	for _, pair := range p.Pairs {
		other := min(pair.One, pair.Other)
		if max(pair.One, pair.Other) == pile && p.tilts(level, p.level(s, year, other)) {
			return false
		}
	}
	return true
}

// level returns between which levels a pile lies at the end of a year.
func (p *planner) level(s starts, year, pile int) api.Span {
	level := p.unjacked[year][pile]
	if s[pile] > 0 {
		start := p.unjacked[s[pile]-1][pile]
		level.Low -= start.Low
		level.High -= start.High
	}
	return level
}

// jacked returns what comes of a set of piles being jacked before a year.
func (s starts) jacked(set, year int) starts {
	for pile := range pilesOf(set) {
		s[pile] = year
	}
	return s
}

// place returns the place that the starts of a group have in a year among all that are possible; the start of the last pile changes the fastest.
func (s starts) place(group, year int) int {
	place := 0
	for pile := range pilesOf(group) {
		place = place*(year+1) + s[pile]
	}
	return place
}

// places returns how many starts of a group are possible in a year.
func places(group, year int) int {
	many := 1
	for range pilesOf(group) {
		many *= year + 1
	}
	return many
}

// setsOf goes through the sets of piles of a group, in the order of plans.
func setsOf(group int) iter.Seq[int] {
	return func(yield func(int) bool) {
		for set := range group + 1 {
			if set&^group == 0 && !yield(set) {
				return
			}
		}
	}
}

// cheapest returns the first one of some things that cost the least.
func cheapest[T any](things iter.Seq[T], cost func(T) int) T {
	var best T
	least, found := 0, false
	for thing := range things {
		if c := cost(thing); !found || c < least {
			best, least, found = thing, c, true
		}
	}
	return best
}
