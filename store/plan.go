package store

import (
	"iter"

	"talik/api"
)

// looked is a store whose plans are looked at.
type looked struct {
	api.Store
	found map[landing]api.StoreFault
}

// landing is a set of ships that arrive with an ice, which are followed by a winter.
type landing struct {
	ships  int
	ice    int
	winter int
}

func look(s api.Store) *looked {
	return &looked{Store: s, found: map[landing]api.StoreFault{}}
}

// landing returns what comes of a plan. Ships that never arrive change nothing, so that plans that differ by them alone are looked at once.
func (l *looked) landing(plan, ice, winter int) landing {
	ships := plan
	for ship := range shipsOf(plan) {
		if arrival(l.Ships[ship], l.Ices[ice]) == never {
			ships &^= 1 << ship
		}
	}
	return landing{ships, ice, winter}
}

// lacking returns what is lacking first with a plan, with an ice, in a winter; the zero value if nothing is.
func (l *looked) lacking(plan, ice, winter int) api.StoreFault {
	at := l.landing(plan, ice, winter)
	fault, known := l.found[at]
	if !known {
		fault = l.search(at)
		l.found[at] = fault
	}
	return fault
}

// search looks for what is lacking first.
func (l *looked) search(at landing) api.StoreFault {
	var fault api.StoreFault
	trace := run(l.Store, at.ships, at.ice, at.winter)
search:
	for week, lacks := range trace.Lacks {
		for kind := range kinds {
			if lacks[kind] > 0 {
				fault = api.StoreFault{Lacks: true, Ice: at.ice, Winter: at.winter, Week: week, Kind: kind}
				break search
			}
		}
	}
	return fault
}

// faults goes through what is lacking first with a plan: ice by ice, and for each of them winter by winter, where anything is.
func (l *looked) faults(plan int) iter.Seq[api.StoreFault] {
	return func(yield func(api.StoreFault) bool) {
		for ice := range l.Ices {
			for winter := range l.Winters {
				fault := l.lacking(plan, ice, winter)
				if fault.Lacks && !yield(fault) {
					return
				}
			}
		}
	}
}

// fault returns the fault of a plan; the zero value if it suffices.
func (l *looked) fault(plan int) api.StoreFault {
	for fault := range l.faults(plan) {
		return fault
	}
	return api.StoreFault{}
}

// first returns what runs out first with a plan, and whether anything does.
func (l *looked) first(plan int) (api.StoreFault, bool) {
	first, _, found := cheapest(l.faults(plan), func(f api.StoreFault) int { return f.Week*kinds + f.Kind })
	return first, found
}

// best returns the best plan, its cost, and whether there is one.
func (l *looked) best() (int, int, bool) {
	return cheapest(l.sufficing(), func(plan int) int {
		cost := 0
		for ship := range shipsOf(plan) {
			cost += l.Ships[ship].Cost
		}
		return cost
	})
}

// sufficing goes through the plans that suffice, the least number first. All plans are tried, as a ship more can keep what is needed first from being landed in time.
func (l *looked) sufficing() iter.Seq[int] {
	return func(yield func(int) bool) {
		for plan := range 1 << len(l.Ships) {
			if !l.fault(plan).Lacks && !yield(plan) {
				return
			}
		}
	}
}

// cheapest returns the first one of some things that cost the least, what it costs, and whether there are any things.
func cheapest[T any](things iter.Seq[T], cost func(T) int) (best T, lowest int, found bool) {
	for thing := range things {
		if c := cost(thing); !found || c < lowest {
			best, lowest, found = thing, c, true
		}
	}
	return best, lowest, found
}
