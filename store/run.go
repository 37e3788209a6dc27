package store

import (
	"iter"

	"talik/api"
)

// running is a store that is run with a plan, an ice and a winter. Its Stock is what there is by now.
type running struct {
	api.Store
	plan    int
	ice     []bool
	winter  []api.StoreGoods
	waiting queue[int] // the ships that have arrived and are not empty yet
	trace   api.StoreTrace
}

// run returns what happens with a plan, with an ice, in a winter.
func run(s api.Store, plan, ice, winter int) api.StoreTrace {
	r := &running{Store: s, plan: plan, ice: s.Ices[ice], winter: s.Winters[winter]}
	r.trace.Landed = make([]api.StoreGoods, len(s.Ships))
	steps := [...]func(week int){r.arrive, r.land, r.take}
	for week := range r.Weeks {
		for _, step := range steps {
			step(week)
		}
	}
	return r.trace
}

func (r *running) arrive(week int) {
	for ship := range shipsOf(r.plan) {
		if arrival(r.Ships[ship], r.ice) == week {
			r.waiting.push(ship)
		}
	}
}

func (r *running) land(week int) {
	if week >= r.Land || !r.ice[week] {
		return
	}
	left := r.Rate
	for range r.waiting.size() {
		ship := r.waiting.pop()
		left -= r.unload(ship, left)
		if r.aboard(ship) != (api.StoreGoods{}) {
			r.waiting.push(ship) // behind those that have not had their turn, so that the order stays
		}
	}
}

// unload lands what can be landed of a ship, at most most units, and returns how many these are.
func (r *running) unload(ship, most int) int {
	landed := least(r.aboard(ship), less(r.Yard, r.Stock))
	left := most
	for kind := range kinds {
		landed[kind] = min(landed[kind], left)
		left -= landed[kind]
	}
	r.Stock = sum(r.Stock, landed)
	r.trace.Landed[ship] = sum(r.trace.Landed[ship], landed)
	return units(landed)
}

// aboard returns what has not been landed of a ship yet.
func (r *running) aboard(ship int) api.StoreGoods {
	return less(r.Ships[ship].Cargo, r.trace.Landed[ship])
}

func (r *running) take(week int) {
	need := r.winter[week]
	taken := least(need, r.Stock)
	r.Stock = less(r.Stock, taken)
	r.trace.Stocks = append(r.trace.Stocks, r.Stock)
	r.trace.Lacks = append(r.trace.Lacks, less(need, taken))
}

// never is the week of ships that do not arrive.
const never = -1

// arrival returns the week in which a ship arrives with an ice.
func arrival(ship api.StoreShip, ice []bool) int {
	for week := ship.Week; week < len(ice); week++ {
		if ice[week] {
			return week
		}
	}
	return never
}

// shipsOf goes through the ships of a plan, the first one first.
func shipsOf(plan int) iter.Seq[int] {
	return func(yield func(int) bool) {
		for ship := range api.StoreShips {
			if plan>>ship&1 == 1 && !yield(ship) {
				return
			}
		}
	}
}

// queue is of things that wait, the first one in front.
type queue[T any] struct{ things []T }

func (q *queue[T]) size() int { return len(q.things) }

func (q *queue[T]) push(thing T) { q.things = append(q.things, thing) }

// pop takes the first thing, which there must be.
func (q *queue[T]) pop() T {
	first := q.things[0]
	q.things = q.things[1:]
	return first
}
