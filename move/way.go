package move

import (
	"iter"
	"slices"

	"talik/api"
)

// places are the lots on which houses are; those of numbers that no house has are 0.
type places [api.MoveHouses]int

// arrangement is where houses are after a list of steps.
type arrangement struct {
	at   places
	list []api.MoveStep
}

// after returns an arrangement after a step more.
func (a arrangement) after(step api.MoveStep) arrangement {
	a.at[step.House] = step.Lot
	a.list = append(slices.Clone(a.list), step)
	return a
}

// stand returns the arrangement before all steps.
func (l *looked) stand() arrangement {
	var a arrangement
	for house, h := range l.Houses {
		a.at[house] = h.Lot
	}
	return a
}

// steps goes through the steps that are possible from some places, in order.
func (l *looked) steps(at places) iter.Seq[api.MoveStep] {
	free := l.free(at[:len(l.Houses)])
	return func(yield func(api.MoveStep) bool) {
		for house := range l.Houses {
			for lot := range lotsOf(free) {
				if !yield(api.MoveStep{House: house, Lot: lot}) {
					return
				}
			}
		}
	}
}

// way returns the shortest way to a plan, and whether there is one.
func (l *looked) way(plan []int) (way []api.MoveStep, found bool) {
	var goal places
	copy(goal[:], plan)
	start := l.stand()
	if start.at == goal {
		return nil, true
	}
	reached := map[places]bool{start.at: true}
	var waiting queue[arrangement] // in the order of their lists, so that the first one at the goal has the shortest way
	waiting.push(start)
search:
	for !waiting.empty() {
		now := waiting.pop()
		for step := range l.steps(now.at) {
			next := now.after(step)
			if next.at == goal {
				way, found = next.list, true
				break search
			}
			if !reached[next.at] {
				reached[next.at] = true
				waiting.push(next)
			}
		}
	}
	return way, found
}

// queue is of things that wait, the first one in front.
type queue[T any] struct{ things []T }

func (q *queue[T]) empty() bool { return len(q.things) == 0 }

func (q *queue[T]) push(thing T) { q.things = append(q.things, thing) }

// pop takes the first thing, which there must be.
func (q *queue[T]) pop() T {
	first := q.things[0]
	q.things = q.things[1:]
	return first
}
