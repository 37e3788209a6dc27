package speak

import (
	"iter"

	"talik/api"
)

// The banks on which a step may end.
const (
	anyBank = iota
	leftBank
	rightBank
)

// river is spots from the mouth up.
type river []api.SpeakSpot

// places returns the places that a report allows, in increasing order.
func (r river) places(kind int, steps []api.SpeakStep) []int {
	var places []int
	for spot, s := range r {
		if s.Kind == kind {
			places = append(places, spot)
		}
	}
	for _, step := range steps {
		places = r.after(places, step)
	}
	return places
}

// after returns the spots to which a step leads from some places, in increasing order.
func (r river) after(places []int, step api.SpeakStep) []int {
	var ends []int
spots:
	for spot := range r {
		for _, place := range places {
			if end, leads := r.end(place, step); leads && end == spot {
				ends = append(ends, spot)
				continue spots
			}
		}
	}
	return ends
}

// end returns the spot to which a step leads from a place, and whether it leads to any.
func (r river) end(place int, step api.SpeakStep) (int, bool) {
	further := r.down
	if step.Up {
		further = r.up
	}
	count := 0
	for spot := range further(place) {
		if r[spot].Kind == step.Kind {
			count++
		}
		if count == step.Count {
			return spot, r.liesOn(spot, step.Bank)
		}
	}
	return 0, false
}

// up goes through the spots that are further up than a place, away from there.
func (r river) up(place int) iter.Seq[int] {
	return func(yield func(int) bool) {
		for spot := place + 1; spot < len(r); spot++ {
			if !yield(spot) {
				return
			}
		}
	}
}

// down goes through the spots that are further down than a place, away from there.
func (r river) down(place int) iter.Seq[int] {
	return func(yield func(int) bool) {
		for spot := place - 1; spot >= 0; spot-- {
			if !yield(spot) {
				return
			}
		}
	}
}

// liesOn reports whether a spot lies on a bank.
func (r river) liesOn(spot, bank int) bool {
	return bank == anyBank || r[spot].Left == (bank == leftBank)
}
