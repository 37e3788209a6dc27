package pipe

import (
	"iter"

	"talik/api"
)

// looked is a net that is looked at, with some of its loops wrapped.
type looked struct {
	api.PipeNet
	boxes  []box        // of each loop
	due    []int        // the hours after which each loop is due
	slacks map[crew]int // the greatest slack of what a crew can do from then on
}

// box is what a loop is in, with and without its wrapping.
type box interface {
	leak() api.Span
	cost() int
}

// bare is the box of a loop that is not wrapped.
type bare struct{ api.PipeLoop }

func (b bare) leak() api.Span { return b.Leak }

func (b bare) cost() int { return 0 }

// wrapped is the box of a loop that is wrapped.
type wrapped struct{ api.PipeLoop }

func (w wrapped) leak() api.Span { return w.Wrap }

func (w wrapped) cost() int { return w.Cost }

// look looks at a net with a set of loops wrapped.
func look(n api.PipeNet, wrapping int) *looked {
	l := &looked{PipeNet: n, slacks: map[crew]int{}}
	for _, loop := range n.Loops {
		l.boxes = append(l.boxes, bare{loop})
	}
	for loop := range loopsOf(wrapping) {
		l.boxes[loop] = wrapped{n.Loops[loop]}
	}
	for loop := range n.Loops {
		l.due = append(l.due, l.dueAfter(loop))
	}
	return l
}

// cost returns what it costs to wrap the loops that are wrapped.
func (l *looked) cost() int {
	whole := 0
	for _, b := range l.boxes {
		whole += b.cost()
	}
	return whole
}

// places goes through the places, the depot first.
func (l *looked) places() iter.Seq[int] {
	return func(yield func(int) bool) {
		for place := range l.Ways {
			if !yield(place) {
				return
			}
		}
	}
}

// loopsOf goes through the loops of a set of bits, the first one first.
func loopsOf(set int) iter.Seq[int] {
	return func(yield func(int) bool) {
		for loop := range api.PipeLoops {
			if set>>loop&1 == 1 && !yield(loop) {
				return
			}
		}
	}
}
