package seep

import (
	"iter"
	"slices"

	"talik/api"
)

// noDyke is the Cost of an edge on which no dyke can be built.
const noDyke = -1

// dyked is a map with dykes.
type dyked struct {
	api.SeepMap
	dykes int // a set of bits
}

// dyke returns a map with dykes.
func dyke(m api.SeepMap, dykes []int) dyked {
	set := 0
	for _, edge := range dykes {
		set |= 1 << edge
	}
	return dyked{m, set}
}

// with returns the same map with other dykes.
func (d dyked) with(dykes int) dyked {
	d.dykes = dykes
	return d
}

// has reports whether there is a dyke on an edge.
func (d dyked) has(edge int) bool { return d.dykes>>edge&1 == 1 }

// list returns the dykes as a list.
func (d dyked) list() []int {
	var dykes []int
	for edge := range d.Edges {
		if d.has(edge) {
			dykes = append(dykes, edge)
		}
	}
	return dykes
}

// cost returns the sum of the costs of the dykes.
func (d dyked) cost() int {
	var costs []int
	for _, edge := range d.list() {
		costs = append(costs, d.Edges[edge].Cost)
	}
	return sum(costs...)
}

// open goes through the edges that are open with some thaw, the first one first.
func (d dyked) open(thaw int) iter.Seq[int] {
	return func(yield func(int) bool) {
		for number, e := range d.Edges {
			if !d.has(number) && thaw >= e.Depth && !yield(number) {
				return
			}
		}
	}
}

// buildable reports whether a dyke can be built on each edge that has one.
func (d dyked) buildable() bool {
	return !slices.ContainsFunc(d.list(), func(edge int) bool { return d.Edges[edge].Cost == noDyke })
}

// keeps reports whether the dykes keep the wells.
func (d dyked) keeps() bool {
	can := d.earliest()
	return !slices.ContainsFunc(d.Wells, func(well int) bool { return can[well] < len(d.Thaws) })
}

// keeping goes through the dykes that keep the wells.
func (d dyked) keeping() iter.Seq[dyked] {
	return func(yield func(dyked) bool) {
		for set := range 1 << len(d.Edges) {
			next := d.with(set)
			if next.buildable() && next.keeps() && !yield(next) {
				return
			}
		}
	}
}
