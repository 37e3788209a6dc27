package seep

import (
	"cmp"
	"iter"
	"slices"
)

// best returns the map with the best dykes, and whether there are any.
func (d dyked) best() (dyked, bool) {
	return least(d.keeping(), func(a, b dyked) int {
		one, other := a.list(), b.list()
		return cmp.Or(cmp.Compare(a.cost(), b.cost()), cmp.Compare(len(one), len(other)), slices.Compare(one, other))
	})
}

// least returns the first one of some things that no other one comes before, and whether there are any things.
func least[T any](things iter.Seq[T], compare func(a, b T) int) (best T, found bool) {
	for thing := range things {
		if !found || compare(thing, best) < 0 {
			best, found = thing, true
		}
	}
	return best, found
}

// unfair is the panic of a look at prices that are not fair.
type unfair struct{}

// floor returns the floor of prices of lists of edges, and whether they are fair.
func (d dyked) floor(routes [][]int, prices []int) (floor int, fair bool) {
	defer func() {
		if _, is := recover().(unfair); is {
			floor, fair = 0, false
		}
	}()
	for _, route := range routes {
		d.mustFoul(route)
	}
	for edge := range d.Edges {
		d.mustBear(edge, routes, prices)
	}
	return sum(prices...), true
}

// mustFoul gives up if a list is no route to any well.
func (d dyked) mustFoul(route []int) {
	ends := d.starts()
	for _, edge := range route {
		ends = d.along(ends, edge)
	}
	if !slices.ContainsFunc(ends, func(end spot) bool { return slices.Contains(d.Wells, end.point) }) {
		panic(unfair{})
	}
}

// mustBear gives up if the routes along an edge have higher prices than a dyke on it.
func (d dyked) mustBear(edge int, routes [][]int, prices []int) {
	var borne []int
	for i, route := range routes {
		if slices.Contains(route, edge) {
			borne = append(borne, prices[i])
		}
	}
	if cost := d.Edges[edge].Cost; cost != noDyke && sum(borne...) > cost {
		panic(unfair{})
	}
}

func sum(numbers ...int) int {
	whole := 0
	for _, n := range numbers {
		whole += n
	}
	return whole
}
