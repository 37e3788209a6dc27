package seep

import (
	"slices"

	"talik/api"
)

// foul returns the first year in which each point is foul, if the thaws are true.
func (d dyked) foul(thaws []int) []int {
	first := slices.Repeat([]int{len(d.Thaws)}, d.Points)
	for _, waste := range d.Wastes {
		first[waste] = 0
	}
	for year, thaw := range thaws {
		d.spread(first, year, thaw)
	}
	return first
}

// spread notes a year for the points that become foul in it.
func (d dyked) spread(first []int, year, thaw int) {
	var waiting queue[int]
	for point, since := range first {
		if since <= year {
			waiting.push(point)
		}
	}
	for !waiting.empty() {
		at := waiting.pop()
		for edge := range d.open(thaw) {
			e := d.Edges[edge]
			if e.From == at && first[e.To] > year {
				first[e.To] = year
				waiting.push(e.To)
			}
		}
	}
}

// More thaw never makes a point foul later, so that all points are foul as early as they can be where all thaws are the greatest, and as late where all are the least.

func (d dyked) earliest() []int { return d.foul(highs(d.Thaws)) }

func (d dyked) latest() []int { return d.foul(lows(d.Thaws)) }

// years returns what is known of each point.
func (d dyked) years() []api.Span {
	ends := [...]func() []int{d.earliest, d.latest}
	var years [2][]int
	for i, end := range ends {
		years[i] = end()
	}
	return spansOf(years[0], years[1])
}

// spot is a point, and the first year in which something can be there.
type spot struct {
	point int
	year  int
}

// walk is a list of edges, and the spots where it can end.
type walk struct {
	edges []int
	ends  []spot
}

// starts returns the spots where the empty list can end.
func (d dyked) starts() []spot {
	var starts []spot
	for _, waste := range d.Wastes {
		starts = append(starts, spot{point: waste})
	}
	return starts
}

// along returns the spots where a list can end with an edge more; none if it cannot go on along this edge.
func (d dyked) along(ends []spot, edge int) []spot {
	e := d.Edges[edge]
	for _, end := range ends {
		if end.point != e.From || d.has(edge) {
			continue
		}
		for year := end.year; year < len(d.Thaws); year++ {
			if d.Thaws[year].High >= e.Depth {
				return []spot{{e.To, year}}
			}
		}
	}
	return nil
}

// route returns the first route to a point, and whether there is one.
func (d dyked) route(point int) (route []int, found bool) {
	if slices.Contains(d.Wastes, point) {
		return nil, true
	}
	latest := d.earliest()[point]
	reached := map[spot]bool{}
	var waiting queue[walk] // in the order of routes, so that the first one that comes to the point is the first route
	waiting.push(walk{ends: d.starts()})
search:
	for !waiting.empty() {
		at := waiting.pop()
		for edge := range d.Edges {
			ends := d.along(at.ends, edge)
			if len(ends) == 0 || ends[0].year > latest || reached[ends[0]] {
				continue
			}
			reached[ends[0]] = true
			edges := append(slices.Clone(at.edges), edge)
			if ends[0].point == point {
				route, found = edges, true
				break search
			}
			waiting.push(walk{edges, ends})
		}
	}
	return route, found
}

// queue is of things that wait, the first one in front.
type queue[T any] struct{ things []T }

func (q *queue[T]) empty() bool { return len(q.things) == 0 }

func (q *queue[T]) push(thing T) { q.things = append(q.things, thing) }

// pop takes the first thing, which there must be.
func (q *queue[T]) pop() T {
	first := q.things[0]
	q.things = q.things[1:]
	return first
}
