package seep

import (
	"math"
	"math/rand/v2"
	"slices"
	"testing"

	"talik/api"
)

// P7.3 (Floor)

func TestFloorExample(t *testing.T) {
	for i, x := range []struct {
		routes [][]int
		prices []int
		want   int
		e      api.Errno
	}{
		{[][]int{{0, 1}, {2, 3}}, []int{300, 200}, 500, api.OK},
		{[][]int{{0, 1}}, []int{301}, 0, api.ErrRule},
		{[][]int{{2, 4}}, []int{1}, 0, api.ErrRule},
	} {
		if got, e := Floor(town(), x.routes, x.prices); e != x.e || got != x.want {
			t.Error(i, got, e)
		}
	}
}

func TestFloorEdges(t *testing.T) {
	m := ways([]int{4, 5, 3},
		way(0, 1, 0), way(1, 9, 5), way(1, 0, 0), way(0, 9, 6), // 0 to 3: the last one is frozen
		way(2, 9, 0), way(9, 8, 0), way(8, 9, 0), way(0, 9, 0), // 4 to 7: the last one has no dyke
		way(1, 9, 0), way(1, 8, 0), way(0, 2, 0)) // 8 to 10
	for edge, cost := range []int{10, 6, 0, 10, 10, 3, 3, -1, 8, 10, 0} {
		m.Edges[edge].Cost = cost
	}
	same := changed(m, func(m *api.SeepMap) { m.Wells = []int{0, 9} })
	for _, x := range []struct {
		name   string
		m      api.SeepMap
		routes [][]int
		prices []int
		want   int
		e      api.Errno
	}{
		{"no routes", m, nil, nil, 0, api.OK},
		{"no wells", changed(m, func(m *api.SeepMap) { m.Wells = nil }), [][]int{{7}}, []int{0}, 0, api.ErrRule},
		{"just fair", m, [][]int{{0, 1}}, []int{6}, 6, api.OK},
		{"just not fair", m, [][]int{{0, 1}}, []int{7}, 0, api.ErrRule},
		{"a route for nothing", m, [][]int{{0, 1}}, []int{0}, 0, api.OK},
		{"just fair together", m, [][]int{{0, 1}, {0, 8}}, []int{4, 6}, 10, api.OK},
		{"just not fair together", m, [][]int{{0, 1}, {0, 8}}, []int{4, 7}, 0, api.ErrRule},
		{"the same list twice", m, [][]int{{0, 1}, {0, 1}}, []int{3, 3}, 6, api.OK},
		{"the same list twice, and too high", m, [][]int{{0, 1}, {0, 1}}, []int{3, 4}, 0, api.ErrRule},
		{"no dyke, any price", m, [][]int{{7}}, []int{1000000}, 1000000, api.OK},
		{"the most of all", m, slices.Repeat([][]int{{7}}, 10), slices.Repeat([]int{1000000}, 10), 10000000, api.OK},
		{"through the well and back", m, [][]int{{7, 5, 6}}, []int{3}, 3, api.OK},
		{"through the well and back, and too high", m, [][]int{{7, 5, 6}}, []int{4}, 0, api.ErrRule},
		{"an edge twice counts once", m, [][]int{{7, 5, 6, 5, 6, 5, 6}}, []int{3}, 3, api.OK},
		{"an edge twice, and too high", m, [][]int{{7, 5, 6, 5, 6, 5, 6}}, []int{4}, 0, api.ErrRule},
		{"a dyke that costs nothing", m, [][]int{{0, 2, 7}}, []int{0}, 0, api.OK},
		{"a dyke that costs nothing, at a price", m, [][]int{{0, 2, 7}}, []int{1}, 0, api.ErrRule},
		{"a dyke that costs nothing on the first edge", m, [][]int{{10, 4}}, []int{1}, 0, api.ErrRule},
		{"to no well", m, [][]int{{0, 9}}, []int{0}, 0, api.ErrRule},
		{"past the well", m, [][]int{{7, 5}}, []int{0}, 0, api.ErrRule},
		{"from no waste", m, [][]int{{4}}, []int{0}, 0, api.ErrRule},
		{"from no waste, through some", m, [][]int{{2, 7}}, []int{0}, 0, api.ErrRule},
		{"edges that do not follow each other", m, [][]int{{0, 4}}, []int{0}, 0, api.ErrRule},
		{"edges in the wrong order", m, [][]int{{1, 0}}, []int{0}, 0, api.ErrRule},
		{"an edge that is frozen", m, [][]int{{3}}, []int{0}, 0, api.ErrRule},
		{"an edge that is frozen further on", m, [][]int{{0, 2, 3}}, []int{0}, 0, api.ErrRule},
		{"an edge too many in front", m, [][]int{{5, 7}}, []int{0}, 0, api.ErrRule},
		{"the second list is no route", m, [][]int{{7}, {4}}, []int{1, 1}, 0, api.ErrRule},
		{"the first list is no route", m, [][]int{{4}, {7}}, []int{1, 1}, 0, api.ErrRule},
		{"the empty list", m, [][]int{nil}, []int{0}, 0, api.ErrRule},
		{"the empty list, to a well with waste", same, [][]int{nil, {}}, []int{1000000, 2}, 1000002, api.OK},
		{"a circle, to a well with waste", same, [][]int{{0, 2}}, []int{0}, 0, api.OK},
		{"either well", same, [][]int{{7}, nil}, []int{5, 6}, 11, api.OK},
		{"from the second waste", changed(m, func(m *api.SeepMap) { m.Wastes = []int{0, 2} }), [][]int{{4}}, []int{10}, 10, api.OK},
		{"from two wastes, with one edge", changed(m, func(m *api.SeepMap) { m.Wastes = []int{0, 2} }), [][]int{{4}, {10, 4}, {7}}, []int{11, 0, 0}, 0, api.ErrRule},
	} {
		if got, e := Floor(x.m, x.routes, x.prices); e != x.e || got != x.want {
			t.Error(x.name, got, e)
		}
	}
}

func TestFloorErrors(t *testing.T) {
	fails := func(name string, want api.Errno, m api.SeepMap, routes [][]int, prices []int) {
		t.Helper()
		if got, e := Floor(m, routes, prices); e != want || got != 0 {
			t.Error(name, routes, prices, got, e)
		}
	}
	ten, eleven := slices.Repeat([][]int{{0, 1}}, 10), slices.Repeat([][]int{{0, 1}}, 11)
	bad := badMaps()
	for _, name := range names(bad) {
		fails(name, api.ErrArg, bad[name], nil, nil)
		fails(name, api.ErrArg, bad[name], [][]int{{0, 1}}, []int{1})
		fails(name, api.ErrArg, bad[name], [][]int{{2, 4}}, []int{1000})
		fails(name, api.ErrArg, bad[name], ten, make([]int, 9))
		fails(name, api.ErrLong, bad[name], eleven, make([]int, 11))
		fails(name, api.ErrLong, bad[name], nil, make([]int, 11))
		fails(name, api.ErrLong, bad[name], make([][]int, 11), nil)
	}
	fails("11 routes", api.ErrLong, town(), eleven, make([]int, 11))
	fails("11 routes, and 10 prices", api.ErrLong, town(), eleven, make([]int, 10))
	fails("10 routes, and 11 prices", api.ErrLong, town(), ten, make([]int, 11))
	fails("11 that are no routes", api.ErrLong, town(), slices.Repeat([][]int{{-1}}, 11), slices.Repeat([]int{-1}, 11))
	fails("many", api.ErrLong, town(), make([][]int, 1000), make([]int, 1000))
	fails("more routes", api.ErrArg, town(), ten, make([]int, 9))
	fails("more prices", api.ErrArg, town(), ten[:9], make([]int, 10))
	fails("no prices", api.ErrArg, town(), ten, nil)
	fails("no routes", api.ErrArg, town(), nil, []int{0})
	for _, n := range []int{-1, 6, 12, 64, math.MinInt, math.MaxInt} {
		for _, route := range [][]int{{n}, {0, n}, {n, 1}, {0, 1, n}, {2, n, 4}} {
			fails("no edge", api.ErrArg, town(), [][]int{route}, []int{0})
			fails("no edge, after prices that are not fair", api.ErrArg, town(), [][]int{{0, 1}, route}, []int{301, 0})
		}
	}
	for _, n := range []int{-1, 1000001, math.MinInt, math.MaxInt} {
		fails("price", api.ErrArg, town(), [][]int{{0, 1}}, []int{n})
		fails("price, after a list that is no route", api.ErrArg, town(), [][]int{{2, 4}, {0, 1}}, []int{0, n})
	}
	fails("the highest price", api.ErrRule, town(), [][]int{{0, 1}}, []int{1000000})
	if got, e := Floor(town(), ten, slices.Repeat([]int{30}, 10)); e != api.OK || got != 300 {
		t.Error(got, e)
	}
}

// someRoute goes along some edges from waste on, mostly until it comes to a well.
func someRoute(r *rand.Rand, m api.SeepMap) []int {
	var route []int
	if len(m.Wastes) == 0 {
		return nil
	}
	at := m.Wastes[r.IntN(len(m.Wastes))]
	for range 8 {
		if slices.Contains(m.Wells, at) && r.IntN(5) > 0 {
			break
		}
		var on []int
		for edge, e := range m.Edges {
			if e.From == at {
				on = append(on, edge)
			}
		}
		if len(on) == 0 {
			break
		}
		edge := on[r.IntN(len(on))]
		route, at = append(route, edge), m.Edges[edge].To
	}
	if len(route) > 0 && r.IntN(40) == 0 {
		route[r.IntN(len(route))] = r.IntN(len(m.Edges))
	}
	return route
}

// TestFloorOfSomeMaps has some lists that are routes, and some that are not, at prices that are fair or not; fair ones are never dearer than dykes that keep the wells.
func TestFloorOfSomeMaps(t *testing.T) {
	r := source()
	fair, unfair, proven := 0, 0, 0
	for range 10000 {
		m := small(r)
		var routes [][]int
		var prices []int
		for range upTo(r, 1, 4) {
			route := someRoute(r, m)
			if (slow{SeepMap: m}).fair([][]int{route}, []int{0}) || r.IntN(10) == 0 {
				routes, prices = append(routes, route), append(prices, upTo(r, 0, 4))
			}
		}
		got, e := Floor(m, routes, prices)
		if !(slow{SeepMap: m}).fair(routes, prices) {
			unfair++
			if e != api.ErrRule || got != 0 {
				t.Fatal(m, routes, prices, got, e)
			}
			continue
		}
		want := 0
		for _, price := range prices {
			want += price
		}
		if e != api.OK || got != want {
			t.Fatal(m, routes, prices, got, want, e)
		}
		if want > 0 {
			fair++
		}
		_, cost, e := Dykes(m)
		if e == api.OK && cost < got {
			t.Fatal("dykes are cheaper than the floor", m, routes, prices, got, cost)
		}
		if e == api.OK && cost == got && cost > 0 {
			proven++
		}
	}
	if fair < 200 || unfair < 200 || proven < 40 {
		t.Error(fair, unfair, proven)
	}
}
