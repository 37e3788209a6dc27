package seep

import (
	"slices"
	"testing"

	"talik/api"
)

// P7.3 (Dykes), and P0.7

func TestDykesExample(t *testing.T) {
	if got, cost, e := Dykes(town()); e != api.OK || !slices.Equal(got, []int{0, 2}) || cost != 500 {
		t.Error(got, cost, e)
	}
}

// priced returns a map with some edges of these costs, which are thawed.
func priced(costs []int, edges ...api.SeepEdge) api.SeepMap {
	m := ways([]int{5}, edges...)
	for i, cost := range costs {
		m.Edges[i].Cost = cost
	}
	return m
}

func TestDykesEdges(t *testing.T) {
	path := []api.SeepEdge{way(0, 1, 0), way(1, 2, 0), way(2, 9, 0)}
	twice := []api.SeepEdge{way(0, 1, 0), way(0, 1, 0), way(1, 9, 0)}
	both := []api.SeepEdge{way(0, 1, 0), way(1, 9, 0), way(2, 9, 0), way(0, 2, 0), way(1, 2, 0), way(2, 1, 0)}
	for _, x := range []struct {
		name string
		m    api.SeepMap
		want []int
		cost int
		e    api.Errno
	}{
		{"no wells", changed(priced([]int{1}, way(0, 9, 0)), func(m *api.SeepMap) { m.Wells = nil }), nil, 0, api.OK},
		{"no waste", changed(priced([]int{1}, way(0, 9, 0)), func(m *api.SeepMap) { m.Wastes = nil }), nil, 0, api.OK},
		{"no edges", priced(nil), nil, 0, api.OK},
		{"no edges, and a well with waste", changed(priced(nil), func(m *api.SeepMap) { m.Wells = []int{0} }), nil, 0, api.ErrNone},
		{"a well with waste among others", changed(priced([]int{1}, way(0, 9, 0)), func(m *api.SeepMap) { m.Wells = []int{0, 9} }), nil, 0, api.ErrNone},
		{"an edge", priced([]int{7}, way(0, 9, 5)), []int{0}, 7, api.OK},
		{"an edge that costs nothing", priced([]int{0}, way(0, 9, 5)), []int{0}, 0, api.OK},
		{"an edge that is frozen", priced([]int{7}, way(0, 9, 6)), nil, 0, api.OK},
		{"an edge that is frozen, and costs nothing", priced([]int{0}, way(0, 9, 6)), nil, 0, api.OK},
		{"an edge to somewhere else", priced([]int{0}, way(0, 8, 0)), nil, 0, api.OK},
		{"an edge without a dyke", priced([]int{-1}, way(0, 9, 5)), nil, 0, api.ErrNone},
		{"a frozen edge without a dyke", priced([]int{-1}, way(0, 9, 6)), nil, 0, api.OK},
		{"the cheapest one of a path", priced([]int{5, 3, 4}, path...), []int{1}, 3, api.OK},
		{"the first one of a path", priced([]int{5, 4, 4}, path...), []int{1}, 4, api.OK},
		{"the one of a path that has a dyke", priced([]int{-1, -1, 1000000}, path...), []int{2}, 1000000, api.OK},
		{"a path without dykes", priced([]int{-1, -1, -1}, path...), nil, 0, api.ErrNone},
		{"two that are cheaper than one", priced([]int{1, 1, 3}, twice...), []int{0, 1}, 2, api.OK},
		{"one that costs as much as two", priced([]int{1, 1, 2}, twice...), []int{2}, 2, api.OK},
		{"one that costs nothing, as two do", priced([]int{0, 0, 0}, twice...), []int{2}, 0, api.OK},
		{"one of two has no dyke", priced([]int{0, -1, 9}, twice...), []int{2}, 9, api.OK},
		{"the first list, not the first set of bits", priced([]int{1, 1, 1, 1, -1, -1}, both...), []int{0, 3}, 2, api.OK},
		{"the cheaper list", priced([]int{1, 1, 1, 2, -1, -1}, both...), []int{1, 2}, 2, api.OK},
		{"all edges", priced(slices.Repeat([]int{1000000}, 12), slices.Repeat([]api.SeepEdge{way(0, 9, 0)}, 12)...), []int{0, 1, 2, 3, 4, 5, 6, 7, 8, 9, 10, 11}, 12000000, api.OK},
		{"two wells", changed(priced([]int{5, 2, 2}, way(0, 1, 0), way(1, 8, 0), way(1, 9, 0)), func(m *api.SeepMap) { m.Wells = []int{8, 9} }), []int{1, 2}, 4, api.OK},
		{"two wells behind one edge", changed(priced([]int{3, 2, 2}, way(0, 1, 0), way(1, 8, 0), way(1, 9, 0)), func(m *api.SeepMap) { m.Wells = []int{8, 9} }), []int{0}, 3, api.OK},
		{"two wastes", changed(priced([]int{2, 2, 5}, way(0, 2, 0), way(1, 2, 0), way(2, 9, 0)), func(m *api.SeepMap) { m.Wastes = []int{0, 1} }), []int{0, 1}, 4, api.OK},
		{"edges that only lead into waste", priced([]int{0, 1}, way(1, 0, 0), way(0, 9, 0)), []int{1}, 1, api.OK},
	} {
		if got, cost, e := Dykes(x.m); e != x.e || !slices.Equal(got, x.want) || cost != x.cost {
			t.Error(x.name, got, cost, e)
		}
	}
}

// TestDykesForTheMostThaw has a well that is foul in some truths only, and in a later year only.
func TestDykesForTheMostThaw(t *testing.T) {
	m := ways([]int{0, 0, 0}, way(0, 9, 50))
	for _, x := range []struct {
		thaw api.Span
		want []int
	}{{span(0, 49), nil}, {span(0, 50), []int{0}}, {span(50, 50), []int{0}}} {
		for year := range 3 {
			m := changed(m, func(m *api.SeepMap) { m.Thaws[year] = x.thaw })
			if got, cost, e := Dykes(m); e != api.OK || !slices.Equal(got, x.want) || cost != len(x.want) {
				t.Error(x.thaw, year, got, cost, e)
			}
		}
	}
}

func TestDykesErrors(t *testing.T) {
	bad := badMaps()
	for _, name := range names(bad) {
		if got, cost, e := Dykes(bad[name]); e != api.ErrArg || got != nil || cost != 0 {
			t.Error(name, got, cost, e)
		}
	}
}

func TestDykesOfAllSets(t *testing.T) {
	r := source()
	none, some, several := 0, 0, 0
	for i := range 1500 {
		m := small(r)
		if i%100 == 0 {
			m = large(r)
		}
		got, cost, e := Dykes(m)
		want, found := slow{SeepMap: m}.best()
		if found != (e == api.OK) || !found && e != api.ErrNone || !slices.Equal(got, want) || cost != costOf(m, want) {
			t.Fatal(m, got, cost, want, e)
		}
		switch {
		case !found:
			none++
		case len(want) > 1:
			several++
		case len(want) > 0:
			some++
		}
	}
	if none < 50 || some < 50 || several < 50 {
		t.Error(none, some, several)
	}
}

// TestNoWellIsFoulBehindTheBestDykes asks for years and routes, and plays truths.
func TestNoWellIsFoulBehindTheBestDykes(t *testing.T) {
	r := source()
	found := 0
	for i := range 1000 {
		m := small(r)
		if i%20 == 0 {
			m = large(r)
		}
		dykes, _, e := Dykes(m)
		if e != api.OK {
			continue
		}
		if len(dykes) > 0 {
			found++
		}
		mustKeep(t, m, dykes)
		for range 20 {
			thaws := someTruth(r, m).Thaws
			first, e := Play(m, dykes, thaws)
			for _, well := range m.Wells {
				if e != api.OK || first[well] < len(m.Thaws) {
					t.Fatal(m, dykes, thaws, first, e)
				}
			}
		}
		for i := range dykes { // no dyke is for nothing
			if fewer := slices.Delete(slices.Clone(dykes), i, i+1); keepsWells(m, fewer) {
				t.Fatal(m, dykes, fewer)
			}
		}
	}
	if found < 100 {
		t.Error(found)
	}
}

// mustKeep fails if there is a route to a well.
func mustKeep(t *testing.T, m api.SeepMap, dykes []int) {
	t.Helper()
	if !keepsWells(m, dykes) {
		t.Fatal(m, dykes)
	}
	for _, well := range m.Wells {
		if route, e := Route(m, dykes, well); e != api.ErrNone {
			t.Fatal(m, dykes, route, e)
		}
	}
}

// keepsWells reports whether no well can be foul behind dykes.
func keepsWells(m api.SeepMap, dykes []int) bool {
	years, e := Years(m, dykes)
	return e == api.OK && !slices.ContainsFunc(m.Wells, func(well int) bool { return years[well].Low < len(m.Thaws) })
}

// TestNoDykesThatKeepTheWellsAreCheaper proposes all dykes.
func TestNoDykesThatKeepTheWellsAreCheaper(t *testing.T) {
	r := source()
	dearer := 0
	for range 200 {
		m := small(r)
		best, lowest, bestE := Dykes(m)
		for _, dykes := range (slow{SeepMap: m}).allDykes() {
			if !keepsWells(m, dykes) {
				continue
			}
			cost := costOf(m, dykes)
			if bestE != api.OK || cost < lowest || cost == lowest && len(dykes) < len(best) {
				t.Fatal(m, dykes, best, lowest, bestE)
			}
			if cost > lowest {
				dearer++
			}
		}
	}
	if dearer < 100 {
		t.Error(dearer)
	}
}
