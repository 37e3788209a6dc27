package seep

import (
	"math"
	"slices"
	"testing"

	"talik/api"
)

// P7.1 (Check, Play)

func TestCheckGood(t *testing.T) {
	for name, m := range map[string]api.SeepMap{
		"the example":                  town(),
		"the least":                    smallest(),
		"the most":                     greatest(),
		"two edges of the same points": ways([]int{0}, way(0, 1, 0), way(0, 1, 0), way(1, 0, 0)),
		"wells with waste":             changed(town(), func(m *api.SeepMap) { m.Wells = []int{0} }),
		"neither wells nor wastes":     changed(town(), func(m *api.SeepMap) { m.Wells, m.Wastes = nil, nil }),
		"no dykes at all": changed(town(), func(m *api.SeepMap) {
			for i := range m.Edges {
				m.Edges[i].Cost = -1
			}
		}),
		"a lake that drains into one far behind": changed(town(), func(m *api.SeepMap) { m.Lakes[0].Into = 2 }),
		"lakes that all leave the map": changed(town(), func(m *api.SeepMap) {
			for i := range m.Lakes {
				m.Lakes[i].Into = -1
			}
		}),
	} {
		if e := Check(m); e != api.OK {
			t.Error(name, e)
		}
	}
}

func TestCheckBad(t *testing.T) {
	bad := badMaps()
	for _, name := range names(bad) {
		if e := Check(bad[name]); e != api.ErrArg {
			t.Error(name, e)
		}
	}
}

func TestCheckSomeMaps(t *testing.T) {
	r := source()
	for range 500 {
		for _, m := range []api.SeepMap{small(r), large(r)} {
			if e := Check(m); e != api.OK {
				t.Fatal(m, e)
			}
		}
	}
}

func TestPlayExample(t *testing.T) {
	got, e := Play(town(), nil, []int{600, 600, 720, 720})
	if want := []int{0, 0, 0, 2, 0}; e != api.OK || !slices.Equal(got, want) {
		t.Error(got, e)
	}
}

func TestPlayEdges(t *testing.T) {
	wide := func(m api.SeepMap) api.SeepMap { // in which each thaw can be true
		return changed(m, func(m *api.SeepMap) {
			for year := range m.Thaws {
				m.Thaws[year] = span(0, 20000)
			}
		})
	}
	chain := ways([]int{0, 0, 0}, way(2, 3, 30), way(1, 2, 20), way(0, 1, 10))
	for _, x := range []struct {
		name  string
		m     api.SeepMap
		dykes []int
		thaws []int
		want  []int // of the first points
	}{
		{"just thawed", ways([]int{0}, way(0, 1, 100)), nil, []int{100}, []int{0, 0, 1}},
		{"just frozen", ways([]int{0}, way(0, 1, 100)), nil, []int{99}, []int{0, 1, 1}},
		{"never frozen", ways([]int{0}, way(0, 1, 0)), nil, []int{0}, []int{0, 0, 1}},
		{"the deepest one", ways([]int{0}, way(0, 1, 20000)), nil, []int{20000}, []int{0, 0, 1}},
		{"in the last year", ways([]int{0, 0, 0}, way(0, 1, 100)), nil, []int{99, 0, 100}, []int{0, 2, 3}},
		{"the wrong way", ways([]int{0}, way(1, 0, 0)), nil, []int{100}, []int{0, 1}},
		{"through some edges in a year, whatever their order", chain, nil, []int{9, 30, 0}, []int{0, 1, 1, 1, 3}},
		{"some way in each year, and it stays", chain, nil, []int{10, 20, 30}, []int{0, 0, 1, 2, 3}},
		{"too little thaw for the last edge", chain, nil, []int{20, 10, 20}, []int{0, 0, 0, 3}},
		{"all in the year of the most thaw", chain, nil, []int{0, 30, 10}, []int{0, 1, 1, 1}},
		{"a dyke", chain, []int{1}, []int{30, 30, 30}, []int{0, 0, 3, 3}},
		{"a dyke on all", chain, []int{0, 1, 2}, []int{30, 30, 30}, []int{0, 3, 3, 3}},
		{"a dyke on one of two edges", ways([]int{0}, way(0, 1, 5), way(0, 1, 6)), []int{0}, []int{6}, []int{0, 0}},
		{"a dyke on the other one", ways([]int{0}, way(0, 1, 5), way(0, 1, 6)), []int{1}, []int{5}, []int{0, 0}},
		{"a way round", ways([]int{0, 0}, way(0, 1, 9), way(0, 2, 3), way(2, 1, 4)), nil, []int{3, 4}, []int{0, 1, 0}},
		{"in a circle", ways([]int{0}, way(0, 1, 1), way(1, 2, 1), way(2, 0, 1), way(2, 1, 1)), nil, []int{1}, []int{0, 0, 0, 1}},
		{"no waste", changed(chain, func(m *api.SeepMap) { m.Wastes = nil }), nil, []int{30, 30, 30}, []int{3, 3, 3, 3}},
		{"waste at all points", changed(chain, func(m *api.SeepMap) { m.Wastes = []int{0, 1, 2, 3} }), []int{2}, []int{0, 0, 0}, []int{0, 0, 0, 0, 3}},
		{"from two points", changed(chain, func(m *api.SeepMap) { m.Wastes = []int{0, 2} }), []int{1}, []int{0, 10, 30}, []int{0, 1, 0, 2}},
	} {
		got, e := Play(wide(x.m), x.dykes, x.thaws)
		if e != api.OK || len(got) != 10 || !slices.Equal(got[:len(x.want)], x.want) {
			t.Error(x.name, got, e)
		}
	}
}

func TestPlayErrors(t *testing.T) {
	true4 := []int{500, 550, 600, 650}
	fails := func(name string, m api.SeepMap, dykes, thaws []int) {
		t.Helper()
		if got, e := Play(m, dykes, thaws); e != api.ErrArg || got != nil {
			t.Error(name, dykes, thaws, got, e)
		}
	}
	if _, e := Play(town(), nil, true4); e != api.OK {
		t.Error(e)
	}
	bad := badMaps()
	for _, name := range names(bad) {
		fails(name, bad[name], nil, true4)
	}
	for _, dykes := range badDykes() {
		fails("dykes", town(), dykes, true4)
	}
	for _, thaws := range [][]int{nil, true4[:3], append(true4, 650), {499, 550, 600, 650}, {651, 550, 600, 650}, {500, 550, 600, 649}, {500, 550, 600, 951}, {500, 751, 600, 650}, {-1, 550, 600, 650}, {500, 550, math.MaxInt, 650}, {500, 550, math.MinInt, 650}} {
		fails("thaws", town(), nil, thaws)
	}
	for _, thaws := range choices([]api.Span{span(500, 500), span(550, 550), span(600, 600), span(650, 651)}) {
		if _, e := Play(town(), nil, thaws); e != api.OK {
			t.Error(thaws, e)
		}
	}
}

// badDykes returns lists that are no dykes of the example.
func badDykes() [][]int {
	return [][]int{{-1}, {6}, {4}, {0, 4}, {0, 0}, {2, 1}, {0, 1, 6}, {0, 1, 2, 3, 4, 5}, {5, -1}, {math.MinInt}, {math.MaxInt}, {64}, {0, 64}, slices.Repeat([]int{1}, 100)}
}

func TestPlaySomeMaps(t *testing.T) {
	r := source()
	later := 0
	for i := range 3000 {
		m := small(r)
		if i%5 == 0 {
			m = large(r)
		}
		s := slow{m, someDykes(r, m)}
		thaws := someTruth(r, m).Thaws
		got, e := Play(m, s.dykes, thaws)
		if want := s.foul(thaws); e != api.OK || !slices.Equal(got, want) {
			t.Fatal(s, thaws, got, want, e)
		}
		if slices.ContainsFunc(got, func(year int) bool { return year > 0 && year < len(thaws) }) {
			later++
		}
	}
	if later < 300 {
		t.Error(later)
	}
}
