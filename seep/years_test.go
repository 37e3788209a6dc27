package seep

import (
	"math"
	"slices"
	"testing"

	"talik/api"
)

// P7.2 (Years, Route)

func TestYearsExample(t *testing.T) {
	for _, x := range []struct {
		dykes []int
		want  []api.Span
	}{
		{nil, []api.Span{span(0, 0), span(0, 0), span(0, 2), span(1, 4), span(0, 2)}},
		{[]int{2}, []api.Span{span(0, 0), span(0, 0), span(2, 4), span(2, 4), span(2, 4)}},
	} {
		if got, e := Years(town(), x.dykes); e != api.OK || !slices.Equal(got, x.want) {
			t.Error(x.dykes, got, e)
		}
	}
}

func TestYearsEdges(t *testing.T) {
	m := ways(nil, way(0, 1, 100), way(1, 2, 200))
	for _, x := range []struct {
		name   string
		thaws  []api.Span
		wastes []int
		want   []api.Span // of the first points
	}{
		{"at both ends", []api.Span{span(99, 100), span(100, 101)}, []int{0}, []api.Span{span(0, 0), span(0, 1), span(2, 2)}},
		{"just not", []api.Span{span(98, 99), span(0, 99)}, []int{0}, []api.Span{span(0, 0), span(2, 2), span(2, 2)}},
		{"perhaps never", []api.Span{span(0, 199), span(0, 200)}, []int{0}, []api.Span{span(0, 0), span(0, 2), span(1, 2)}},
		{"surely, year by year", []api.Span{span(100, 199), span(200, 200)}, []int{0}, []api.Span{span(0, 0), span(0, 0), span(1, 1)}},
		{"no thaw", []api.Span{span(0, 0)}, []int{0}, []api.Span{span(0, 0), span(1, 1), span(1, 1)}},
		{"no waste", []api.Span{span(200, 200)}, nil, []api.Span{span(1, 1), span(1, 1), span(1, 1)}},
		{"waste further on", []api.Span{span(100, 300)}, []int{1}, []api.Span{span(1, 1), span(0, 0), span(0, 1)}},
	} {
		got, e := Years(changed(m, func(m *api.SeepMap) { m.Thaws, m.Wastes = x.thaws, x.wastes }), nil)
		if e != api.OK || len(got) != 10 || !slices.Equal(got[:len(x.want)], x.want) {
			t.Error(x.name, got, e)
		}
	}
}

func TestYearsErrors(t *testing.T) {
	bad := badMaps()
	for _, name := range names(bad) {
		if got, e := Years(bad[name], nil); e != api.ErrArg || got != nil {
			t.Error(name, got, e)
		}
	}
	for _, dykes := range badDykes() {
		if got, e := Years(town(), dykes); e != api.ErrArg || got != nil {
			t.Error(dykes, got, e)
		}
	}
}

// TestYearsOfAllTruths plays all truths of small maps: no point is foul too early or too late in any, and each as early and as late as is told in some.
func TestYearsOfAllTruths(t *testing.T) {
	r := source()
	apart := 0
	for range 1500 {
		m := small(r)
		s := slow{m, someDykes(r, m)}
		got, e := Years(m, s.dykes)
		if want := s.years(); e != api.OK || !slices.Equal(got, want) {
			t.Fatal(s, got, want, e)
		}
		played := slices.Repeat([]api.Span{span(len(m.Thaws), 0)}, m.Points)
		for _, thaws := range choices(m.Thaws) {
			first, e := Play(m, s.dykes, thaws)
			if e != api.OK {
				t.Fatal(s, thaws, e)
			}
			for point, year := range first {
				played[point] = span(min(played[point].Low, year), max(played[point].High, year))
			}
		}
		if !slices.Equal(got, played) {
			t.Fatal(s, got, played)
		}
		if slices.ContainsFunc(got, func(s api.Span) bool { return s.Low < s.High }) {
			apart++
		}
	}
	if apart < 100 {
		t.Error(apart)
	}
}

// TestYearsOfLargeMaps plays some truths of maps that have too many for all of them.
func TestYearsOfLargeMaps(t *testing.T) {
	r := source()
	for range 300 {
		m := large(r)
		dykes := someDykes(r, m)
		got, e := Years(m, dykes)
		if e != api.OK {
			t.Fatal(m, dykes, e)
		}
		for range 20 {
			first, _ := Play(m, dykes, someTruth(r, m).Thaws)
			for point, year := range first {
				if year < got[point].Low || year > got[point].High {
					t.Fatal(m, dykes, point, year, got)
				}
			}
		}
		earliest, _ := Play(m, dykes, pick(m.Thaws, func(s api.Span) int { return s.High }))
		latest, _ := Play(m, dykes, pick(m.Thaws, func(s api.Span) int { return s.Low }))
		for point, s := range got {
			if s != span(earliest[point], latest[point]) {
				t.Fatal(m, dykes, point, got, earliest, latest)
			}
		}
	}
}

func TestRouteExample(t *testing.T) {
	for _, x := range []struct {
		dykes []int
		want  []int
		e     api.Errno
	}{
		{nil, []int{2, 3}, api.OK},
		{[]int{2}, []int{0, 5, 3}, api.OK},
		{[]int{0, 2}, nil, api.ErrNone},
	} {
		if got, e := Route(town(), x.dykes, 3); e != x.e || !slices.Equal(got, x.want) {
			t.Error(x.dykes, got, e)
		}
	}
}

func TestRouteEdges(t *testing.T) {
	late := ways([]int{30, 90, 10}, way(0, 9, 90), way(0, 1, 0), way(1, 2, 30), way(2, 9, 30)) // the shorter way is open a year later
	turn := ways([]int{10, 20}, way(1, 9, 10), way(0, 1, 20), way(0, 2, 10), way(2, 1, 5))     // and here, too
	two := func(wastes ...int) api.SeepMap {
		m := ways([]int{9}, way(0, 5, 1), way(3, 4, 1), way(5, 9, 1), way(4, 9, 1), way(3, 5, 1))
		m.Wastes = wastes
		return m
	}
	for _, x := range []struct {
		name  string
		m     api.SeepMap
		dykes []int
		point int
		want  []int
		e     api.Errno
	}{
		{"to waste", town(), nil, 0, nil, api.OK},
		{"to waste, behind dykes", town(), []int{0, 1, 2, 3, 5}, 0, nil, api.OK},
		{"to waste that other waste comes to", ways([]int{9}, way(1, 0, 0), way(0, 1, 0)), nil, 0, nil, api.OK},
		{"an edge", town(), nil, 1, []int{0}, api.OK},
		{"to no well", town(), nil, 4, []int{2, 4}, api.OK},
		{"where nothing leads", ways([]int{9}), nil, 1, nil, api.ErrNone},
		{"where nothing leads from waste", ways([]int{9}, way(2, 1, 0)), nil, 1, nil, api.ErrNone},
		{"just thawed", ways([]int{9, 7}, way(0, 1, 9)), nil, 1, []int{0}, api.OK},
		{"just frozen", ways([]int{9, 7}, way(0, 1, 10)), nil, 1, nil, api.ErrNone},
		{"both edges in the last year", ways([]int{9, 10}, way(0, 1, 10), way(1, 2, 10)), nil, 2, []int{0, 1}, api.OK},
		{"both edges in the first year", ways([]int{11, 10}, way(0, 1, 10), way(1, 2, 11)), nil, 2, []int{0, 1}, api.OK},
		{"a shorter one that is too late", late, nil, 9, []int{1, 2, 3}, api.OK},
		{"the shorter one behind a dyke", late, []int{2}, 9, []int{0}, api.OK},
		{"a longer one in time", turn, nil, 9, []int{2, 3, 0}, api.OK},
		{"the longer one behind a dyke", turn, []int{3}, 9, []int{1, 0}, api.OK},
		{"the first one of two edges", ways([]int{9}, way(0, 9, 5), way(0, 9, 4)), nil, 9, []int{0}, api.OK},
		{"the second one behind a dyke", ways([]int{9}, way(0, 9, 5), way(0, 9, 4)), []int{0}, 9, []int{1}, api.OK},
		{"the first one of two edges is too deep", ways([]int{4, 5}, way(0, 9, 5), way(0, 9, 4)), nil, 9, []int{1}, api.OK},
		{"the first edge counts, not the last one", ways([]int{9}, way(2, 9, 0), way(0, 1, 0), way(0, 2, 0), way(1, 9, 0)), nil, 9, []int{1, 3}, api.OK},
		{"the first edge counts, not the first waste", two(0, 3), nil, 9, []int{0, 2}, api.OK},
		{"from the second waste", two(3), nil, 9, []int{1, 3}, api.OK},
		{"from the waste nearest", two(0, 3, 4), nil, 9, []int{3}, api.OK},
		{"from a later waste by an earlier edge", changed(ways([]int{9}, way(3, 9, 1), way(0, 9, 1)), func(m *api.SeepMap) { m.Wastes = []int{0, 3} }), nil, 9, []int{0}, api.OK},
		{"nine edges, backwards", ways([]int{1}, way(8, 9, 1), way(7, 8, 1), way(6, 7, 1), way(5, 6, 1), way(4, 5, 1), way(3, 4, 1), way(2, 3, 1), way(1, 2, 1), way(0, 1, 1)), nil, 9, []int{8, 7, 6, 5, 4, 3, 2, 1, 0}, api.OK},
		{"two ways on after some edges", ways([]int{1}, way(0, 1, 1), way(1, 2, 1), way(2, 3, 1), way(3, 4, 1), way(3, 5, 1), way(4, 9, 1)), nil, 9, []int{0, 1, 2, 3, 5}, api.OK},
		{"no circles", ways([]int{5, 6}, way(0, 1, 5), way(1, 0, 5), way(1, 2, 6), way(2, 1, 5), way(2, 9, 5)), nil, 9, []int{0, 2, 4}, api.OK},
	} {
		if got, e := Route(x.m, x.dykes, x.point); e != x.e || !slices.Equal(got, x.want) {
			t.Error(x.name, got, e)
		}
	}
}

// TestRouteInTimeThroughALaterPoint has a point that the fewest edges reach too late for what follows.
func TestRouteInTimeThroughALaterPoint(t *testing.T) {
	m := ways([]int{20, 50}, way(0, 5, 50), way(0, 1, 0), way(1, 5, 20), way(5, 9, 10))
	if got, e := Route(m, nil, 9); e != api.OK || !slices.Equal(got, []int{1, 2, 3}) {
		t.Error(got, e)
	}
	m.Edges[3].Depth = 50
	if got, e := Route(m, nil, 9); e != api.OK || !slices.Equal(got, []int{0, 3}) {
		t.Error(got, e)
	}
}

func TestRouteErrors(t *testing.T) {
	fails := func(name string, m api.SeepMap, dykes []int, point int) {
		t.Helper()
		if got, e := Route(m, dykes, point); e != api.ErrArg || got != nil {
			t.Error(name, dykes, point, got, e)
		}
	}
	bad := badMaps()
	for _, name := range names(bad) {
		fails(name, bad[name], nil, 0)
	}
	for _, dykes := range badDykes() {
		fails("dykes", town(), dykes, 3)
		fails("dykes", town(), dykes, 0)
	}
	for _, point := range []int{-1, 5, 10, math.MinInt, math.MaxInt} {
		fails("point", town(), nil, point)
	}
}

func TestRouteOfAllLists(t *testing.T) {
	r := source()
	long, none := 0, 0
	for i := range 3000 {
		m := small(r)
		if i%10 == 0 {
			m = large(r)
		}
		s := slow{m, someDykes(r, m)}
		years, _ := Years(m, s.dykes)
		for point, known := range years {
			got, e := Route(m, s.dykes, point)
			want, found := s.route(point, known.Low)
			if found != (e == api.OK) || !found && e != api.ErrNone || !slices.Equal(got, want) {
				t.Fatal(s, point, got, want, e)
			}
			if found != (known.Low < len(m.Thaws)) {
				t.Fatal("a route to what cannot be foul, or none to what can", s, point, known, got, e)
			}
			if len(got) > 2 {
				long++
			}
			if !found {
				none++
			}
		}
	}
	if long < 100 || none < 100 {
		t.Error(long, none)
	}
}
