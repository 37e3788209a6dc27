package seep

import (
	"math"
	"slices"
	"testing"

	"talik/api"
)

// P7.4 (Pour, Drain)

func TestPourExample(t *testing.T) {
	got, ledger, e := Pour(town(), exampleTruth())
	if e != api.OK || !slices.Equal(got, []int{2, 2, 4}) || ledger != (api.SeepLedger{All: 730, Out: 0, Kept: 730}) {
		t.Error(got, ledger, e)
	}
}

func exampleTruth() api.SeepTruth {
	return api.SeepTruth{Thaws: []int{500, 600, 640, 700}, Volumes: []int{110, 220, 400}, Rooms: []int{15, 100, 350}}
}

func TestPourEdges(t *testing.T) {
	const never = 20000
	for _, x := range []struct {
		name  string
		thaws []int
		lakes []api.SeepLake
		want  []int
		out   int
		kept  int
	}{
		{"no lakes", []int{5}, nil, nil, 0, 0},
		{"just thawed", []int{5}, []api.SeepLake{lake(-1, 5, 7, 0)}, []int{0}, 7, 0},
		{"just frozen", []int{5}, []api.SeepLake{lake(-1, 6, 7, 0)}, []int{1}, 0, 7},
		{"a rim that is never frozen", []int{0}, []api.SeepLake{lake(-1, 0, 7, 0)}, []int{0}, 7, 0},
		{"in the last year", []int{5, 4, 6}, []api.SeepLake{lake(-1, 6, 7, 0)}, []int{2}, 7, 0},
		{"once", []int{6, 7, 8}, []api.SeepLake{lake(-1, 6, 7, 0)}, []int{0}, 7, 0},
		{"an empty one", []int{6}, []api.SeepLake{lake(-1, 6, 0, 0)}, []int{0}, 0, 0},
		{"a lake without room, to which nothing comes", []int{6}, []api.SeepLake{lake(-1, never, 7, 0)}, []int{1}, 0, 7},
		{"a lake without room, to which an empty one drains", []int{6}, []api.SeepLake{lake(1, 6, 0, 0), lake(-1, never, 7, 0)}, []int{0, 1}, 0, 7},
		{"as much as there is room for", []int{6}, []api.SeepLake{lake(1, 6, 9, 0), lake(-1, never, 7, 9)}, []int{0, 1}, 0, 16},
		{"one more than there is room for", []int{6}, []api.SeepLake{lake(1, 6, 9, 0), lake(-1, never, 7, 8)}, []int{0, 0}, 16, 0},
		{"its own water takes no room", []int{6}, []api.SeepLake{lake(1, 6, 9, 0), lake(-1, never, 1000, 9)}, []int{0, 1}, 0, 1009},
		{"a whole chain in a year", []int{0, 6}, []api.SeepLake{lake(1, 6, 2, 0), lake(2, never, 3, 1), lake(3, never, 4, 4), lake(-1, never, 5, 8)}, []int{1, 1, 1, 1}, 14, 0},
		{"a chain that ends where there is room", []int{0, 6}, []api.SeepLake{lake(1, 6, 2, 0), lake(2, never, 3, 1), lake(3, never, 4, 5), lake(-1, never, 5, 8)}, []int{1, 1, 2, 2}, 0, 14},
		{"two that come together", []int{5, 6}, []api.SeepLake{lake(2, 6, 2, 0), lake(2, 5, 3, 0), lake(-1, never, 4, 4)}, []int{1, 0, 1}, 9, 0},
		{"two that come together, with room", []int{5, 6}, []api.SeepLake{lake(2, 6, 2, 0), lake(2, 5, 3, 0), lake(-1, never, 4, 5)}, []int{1, 0, 2}, 0, 9},
		{"what comes to a lake that has drained goes on", []int{5, 6}, []api.SeepLake{lake(1, 6, 2, 0), lake(2, 5, 3, 0), lake(-1, never, 4, 4)}, []int{1, 0, 1}, 9, 0},
		{"and on", []int{4, 5, 6}, []api.SeepLake{lake(1, 6, 2, 0), lake(2, 5, 3, 0), lake(3, 4, 4, 0), lake(-1, never, 5, 8)}, []int{2, 1, 0, 2}, 14, 0},
		{"and out of the map", []int{5, 6}, []api.SeepLake{lake(1, 6, 2, 0), lake(-1, 5, 3, 0)}, []int{1, 0}, 5, 0},
		{"what comes to one that drains later in the year", []int{6}, []api.SeepLake{lake(1, 6, 2, 0), lake(2, 6, 3, 9), lake(-1, never, 4, 5)}, []int{0, 0, 1}, 0, 9},
		{"what came in an earlier year goes on, too", []int{5, 6}, []api.SeepLake{lake(1, 5, 2, 0), lake(2, 6, 3, 9), lake(-1, never, 4, 4)}, []int{0, 1, 1}, 9, 0},
		{"past a lake", []int{6}, []api.SeepLake{lake(2, 6, 2, 0), lake(2, never, 3, 0), lake(-1, never, 4, 2)}, []int{0, 1, 1}, 0, 9},
		{"out of the map, past a lake", []int{6}, []api.SeepLake{lake(-1, 6, 2, 0), lake(-1, never, 3, 0)}, []int{0, 1}, 2, 3},
		{"the most of all", []int{never}, slices.Repeat([]api.SeepLake{lake(-1, never, 1000000, 1000000)}, 6), []int{0, 0, 0, 0, 0, 0}, 6000000, 0},
	} {
		m, truth := lakes(x.thaws, x.lakes...)
		got, ledger, e := Pour(m, truth)
		if want := (api.SeepLedger{All: x.out + x.kept, Out: x.out, Kept: x.kept}); e != api.OK || !slices.Equal(got, x.want) || ledger != want {
			t.Error(x.name, got, ledger, e)
		}
	}
}

func TestPourErrors(t *testing.T) {
	fails := func(name string, m api.SeepMap, truth api.SeepTruth) {
		t.Helper()
		if got, ledger, e := Pour(m, truth); e != api.ErrArg || got != nil || ledger != (api.SeepLedger{}) {
			t.Error(name, truth, got, ledger, e)
		}
	}
	bad := badMaps()
	for _, name := range names(bad) {
		fails(name, bad[name], exampleTruth())
	}
	for name, list := range map[string]func(truth *api.SeepTruth) *[]int{
		"thaws":   func(truth *api.SeepTruth) *[]int { return &truth.Thaws },
		"volumes": func(truth *api.SeepTruth) *[]int { return &truth.Volumes },
		"rooms":   func(truth *api.SeepTruth) *[]int { return &truth.Rooms },
	} {
		last := len(*list(new(exampleTruth()))) - 1
		for number := range last + 1 {
			for _, n := range []int{-1, 9, 951, 1000001, math.MinInt, math.MaxInt} {
				truth := exampleTruth()
				(*list(&truth))[number] = n
				fails(name, town(), truth)
			}
		}
		for _, change := range []func(l []int) []int{
			func(l []int) []int { return nil },
			func(l []int) []int { return l[:last] },
			func(l []int) []int { return append(l, l[last]) },
		} {
			truth := exampleTruth()
			*list(&truth) = change(*list(&truth))
			fails(name, town(), truth)
		}
	}
}

func TestPourBounds(t *testing.T) {
	for _, x := range []struct {
		change func(truth *api.SeepTruth)
		e      api.Errno
	}{
		{func(truth *api.SeepTruth) { truth.Volumes[0] = 100 }, api.OK},
		{func(truth *api.SeepTruth) { truth.Volumes[0] = 99 }, api.ErrArg},
		{func(truth *api.SeepTruth) { truth.Volumes[0] = 120 }, api.OK},
		{func(truth *api.SeepTruth) { truth.Volumes[0] = 121 }, api.ErrArg},
		{func(truth *api.SeepTruth) { truth.Rooms[2] = 300 }, api.OK},
		{func(truth *api.SeepTruth) { truth.Rooms[2] = 299 }, api.ErrArg},
		{func(truth *api.SeepTruth) { truth.Rooms[2] = 400 }, api.OK},
		{func(truth *api.SeepTruth) { truth.Rooms[2] = 401 }, api.ErrArg},
		{func(truth *api.SeepTruth) { truth.Thaws[3] = 950 }, api.OK},
		{func(truth *api.SeepTruth) { truth.Thaws[3] = 951 }, api.ErrArg},
		{func(truth *api.SeepTruth) { truth.Thaws[3] = 650 }, api.OK},
		{func(truth *api.SeepTruth) { truth.Thaws[3] = 649 }, api.ErrArg},
	} {
		truth := exampleTruth()
		x.change(&truth)
		if _, _, e := Pour(town(), truth); e != x.e {
			t.Error(truth, e)
		}
	}
}

func TestPourSomeMaps(t *testing.T) {
	r := source()
	later, out := 0, 0
	for i := range 5000 {
		m := small(r)
		if i%4 == 0 {
			m = large(r)
		}
		truth := someTruth(r, m)
		got, ledger, e := Pour(m, truth)
		want, wantLedger := slowPour(m, truth)
		if e != api.OK || !slices.Equal(got, want) || ledger != wantLedger {
			t.Fatal(m, truth, got, want, ledger, wantLedger, e)
		}
		if ledger.All != ledger.Out+ledger.Kept {
			t.Fatal("water is lost", m, truth, ledger)
		}
		for number, year := range got {
			if year < len(m.Thaws) && !slices.ContainsFunc(truth.Thaws[:year+1], func(thaw int) bool { return thaw >= m.Lakes[number].Rim }) {
				later++ // its rim has not thawed
			}
		}
		if ledger.Out > 0 && ledger.Kept > 0 {
			out++
		}
	}
	if later < 300 || out < 300 {
		t.Error(later, out)
	}
}

func TestDrainExample(t *testing.T) {
	if got, e := Drain(town()); e != api.OK || !slices.Equal(got, []api.Span{span(0, 3), span(0, 4), span(0, 4)}) {
		t.Error(got, e)
	}
}

func TestDrainEdges(t *testing.T) {
	const never = 20000
	thaws := []api.Span{span(4, 5), span(5, 6)}
	for _, x := range []struct {
		name  string
		lakes []api.SeepLake
		want  []api.Span
	}{
		{"no lakes", nil, nil},
		{"at once", []api.SeepLake{lake(-1, 4, 1, 1)}, []api.Span{span(0, 0)}},
		{"in either year", []api.SeepLake{lake(-1, 5, 1, 1)}, []api.Span{span(0, 1)}},
		{"in the second year, or never", []api.SeepLake{lake(-1, 6, 1, 1)}, []api.Span{span(1, 2)}},
		{"never", []api.SeepLake{lake(-1, 7, 1, 1)}, []api.Span{span(2, 2)}},
		{"perhaps too much", []api.SeepLake{{Into: 1, Rim: 4, Volume: span(3, 5)}, lake(-1, never, 1, 4)}, []api.Span{span(0, 0), span(0, 2)}},
		{"surely too much", []api.SeepLake{{Into: 1, Rim: 4, Volume: span(3, 5)}, {Into: -1, Rim: never, Room: span(1, 2)}}, []api.Span{span(0, 0), span(0, 0)}},
		{"never too much", []api.SeepLake{{Into: 1, Rim: 4, Volume: span(3, 5)}, {Into: -1, Rim: never, Room: span(5, 6)}}, []api.Span{span(0, 0), span(2, 2)}},
		{"perhaps too little room", []api.SeepLake{lake(1, 4, 4, 0), {Into: -1, Rim: never, Room: span(3, 4)}}, []api.Span{span(0, 0), span(0, 2)}},
		{"water and room", []api.SeepLake{{Into: 1, Rim: 5, Volume: span(4, 5)}, {Into: -1, Rim: never, Room: span(4, 5)}}, []api.Span{span(0, 1), span(0, 2)}},
		{"the later one of two", []api.SeepLake{lake(2, 5, 2, 0), lake(2, 6, 2, 0), lake(-1, never, 1, 3)}, []api.Span{span(0, 1), span(1, 2), span(1, 2)}},
		{"its own water changes nothing", []api.SeepLake{lake(1, 4, 2, 0), {Into: -1, Rim: never, Volume: span(0, 1000000), Room: span(2, 2)}}, []api.Span{span(0, 0), span(2, 2)}},
	} {
		m := api.SeepMap{Points: 1, Thaws: thaws, Lakes: x.lakes}
		if got, e := Drain(m); e != api.OK || !slices.Equal(got, x.want) {
			t.Error(x.name, got, e)
		}
	}
}

func TestDrainErrors(t *testing.T) {
	bad := badMaps()
	for _, name := range names(bad) {
		if got, e := Drain(bad[name]); e != api.ErrArg || got != nil {
			t.Error(name, got, e)
		}
	}
}

// TestDrainOfAllTruths pours all truths of small maps: no lake drains too early or too late in any, and each as early and as late as is told in some.
func TestDrainOfAllTruths(t *testing.T) {
	r := source()
	apart := 0
	for range 400 {
		m := small(r)
		got, e := Drain(m)
		if want := slowDrain(m); e != api.OK || !slices.Equal(got, want) {
			t.Fatal(m, got, want, e)
		}
		if slices.ContainsFunc(got, func(s api.Span) bool { return s.Low < s.High }) {
			apart++
		}
	}
	if apart < 50 {
		t.Error(apart)
	}
}

// TestDrainOfLargeMaps pours some truths of maps that have too many for all of them.
func TestDrainOfLargeMaps(t *testing.T) {
	r := source()
	for range 500 {
		m := large(r)
		known, e := Drain(m)
		if e != api.OK {
			t.Fatal(m, e)
		}
		for range 20 {
			truth := someTruth(r, m)
			drained, _, e := Pour(m, truth)
			if e != api.OK {
				t.Fatal(m, truth, e)
			}
			for number, year := range drained {
				if year < known[number].Low || year > known[number].High {
					t.Fatal(m, truth, known, drained)
				}
			}
		}
	}
}
