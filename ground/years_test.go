package ground

import (
	"slices"
	"testing"

	"talik/api"
)

// P1.2 (Years) and P1.3 (Exceeds)

func TestYearsExample(t *testing.T) {
	seen, e := Years(place(), years(2))
	want := []api.GroundSeen{
		{Thaw: sp(500, 610), Left: sp(0, 37000), Talik: api.GroundMay},
		{Thaw: sp(500, 795), Left: sp(0, 74000), Talik: api.GroundMay},
	}
	if e != api.OK || !slices.Equal(seen, want) {
		t.Error(seen, e)
	}
}

func TestYearsEdges(t *testing.T) {
	bare := place()
	bare.Warm = sp(0, 0)
	for _, x := range []struct {
		name  string
		place api.GroundPlace
		years []api.GroundYear
		want  []api.GroundSeen
	}{
		{"none", bare, nil, nil},
		{"empty", bare, []api.GroundYear{}, nil},
		{"just the first layer, and less", bare, []api.GroundYear{{Summer: sp(59999, 60000), Winter: sp(60000, 60000)}},
			[]api.GroundSeen{{Thaw: sp(499, 550), Talik: api.GroundNone}}},
		{"one that is left, or none", bare, []api.GroundYear{{Summer: sp(1, 1), Winter: sp(0, 1)}},
			[]api.GroundSeen{{Left: sp(0, 1), Talik: api.GroundMay}}},
		{"surely one that is left", bare, []api.GroundYear{{Summer: sp(2, 3), Winter: sp(0, 1)}},
			[]api.GroundSeen{{Left: sp(1, 3), Talik: api.GroundSurely}}},
		{"nothing happens", bare, []api.GroundYear{{}}, []api.GroundSeen{{Talik: api.GroundNone}}},
		{"a talik that can freeze as a whole", bare, []api.GroundYear{{Summer: sp(60000, 60000), Winter: sp(50000, 60000)}, {Summer: sp(6000, 6000), Winter: sp(1000000, 1000000)}, {Summer: sp(1200, 1200)}},
			[]api.GroundSeen{{Thaw: sp(500, 550), Left: sp(0, 10000), Talik: api.GroundMay}, {Thaw: sp(50, 550), Talik: api.GroundNone}, {Thaw: sp(10, 12), Left: sp(1200, 1200), Talik: api.GroundSurely}}},
		{"snow that holds back all, or nothing", bare, []api.GroundYear{{Summer: sp(600, 600), Winter: sp(600, 600), Snow: sp(0, 1000)}},
			[]api.GroundSeen{{Thaw: sp(5, 6), Left: sp(0, 600), Talik: api.GroundMay}}},
	} {
		seen, e := Years(x.place, x.years)
		if e != api.OK || !slices.Equal(seen, x.want) {
			t.Error(x.name, seen, e)
		}
	}
}

// words returns the word for whether any heat is left in all truths, in none, or in some.
func words(all, any bool) api.GroundWord {
	if all {
		return api.GroundSurely
	}
	if any {
		return api.GroundMay
	}
	return api.GroundNone
}

// slowYears finds what is known by looking at all truths.
func slowYears(p api.GroundPlace, l []api.GroundYear) []api.GroundSeen {
	seen := make([]api.GroundSeen, len(l))
	all, any := make([]bool, len(l)), make([]bool, len(l))
	first := true
	for truth := range truths(p, l) {
		thaws, lefts, _ := slowPlay(p, truth, 0)
		for i := range l {
			if first {
				seen[i] = api.GroundSeen{Thaw: sp(thaws[i], thaws[i]), Left: sp(lefts[i], lefts[i])}
				all[i] = true
			}
			seen[i].Thaw = sp(min(seen[i].Thaw.Low, thaws[i]), max(seen[i].Thaw.High, thaws[i]))
			seen[i].Left = sp(min(seen[i].Left.Low, lefts[i]), max(seen[i].Left.High, lefts[i]))
			all[i] = all[i] && lefts[i] > 0
			any[i] = any[i] || lefts[i] > 0
		}
		first = false
	}
	for i := range seen {
		seen[i].Talik = words(all[i], any[i])
	}
	return seen
}

func TestYearsOverAllTruths(t *testing.T) {
	r := source()
	for range 400 {
		p, l := small(r)
		want := slowYears(p, l)
		seen, e := Years(p, l)
		if e != api.OK || !slices.Equal(seen, want) {
			t.Fatal(p, l, seen, want, e)
		}
	}
}

func TestYearsContainTruths(t *testing.T) {
	r := source()
	for range 100 {
		p, l := large(r)
		seen, e := Years(p, l)
		if e != api.OK || len(seen) != len(l) {
			t.Fatal(seen, e)
		}
		for range 20 {
			truth := someTruth(r, p, l)
			for many := range len(l) {
				cut := parts(len(p.Layers), append(slices.Clone(truth.Melts), numbersOf(truth, many+1)...))
				thaws, ledger, e := Play(p, l[:many+1], cut)
				if e != api.OK {
					t.Fatal(e)
				}
				x := seen[many]
				if thaws[many] < x.Thaw.Low || thaws[many] > x.Thaw.High || ledger.Kept < x.Left.Low || ledger.Kept > x.Left.High {
					t.Fatal(p, l, truth, many, thaws, ledger, x)
				}
			}
		}
	}
}

// numbersOf returns the numbers of the first years of a truth.
func numbersOf(t api.GroundTruth, many int) []int {
	var l []int
	for i := range many {
		l = append(l, t.Warms[i], t.Summers[i], t.Winters[i], t.Snows[i])
	}
	return l
}

func TestYearsErrors(t *testing.T) {
	fails := func(name string, p api.GroundPlace, l []api.GroundYear, want api.Errno) {
		if seen, e := Years(p, l); e != want || seen != nil {
			t.Error(name, seen, e)
		}
	}
	fails("13 years", place(), years(13), api.ErrLong)
	fails("13 years of no place", api.GroundPlace{}, years(13), api.ErrLong)
	fails("13 years that are none", place(), make([]api.GroundYear, 13), api.ErrLong)
	for name, p := range badPlaces() {
		fails(name, p, years(2), api.ErrArg)
	}
	for name, l := range badYears() {
		fails(name, place(), l, api.ErrArg)
	}
	if seen, e := Years(place(), years(12)); e != api.OK || len(seen) != 12 {
		t.Error(seen, e)
	}
}

func TestExceedsExample(t *testing.T) {
	for _, x := range []struct{ depth, can, surely int }{{610, 1, 2}, {499, 0, 0}, {609, 0, 2}, {500, 0, 2}, {794, 1, 2}, {795, 2, 2}, {0, 0, 0}, {2000000, 2, 2}} {
		can, surely, e := Exceeds(place(), years(2), x.depth)
		if e != api.OK || can != x.can || surely != x.surely {
			t.Error(x, can, surely, e)
		}
	}
	for _, l := range [][]api.GroundYear{nil, {}} {
		if can, surely, e := Exceeds(place(), l, 0); e != api.OK || can != 0 || surely != 0 {
			t.Error(can, surely, e)
		}
	}
	// what is exceeded later only: a cold year comes first
	later := append([]api.GroundYear{{}}, years(1)...)
	if can, surely, e := Exceeds(place(), later, 0); e != api.OK || can != 0 || surely != 1 {
		t.Error(can, surely, e)
	}
}

func TestExceedsOverAllTruths(t *testing.T) {
	r := source()
	for range 300 {
		p, l := small(r)
		any, all := make([]bool, len(l)), slices.Repeat([]bool{true}, len(l))
		depth := r.IntN(12)
		for truth := range truths(p, l) {
			thaws, _, _ := slowPlay(p, truth, 0)
			for i, thaw := range thaws {
				any[i] = any[i] || thaw > depth
				all[i] = all[i] && thaw > depth
			}
		}
		can, surely, e := Exceeds(p, l, depth)
		if e != api.OK || can != firstOf(any) || surely != firstOf(all) {
			t.Fatal(p, l, depth, can, surely, any, all, e)
		}
	}
}

// firstOf returns the number of the first true, or of all.
func firstOf(l []bool) int {
	if i := slices.Index(l, true); i >= 0 {
		return i
	}
	return len(l)
}

func TestExceedsErrors(t *testing.T) {
	fails := func(name string, p api.GroundPlace, l []api.GroundYear, depth int, want api.Errno) {
		if can, surely, e := Exceeds(p, l, depth); e != want || can != 0 || surely != 0 {
			t.Error(name, can, surely, e)
		}
	}
	fails("13 years", place(), years(13), 700, api.ErrLong)
	fails("13 years, no place, no depth", api.GroundPlace{}, years(13), -1, api.ErrLong)
	fails("depth -1", place(), years(2), -1, api.ErrArg)
	fails("depth 2000001", place(), years(2), 2000001, api.ErrArg)
	for name, p := range badPlaces() {
		fails(name, p, years(2), 700, api.ErrArg)
	}
	for name, l := range badYears() {
		fails(name, place(), l, 700, api.ErrArg)
	}
}
