package seep

import (
	"math/rand/v2"
	"slices"
	"testing"

	"talik/api"
)

// P7.5 (consequences)

// noneBefore reports whether no number is less than the one at the same place of another list.
func noneBefore(numbers, others []int) bool {
	for i, n := range numbers {
		if n < others[i] {
			return false
		}
	}
	return len(numbers) == len(others)
}

// neverEarlier reports whether no point can be foul, and none surely is, in an earlier year than in others.
func neverEarlier(years, others []api.Span) bool {
	low, high := func(s api.Span) int { return s.Low }, func(s api.Span) int { return s.High }
	return noneBefore(pick(years, low), pick(others, low)) && noneBefore(pick(years, high), pick(others, high))
}

// drier returns a map in which each thaw is as before, or less, at either end.
func drier(r *rand.Rand, m api.SeepMap) api.SeepMap {
	return changed(m, func(m *api.SeepMap) {
		for year, s := range m.Thaws {
			if r.IntN(2) == 0 {
				high := upTo(r, 0, s.High)
				m.Thaws[year] = span(upTo(r, 0, min(high, s.Low)), high)
			}
		}
	})
}

func TestMoreThawMakesNoPointFoulLater(t *testing.T) {
	r := source()
	later := 0
	for range 2000 {
		m := small(r)
		less := drier(r, m)
		dykes := someDykes(r, m)
		more, e := Years(m, dykes)
		before, lessE := Years(less, dykes)
		if e != api.OK || lessE != api.OK || !neverEarlier(before, more) {
			t.Fatal(m, less, dykes, more, before, e, lessE)
		}
		if !slices.Equal(before, more) {
			later++
		}
		thaws := someTruth(r, m).Thaws
		deeper := slices.Clone(thaws)
		for year, s := range m.Thaws {
			deeper[year] = upTo(r, thaws[year], s.High)
		}
		first, _ := Play(m, dykes, thaws)
		if with, e := Play(m, dykes, deeper); e != api.OK || !noneBefore(first, with) {
			t.Fatal(m, dykes, thaws, deeper, first, with, e)
		}
	}
	if later < 200 {
		t.Error(later)
	}
}

func TestAnEdgeMoreMakesNoPointFoulLater(t *testing.T) {
	r := source()
	earlier := 0
	for range 2000 {
		m := small(r)
		if m.Points == 1 {
			continue
		}
		from := r.IntN(m.Points)
		more := changed(m, func(m *api.SeepMap) {
			m.Edges = append(m.Edges, way(from, (from+upTo(r, 1, m.Points-1))%m.Points, upTo(r, 0, 9)))
		})
		dykes, thaws := someDykes(r, m), someTruth(r, m).Thaws
		before, _ := Years(m, dykes)
		with, e := Years(more, dykes)
		if e != api.OK || !neverEarlier(before, with) {
			t.Fatal(more, dykes, before, with, e)
		}
		if !slices.Equal(before, with) {
			earlier++
		}
		first, _ := Play(m, dykes, thaws)
		if play, e := Play(more, dykes, thaws); e != api.OK || !noneBefore(first, play) {
			t.Fatal(more, dykes, thaws, first, play, e)
		}
	}
	if earlier < 200 {
		t.Error(earlier)
	}
}

func TestADykeMoreMakesNoPointFoulEarlier(t *testing.T) {
	r := source()
	later := 0
	for range 2000 {
		m := small(r)
		dykes, thaws := someDykes(r, m), someTruth(r, m).Thaws
		years, _ := Years(m, dykes)
		first, _ := Play(m, dykes, thaws)
		for edge, e := range m.Edges {
			if e.Cost == -1 || slices.Contains(dykes, edge) {
				continue
			}
			more := append(slices.Clone(dykes), edge)
			slices.Sort(more)
			with, e := Years(m, more)
			if e != api.OK || !neverEarlier(with, years) {
				t.Fatal(m, dykes, more, years, with, e)
			}
			if !slices.Equal(years, with) {
				later++
			}
			if play, e := Play(m, more, thaws); e != api.OK || !noneBefore(play, first) {
				t.Fatal(m, dykes, more, thaws, first, play, e)
			}
		}
	}
	if later < 200 {
		t.Error(later)
	}
}

// TestMoreMakesDykesNoCheaper has an edge, a waste, a well or some thaw more.
func TestMoreMakesDykesNoCheaper(t *testing.T) {
	r := source()
	dearer, none := 0, 0
	for range 1000 {
		m := small(r)
		less := drier(r, m)
		less.Wells = slices.DeleteFunc(less.Wells, func(int) bool { return r.IntN(4) == 0 })
		less.Wastes = slices.DeleteFunc(less.Wastes, func(int) bool { return r.IntN(4) == 0 })
		less.Edges = less.Edges[:max(0, len(less.Edges)-r.IntN(2))]
		_, before, e := Dykes(less)
		_, after, late := Dykes(m)
		if e == api.ErrNone && late != api.ErrNone || e == api.OK && late == api.OK && after < before {
			t.Fatal(m, less, before, after, e, late)
		}
		if after > before {
			dearer++
		}
		if e != late {
			none++
		}
	}
	if dearer < 50 || none < 20 {
		t.Error(dearer, none)
	}
}
