package store

import (
	"math/rand/v2"
	"slices"
	"testing"

	"talik/api"
)

// P6.6 (consequences)

// withMore returns a store with a winter more, or with an ice more, at any place; with neither if there are as many as are allowed.
func withMore(r *rand.Rand, s api.Store) api.Store {
	return changed(s, func(s *api.Store) {
		if r.IntN(2) == 0 && len(s.Winters) < api.StoreWinters {
			s.Winters = slices.Insert(s.Winters, r.IntN(len(s.Winters)+1), someWinter(r, s.Weeks))
		} else if len(s.Ices) < api.StoreIces {
			s.Ices = slices.Insert(s.Ices, r.IntN(len(s.Ices)+1), someIce(r, s.Land))
		}
	})
}

func TestMoreMakesNoPlanSuffice(t *testing.T) {
	r := source()
	fewer := 0
	for range 500 {
		s := small(r)
		more := withMore(r, s)
		for plan := range 1 << len(s.Ships) {
			before, e := Fault(s, plan)
			after, late := Fault(more, plan)
			if e != api.OK || late != api.OK || before.Lacks && !after.Lacks {
				t.Fatal(s, more, plan, before, after, e, late)
			}
			if after.Lacks && !before.Lacks {
				fewer++
			}
			week, kind, e := First(s, plan)
			w, k, late := First(more, plan)
			if e == api.OK && (late != api.OK || w > week || w == week && k > kind) {
				t.Fatal("something runs out later", s, more, plan, week, kind, w, k)
			}
		}
	}
	if fewer < 300 {
		t.Error(fewer)
	}
}

func TestMoreMakesTheBestPlanNoCheaper(t *testing.T) {
	r := source()
	none, dearer := 0, 0
	for range 3000 {
		s := small(r)
		more := withMore(r, s)
		_, before, e := Best(s)
		_, after, late := Best(more)
		if e == api.ErrNone && late != api.ErrNone || e == api.OK && late == api.OK && after < before {
			t.Fatal(s, more, before, after, e, late)
		}
		if e == api.OK && late == api.ErrNone {
			none++
		}
		if after > before {
			dearer++
		}
	}
	if none < 50 || dearer < 20 {
		t.Error(none, dearer)
	}
}

// TestEqualOnesChangeNothing has winters and ices that are there already.
func TestEqualOnesChangeNothing(t *testing.T) {
	r := source()
	for range 500 {
		s := small(r)
		more := changed(s, func(s *api.Store) {
			if len(s.Ices) < api.StoreIces {
				s.Ices = append(s.Ices, s.Ices[r.IntN(len(s.Ices))])
			}
			if len(s.Winters) < api.StoreWinters {
				s.Winters = append(s.Winters, s.Winters[r.IntN(len(s.Winters))])
			}
		})
		plan, cost, e := Best(s)
		if p, c, late := Best(more); p != plan || c != cost || late != e {
			t.Fatal(s, more, plan, cost, e, p, c, late)
		}
		for plan := range 1 << len(s.Ships) {
			a, _ := Fault(s, plan)
			if b, e := Fault(more, plan); a != b || e != api.OK {
				t.Fatal(s, more, plan, a, b, e)
			}
		}
	}
}
