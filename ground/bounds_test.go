package ground

import (
	"testing"

	"talik/api"
)

// P1.4 (Allow, Need)

type numberCase struct {
	name  string
	years []api.GroundYear
	depth int
	want  int
	e     api.Errno
}

type numberCall func(api.GroundPlace, []api.GroundYear, int) (int, api.Errno)

func TestAllowNumbers(t *testing.T) {
	testNumbers(t, Allow, []numberCase{
		{"the example", years(1), 700, 20199, api.OK},
		{"just 0", []api.GroundYear{{Summer: sp(0, 199)}}, 0, 99, api.ErrNone},
		{"the first millimetre", []api.GroundYear{{Summer: sp(0, 99)}}, 0, 0, api.OK},
		{"exceeded even with 0", years(1), 599, 0, api.ErrNone},
		{"nearly exceeded with 0", years(1), 600, 199, api.OK},
		{"no years", nil, 0, 1000000, api.OK},
		{"empty years", []api.GroundYear{}, 2000000, 1000000, api.OK},
		{"never exceeded", years(1), 2000000, 1000000, api.OK},
		{"just not exceeded by the greatest", []api.GroundYear{{}}, 5250, 1000000, api.OK},
		{"just exceeded by the greatest", []api.GroundYear{{}}, 5249, 999999, api.OK},
		{"exceeded in a later year", years(2), 795, 2099, api.OK},
		{"12 years", years(12), 2000000, 1000000, api.OK},
		{"13 years", years(13), 700, 0, api.ErrLong},
		{"13 years, no depth", years(13), -1, 0, api.ErrLong},
		{"depth -1", years(1), -1, 0, api.ErrArg},
		{"depth 2000001", years(1), 2000001, 0, api.ErrArg},
	})
}

func TestNeedNumbers(t *testing.T) {
	testNumbers(t, Need, []numberCase{
		{"the example", years(2), 700, 18801, api.OK},
		{"the example that cannot be", years(2), 600, 0, api.ErrNone},
		{"down to what the year 0 thaws", years(2), 610, 36801, api.OK},
		{"one year", years(1), 610, 0, api.OK},
		{"one year that is too warm", years(1), 609, 0, api.ErrNone},
		{"nothing is needed", years(2), 795, 0, api.OK},
		{"only just nothing is needed", years(2), 794, 1, api.OK},
		{"a third year", years(3), 795, 18401, api.OK},
		{"no years", nil, 0, 0, api.OK},
		{"empty years", []api.GroundYear{}, 0, 0, api.OK},
		// 5250 millimetres are thawed by up to 1000199: with 2000 of buildings, all that came in before must go out
		{"the greatest number is needed", []api.GroundYear{{Summer: sp(0, 998199)}, {Summer: sp(0, 998000)}}, 5250, 1000000, api.OK},
		{"more than the greatest is needed", []api.GroundYear{{Summer: sp(0, 998199)}, {Summer: sp(0, 998001)}}, 5250, 0, api.ErrNone},
		{"13 years", years(13), 700, 0, api.ErrLong},
		{"13 years, no depth", years(13), 2000001, 0, api.ErrLong},
		{"depth -1", years(2), -1, 0, api.ErrArg},
		{"depth 2000001", years(2), 2000001, 0, api.ErrArg},
	})
}

func testNumbers(t *testing.T, call numberCall, cases []numberCase) {
	for _, x := range cases {
		n, e := call(place(), x.years, x.depth)
		if e != x.e || e == api.OK && n != x.want || e != api.OK && n != 0 {
			t.Error(x.name, n, e)
		}
	}
	for name, p := range badPlaces() {
		if n, e := call(p, years(2), 700); n != 0 || e != api.ErrArg {
			t.Error(name, n, e)
		}
	}
	for name, l := range badYears() {
		if n, e := call(place(), l, 700); n != 0 || e != api.ErrArg {
			t.Error(name, n, e)
		}
	}
	if n, e := call(api.GroundPlace{}, years(13), 700); n != 0 || e != api.ErrLong {
		t.Error(n, e)
	}
}

// slowExceeds reports whether a depth is exceeded in any truth, if more heat could go out in each winter.
func slowExceeds(p api.GroundPlace, l []api.GroundYear, depth, more int) bool {
	for truth := range truths(p, l) {
		thaws, _, _ := slowPlay(p, truth, more)
		for _, thaw := range thaws {
			if thaw > depth {
				return true
			}
		}
	}
	return false
}

func TestAllowOverAllTruths(t *testing.T) {
	r := source()
	exceedsWith := func(p api.GroundPlace, l []api.GroundYear, depth, heat int) bool {
		p.Warm = sp(heat, heat)
		return slowExceeds(p, l, depth, 0)
	}
	for range 200 {
		p, l := small(r)
		depth := r.IntN(15)
		n, e := Allow(p, l, depth)
		switch {
		case e == api.ErrNone:
			if n != 0 || !exceedsWith(p, l, depth, 0) {
				t.Fatal(p, l, depth, n)
			}
		case e != api.OK || exceedsWith(p, l, depth, n):
			t.Fatal(p, l, depth, n, e)
		case n < api.GroundHeat && !exceedsWith(p, l, depth, n+1):
			t.Fatal(p, l, depth, n)
		case n == api.GroundHeat && len(l) > 0: // no small depth allows so much
			t.Fatal(p, l, depth, n)
		}
	}
}

func TestNeedOverAllTruths(t *testing.T) {
	r := source()
	for range 300 {
		p, l := small(r)
		depth := r.IntN(15)
		n, e := Need(p, l, depth)
		switch {
		case e == api.ErrNone:
			if n != 0 || !slowExceeds(p, l, depth, api.GroundHeat) {
				t.Fatal(p, l, depth, n)
			}
		case e != api.OK || slowExceeds(p, l, depth, n):
			t.Fatal(p, l, depth, n, e)
		case n > 0 && !slowExceeds(p, l, depth, n-1):
			t.Fatal(p, l, depth, n)
		}
	}
}

func TestAllowOfLargePlaces(t *testing.T) {
	r := source()
	exceedsWith := func(p api.GroundPlace, l []api.GroundYear, depth, heat int) bool {
		p.Warm = sp(heat, heat)
		can, _, e := Exceeds(p, l, depth)
		if e != api.OK {
			t.Fatal(e)
		}
		return can < len(l)
	}
	for range 200 {
		p, l := large(r)
		depth := r.IntN(5000)
		n, e := Allow(p, l, depth)
		if e == api.ErrNone {
			if !exceedsWith(p, l, depth, 0) {
				t.Fatal(p, l, depth)
			}
			continue
		}
		if e != api.OK || exceedsWith(p, l, depth, n) || n < api.GroundHeat && !exceedsWith(p, l, depth, n+1) {
			t.Fatal(p, l, depth, n, e)
		}
	}
}
