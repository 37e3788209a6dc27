package cool

import (
	"slices"
	"testing"

	"talik/api"
)

// P3.2 (Keeps, Break, Bears), and P0.3 as far as it is kept here

func TestKeepsExample(t *testing.T) {
	for _, x := range []struct {
		bought []int
		fails  int
		want   bool
	}{
		{[]int{1, 3}, 0, true},
		{[]int{1, 3}, 1, false},
		{[]int{0, 1, 2, 3}, 1, true},
		{[]int{0, 1, 2, 3}, 2, false},
		{[]int{0, 1}, 0, false},
		{nil, 0, false},
	} {
		if keeps, e := Keeps(town(), x.bought, x.fails); e != api.OK || keeps != x.want {
			t.Error(x, keeps, e)
		}
	}
}

func TestBreakExample(t *testing.T) {
	for _, x := range []struct {
		bought []int
		fails  int
		house  int
		failed []int
		e      api.Errno
	}{
		{[]int{1, 3}, 1, 0, []int{1}, api.OK},
		{[]int{0, 1}, 0, 1, nil, api.OK},
		{[]int{1, 3}, 0, 0, nil, api.ErrState},
		{[]int{0, 1, 2, 3}, 1, 0, nil, api.ErrState},
		{nil, 0, 0, nil, api.OK},
	} {
		if house, failed, e := Break(town(), x.bought, x.fails); e != x.e || house != x.house || !slices.Equal(failed, x.failed) {
			t.Error(x, house, failed, e)
		}
	}
}

func TestBearsExample(t *testing.T) {
	for _, x := range []struct {
		bought []int
		want   int
		e      api.Errno
	}{
		{[]int{0, 1, 2, 3}, 1, api.OK},
		{[]int{1, 3}, 0, api.OK},
		{[]int{0, 1}, 0, api.ErrNone},
		{nil, 0, api.ErrNone},
	} {
		if n, e := Bears(town(), x.bought); e != x.e || n != x.want {
			t.Error(x, n, e)
		}
	}
}

func TestBreakEdges(t *testing.T) {
	for _, x := range []struct {
		name   string
		town   api.CoolTown
		bought []int
		fails  int
		house  int
		failed []int
	}{
		{"no coolers", even(1, 5), nil, 3, 0, nil},
		{"not level even if none fails", even(10, 5, 4, 9), []int{0, 1}, 3, 0, nil},
		{"the strongest one, not the first one", even(10, 5, 6, 4), []int{0, 1, 2}, 1, 0, []int{1}},
		{"the first one of several", even(10, 6, 6, 3), []int{0, 1, 2}, 3, 0, []int{0}},
		{"the first one, though others are stronger", even(10, 4, 5, 4), []int{0, 1, 2}, 3, 0, []int{0}},
		{"the first two", even(10, 4, 4, 4, 4), []int{0, 1, 2, 3}, 3, 0, []int{0, 1}},
		{"two that are not the first two", even(10, 1, 5, 5, 5), []int{0, 1, 2, 3}, 2, 0, []int{1, 2}},
		{"two that are not the strongest two", even(11, 4, 6, 5, 6), []int{0, 1, 2, 3}, 2, 0, []int{1, 2}},
		{"fewer, though others come before", even(10, 3, 3, 3, 8), []int{0, 1, 2, 3}, 3, 0, []int{3}},
		{"all", even(1, 1, 1, 1), []int{0, 1, 2}, 3, 0, []int{0, 1, 2}},
		{"all of fewer than may fail", even(1, 1, 1, 1), []int{0, 2}, 3, 0, []int{0, 2}},
		{"only those that were bought", even(10, 9, 4, 9, 7), []int{1, 3}, 1, 0, []int{1}},
		{"the first house, though the other one is worse", town(), []int{0, 1}, 1, 0, []int{0}},
		{"the second house", town(), []int{0, 1, 3}, 1, 1, []int{1}},
	} {
		house, failed, e := Break(x.town, x.bought, x.fails)
		if e != api.OK || house != x.house || !slices.Equal(failed, x.failed) {
			t.Error(x.name, house, failed, e)
		}
		if keeps, e := Keeps(x.town, x.bought, x.fails); e != api.OK || keeps {
			t.Error(x.name, keeps, e)
		}
		if less := len(failed) - 1; less >= 0 && len(x.town.Houses) == 1 {
			if keeps, e := Keeps(x.town, x.bought, less); e != api.OK || !keeps {
				t.Error(x.name, keeps, e)
			}
		}
	}
}

func TestBearsEdges(t *testing.T) {
	for _, x := range []struct {
		name   string
		town   api.CoolTown
		bought []int
		want   int
		e      api.Errno
	}{
		{"no cold is needed, and none given", even(0, 5), nil, 3, api.OK},
		{"no cold is needed", even(0, 5), []int{0}, 3, api.OK},
		{"some is needed", even(1, 5), nil, 0, api.ErrNone},
		{"one is just enough", even(5, 5), []int{0}, 0, api.OK},
		{"one is just too little", even(6, 5), []int{0}, 0, api.ErrNone},
		{"one of two is enough", even(5, 5, 5), []int{0, 1}, 1, api.OK},
		{"the weak one of two is too little", even(5, 5, 4), []int{0, 1}, 0, api.OK},
		{"three of four", even(5, 9, 9, 9, 5), []int{0, 1, 2, 3}, 3, api.OK},
		{"more than three are not counted", even(5, 5, 5, 5, 5, 5), []int{0, 1, 2, 3, 4}, 3, api.OK},
		{"the greatest town", greatest(), numbers(10), 3, api.OK},
	} {
		n, e := Bears(x.town, x.bought)
		if e != x.e || n != x.want {
			t.Error(x.name, n, e)
		}
		for fails := range api.CoolFails + 1 {
			want := x.e == api.OK && fails <= x.want
			if keeps, e := Keeps(x.town, x.bought, fails); e != api.OK || keeps != want {
				t.Error(x.name, fails, keeps, e)
			}
			if _, _, e := Break(x.town, x.bought, fails); (e == api.ErrState) != want {
				t.Error(x.name, fails, e)
			}
		}
	}
}

func TestKeepsWhicheverFail(t *testing.T) {
	r := source()
	kept, broken := 0, 0
	for range 1500 {
		s := someSlow(r, api.CoolSites)
		bought := most(r, s.CoolTown)
		bears := -1
		for fails := range api.CoolFails + 1 {
			house, failed, is := s.firstBreak(bought, fails)
			if keeps, e := Keeps(s.CoolTown, bought, fails); e != api.OK || keeps == is {
				t.Fatal(s.CoolTown, bought, fails, keeps, e)
			}
			h, f, e := Break(s.CoolTown, bought, fails)
			if is {
				broken++
				if e != api.OK || h != house || !slices.Equal(f, failed) {
					t.Fatal(s.CoolTown, bought, fails, h, f, house, failed, e)
				}
				continue
			}
			kept++
			bears = fails
			if e != api.ErrState || h != 0 || f != nil {
				t.Fatal(s.CoolTown, bought, fails, h, f, e)
			}
		}
		n, e := Bears(s.CoolTown, bought)
		if bears < 0 && (e != api.ErrNone || n != 0) || bears >= 0 && (e != api.OK || n != bears) {
			t.Fatal(s.CoolTown, bought, n, bears, e)
		}
	}
	if kept < 500 || broken < 500 {
		t.Error(kept, broken)
	}
}

func TestHousesAreLevelInTruth(t *testing.T) {
	r := source()
	kept, broken := 0, 0
	for range 2000 {
		c := large(r, 1+r.IntN(api.CoolHouses), 1+r.IntN(api.CoolSites))
		bought, fails := most(r, c), r.IntN(api.CoolFails+1)
		house, failed, e := Break(c, bought, fails)
		if e == api.OK {
			broken++
			if more, e := Play(c, minus(bought, failed), worst(c)); e != api.OK || more[house] >= 0 || len(failed) > fails {
				t.Fatal(c, bought, fails, house, failed, more, e)
			}
			continue
		}
		if e != api.ErrState {
			t.Fatal(c, bought, fails, e)
		}
		kept++
		for range 20 {
			gone := shuffled(r, bought)
			gone = gone[:min(len(gone), r.IntN(fails+1))]
			for _, x := range []api.CoolTruth{someTruth(r, c), worst(c)} {
				if more, e := Play(c, minus(bought, gone), x); e != api.OK || slices.Min(more) < 0 {
					t.Fatal(c, bought, fails, gone, x, more, e)
				}
			}
		}
	}
	if kept < 200 || broken < 200 {
		t.Error(kept, broken)
	}
}

func TestKeepsErrors(t *testing.T) {
	fails := func(name string, c api.CoolTown, bought []int, fails int) {
		if keeps, e := Keeps(c, bought, fails); keeps || e != api.ErrArg {
			t.Error(name, keeps, e)
		}
		if house, failed, e := Break(c, bought, fails); house != 0 || failed != nil || e != api.ErrArg {
			t.Error(name, house, failed, e)
		}
		if n, e := Bears(c, bought); from(0, fails, api.CoolFails) && (n != 0 || e != api.ErrArg) {
			t.Error(name, n, e)
		}
	}
	for name, c := range badTowns() {
		fails(name, c, []int{0}, 0)
		fails(name, c, nil, 0)
	}
	for name, bought := range badCoolers() {
		fails(name, town(), bought, 0)
		fails(name, town(), bought, 1)
	}
	for _, n := range []int{-1, 4, -1 << 63, 1<<63 - 1} {
		fails("failures", town(), []int{0, 1}, n)
	}
}
