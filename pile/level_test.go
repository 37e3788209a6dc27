package pile

import (
	"slices"
	"testing"

	"talik/api"
)

// P2.2 (Levels, Play)

func TestLevelsExample(t *testing.T) {
	for _, x := range []struct {
		plan []int
		want [][]api.Span
	}{
		{[]int{0, 0}, [][]api.Span{{sp(-9, -2), sp(-4, -2)}, {sp(-18, -4), sp(-8, -4)}}},
		{[]int{1, 0}, [][]api.Span{{sp(-9, -2), sp(-4, -2)}, {sp(-9, -2), sp(-8, -4)}}},
		{[]int{2, 0}, [][]api.Span{{sp(-9, -2), sp(-4, -2)}, {sp(-18, -4), sp(-4, -2)}}},
		{[]int{3, 3}, [][]api.Span{{sp(-9, -2), sp(-4, -2)}, {sp(-9, -2), sp(-4, -2)}}}, // it is measured before it is jacked
	} {
		if l, e := Levels(site(), thaws(2), x.plan); e != api.OK || !equalSpans(l, x.want) {
			t.Error(x.plan, l, e)
		}
	}
	if l, e := Levels(site(), nil, nil); e != api.OK || len(l) != 0 {
		t.Error(l, e)
	}
	if l, e := Levels(site(), [][]api.Span{}, []int{}); e != api.OK || len(l) != 0 {
		t.Error(l, e)
	}
}

// settles returns by how much a pile settles in a year: what it carries is its point, and its load is between bounds.
func settles(t *testing.T, rows []api.PileRow, point int, load api.Span) api.Span {
	t.Helper()
	s := api.PileSite{Piles: []api.Pile{{Depth: 1, Point: point, Load: load}}, Rows: rows}
	l, e := Levels(s, [][]api.Span{{sp(0, 0)}}, []int{0})
	if e != api.OK {
		t.Fatal(e)
	}
	return sp(-l[0][0].High, -l[0][0].Low)
}

func TestLevelsRowsOfUses(t *testing.T) {
	table := []api.PileRow{{Use: 500, Settle: sp(1, 2)}, {Use: 501, Settle: sp(3, 4)}, {Use: 5000, Settle: sp(5, 6)}}
	for _, x := range []struct {
		name  string
		point int
		load  api.Span
		want  api.Span
	}{
		{"the first row just holds", 200, sp(100, 100), sp(1, 2)},
		{"a use that is rounded up", 1999, sp(1000, 1000), sp(3, 4)},
		{"the second row just holds", 1000, sp(501, 501), sp(3, 4)},
		{"more than the second row", 1000, sp(502, 502), sp(5, 6)},
		{"the last row just holds", 20, sp(100, 100), sp(5, 6)},
		{"it fails", 20, sp(101, 101), sp(5, 6)},
		{"it carries nothing", 0, sp(1, 1), sp(5, 6)},
		{"loads of two rows", 1000, sp(500, 501), sp(1, 4)},
		{"loads of all rows", 1000, sp(1, 100000), sp(1, 6)},
	} {
		if got := settles(t, table, x.point, x.load); got != x.want {
			t.Error(x.name, got)
		}
	}
	least := []api.PileRow{{Use: 1, Settle: sp(0, 0)}, {Use: 2, Settle: sp(1, 1)}}
	if got := settles(t, least, 999, sp(1, 1)); got != sp(1, 1) { // 1000 divided by 999, rounded up
		t.Error(got)
	}
	none := []api.PileRow{{Use: 0, Settle: sp(7, 9)}} // each pile fails
	if got := settles(t, none, 100000, sp(1, 1)); got != sp(7, 9) {
		t.Error(got)
	}
}

func TestLevelsOverAllTruths(t *testing.T) {
	r := source()
	for range 200 {
		s, l := small(r)
		plan := somePlan(r, s, len(l))
		want := make([][]api.Span, len(l))
		for truth := range truths(s, l) {
			for year, levels := range slowLevels(plan, truth) {
				if want[year] == nil {
					for _, level := range levels {
						want[year] = append(want[year], sp(level, level))
					}
				}
				for pile, level := range levels {
					x := &want[year][pile]
					*x = sp(min(x.Low, level), max(x.High, level))
				}
			}
		}
		if got, e := Levels(s, l, plan); e != api.OK || !equalSpans(got, want) {
			t.Fatal(s, l, plan, got, want, e)
		}
	}
}

func TestLevelsContainTruths(t *testing.T) {
	r := source()
	for range 200 {
		s, l := large(r, 1+r.IntN(api.PilePiles), r.IntN(api.PileYears+1))
		plan := somePlan(r, s, len(l))
		bounds, e := Levels(s, l, plan)
		if e != api.OK || len(bounds) != len(l) {
			t.Fatal(bounds, e)
		}
		for range 10 {
			truth := someTruth(r, s, l)
			levels, e := Play(s, l, plan, truth)
			if e != api.OK || !equalLevels(levels, slowLevels(plan, truth)) {
				t.Fatal(s, l, plan, truth, levels, e)
			}
			for year := range l {
				for pile, level := range levels[year] {
					if !in(level, bounds[year][pile]) {
						t.Fatal(s, l, plan, truth, levels, bounds)
					}
				}
			}
		}
	}
}

// endTruth returns the truth in which all piles settle the least, or the most.
func endTruth(s api.PileSite, thaws [][]api.Span, most bool) [][]api.PileTruth {
	var all [][]api.PileTruth
	for _, year := range thaws {
		var l []api.PileTruth
		for pile, thaw := range year {
			p := s.Piles[pile]
			x := api.PileTruth{Thaw: thaw.Low, Load: p.Load.Low}
			if most {
				x = api.PileTruth{Thaw: thaw.High, Load: p.Load.High}
			}
			row, _ := slowRow(s, slowCarries(p, x.Thaw), x.Load)
			x.Settle = row.Settle.Low
			if most {
				x.Settle = row.Settle.High
			}
			l = append(l, x)
		}
		all = append(all, l)
	}
	return all
}

func TestLevelsEndsAreTrue(t *testing.T) {
	r := source()
	for range 300 {
		s, l := large(r, 1+r.IntN(api.PilePiles), r.IntN(api.PileYears+1))
		plan := somePlan(r, s, len(l))
		bounds, e := Levels(s, l, plan)
		if e != api.OK {
			t.Fatal(e)
		}
		low, e := Play(s, l, plan, endTruth(s, l, true))
		if e != api.OK {
			t.Fatal(e)
		}
		high, e := Play(s, l, plan, endTruth(s, l, false))
		if e != api.OK {
			t.Fatal(e)
		}
		for year := range l {
			for pile := range s.Piles {
				if bounds[year][pile] != sp(low[year][pile], high[year][pile]) {
					t.Fatal(s, l, plan, bounds, low, high)
				}
			}
		}
	}
}

func TestPlay(t *testing.T) {
	for _, x := range []struct {
		plan []int
		want [][]int
	}{
		{[]int{0, 0, 0}, [][]int{{-7, -3}, {-14, -6}, {-21, -9}}},
		{[]int{1, 0, 0}, [][]int{{-7, -3}, {-7, -6}, {-14, -9}}},
		{[]int{2, 3, 3}, [][]int{{-7, -3}, {-14, -3}, {-7, -3}}},
	} {
		if l, e := Play(site(), thaws(3), x.plan, truth(3)); e != api.OK || !equalLevels(l, x.want) {
			t.Error(x.plan, l, e)
		}
	}
	if l, e := Play(site(), nil, nil, nil); e != api.OK || len(l) != 0 {
		t.Error(l, e)
	}
	still := site() // a head that was never lower is at 0 again
	still.Rows[0].Settle.Low = 0
	x := truth(2)
	x[0][1].Settle = 0
	if l, e := Play(still, thaws(2), []int{2, 0}, x); e != api.OK || !equalLevels(l, [][]int{{-7, 0}, {-14, -3}}) {
		t.Error(l, e)
	}
}

func TestPlayTruths(t *testing.T) {
	s := site()
	for _, x := range []struct {
		name  string
		truth api.PileTruth
		want  api.Errno
	}{ // of the pile 0, which carries 230 to 200
		{"the shallowest thaw", api.PileTruth{Thaw: 1000, Load: 115, Settle: 2}, api.OK},
		{"one more load is of the next row", api.PileTruth{Thaw: 1000, Load: 116, Settle: 2}, api.ErrArg},
		{"the next row", api.PileTruth{Thaw: 1000, Load: 116, Settle: 5}, api.OK},
		{"more thaw is of the next row", api.PileTruth{Thaw: 1001, Load: 115, Settle: 4}, api.ErrArg},
		{"the next row of more thaw", api.PileTruth{Thaw: 1001, Load: 115, Settle: 5}, api.OK},
		{"the deepest thaw", api.PileTruth{Thaw: 2000, Load: 100, Settle: 4}, api.OK},
		{"the greatest load", api.PileTruth{Thaw: 2000, Load: 120, Settle: 9}, api.OK},
		{"the thaw too little", api.PileTruth{Thaw: 999, Load: 110, Settle: 3}, api.ErrArg},
		{"the thaw too much", api.PileTruth{Thaw: 2001, Load: 110, Settle: 7}, api.ErrArg},
		{"the load too little", api.PileTruth{Thaw: 1000, Load: 99, Settle: 3}, api.ErrArg},
		{"the load too much", api.PileTruth{Thaw: 2000, Load: 121, Settle: 7}, api.ErrArg},
		{"it settles too little", api.PileTruth{Thaw: 1000, Load: 100, Settle: 1}, api.ErrArg},
		{"it settles too much", api.PileTruth{Thaw: 2000, Load: 120, Settle: 10}, api.ErrArg},
	} {
		truth := [][]api.PileTruth{{x.truth, {Thaw: 1500, Load: 100, Settle: 2}}}
		want := [][]int{{-x.truth.Settle, -2}}
		l, e := Play(s, thaws(1), []int{0}, truth)
		if e != x.want || e == api.OK && !equalLevels(l, want) || e != api.OK && l != nil {
			t.Error(x.name, l, e)
		}
	}
	// a pile that fails settles as the last row says
	s.Rows = s.Rows[:1]
	if l, e := Play(s, thaws(1), []int{0}, [][]api.PileTruth{{{Thaw: 2000, Load: 120, Settle: 4}, {Thaw: 1500, Load: 100, Settle: 2}}}); e != api.OK || !equalLevels(l, [][]int{{-4, -2}}) {
		t.Error(l, e)
	}
}

func TestLevelsErrors(t *testing.T) {
	fails := func(name string, s api.PileSite, l [][]api.Span, plan []int, want api.Errno) {
		if got, e := Levels(s, l, plan); got != nil || e != want {
			t.Error(name, got, e)
		}
		if got, e := Play(s, l, plan, truth(len(l))); got != nil || e != want {
			t.Error(name, got, e)
		}
		if got, e := Fault(s, l, plan); got != (api.PileFault{}) || e != want {
			t.Error(name, got, e)
		}
	}
	fails("11 years", site(), thaws(11), make([]int, 11), api.ErrLong)
	fails("11 years of thaws", site(), thaws(11), make([]int, 2), api.ErrLong)
	fails("11 years of a plan", site(), thaws(2), make([]int, 11), api.ErrLong)
	fails("11 years of a bad plan, no thaws and no site", api.PileSite{}, nil, slices.Repeat([]int{-1}, 11), api.ErrLong)
	fails("11 years of no piles", site(), make([][]api.Span, 11), nil, api.ErrLong)
	for name, s := range badSites() {
		fails(name, s, thaws(2), []int{0, 0}, api.ErrArg)
	}
	for name, l := range badThaws() {
		fails(name, site(), l, []int{0, 0}, api.ErrArg)
	}
	for name, plan := range badPlans() {
		fails(name, site(), thaws(2), plan, api.ErrArg)
	}
	if l, e := Levels(site(), thaws(10), make([]int, 10)); e != api.OK || len(l) != 10 {
		t.Error(l, e)
	}
}

func TestPlayErrors(t *testing.T) {
	fails := func(name string, s api.PileSite, l [][]api.Span, plan []int, truth [][]api.PileTruth, want api.Errno) {
		if got, e := Play(s, l, plan, truth); got != nil || e != want {
			t.Error(name, got, e)
		}
	}
	fails("11 years of truth", site(), thaws(2), []int{0, 0}, truth(11), api.ErrLong)
	fails("11 years of truth alone", api.PileSite{}, nil, []int{-1}, truth(11), api.ErrLong)
	fails("11 years of empty truth", site(), thaws(2), []int{0, 0}, make([][]api.PileTruth, 11), api.ErrLong)
	fails("no truth", site(), thaws(2), []int{0, 0}, nil, api.ErrArg)
	fails("a year of truth less", site(), thaws(2), []int{0, 0}, truth(1), api.ErrArg)
	fails("a year of truth more", site(), thaws(2), []int{0, 0}, truth(3), api.ErrArg)
	less, more, none := truth(2), truth(2), truth(2)
	less[1] = less[1][:1]
	more[0] = append(more[0], more[0][1])
	none[1] = nil
	fails("a pile less", site(), thaws(2), []int{0, 0}, less, api.ErrArg)
	fails("a pile more", site(), thaws(2), []int{0, 0}, more, api.ErrArg)
	fails("no piles", site(), thaws(2), []int{0, 0}, none, api.ErrArg)
	for year := range 2 { // in any year, of any pile
		for pile := range 2 {
			x := truth(2)
			x[year][pile].Settle = 10
			fails("a truth that cannot be", site(), thaws(2), []int{0, 0}, x, api.ErrArg)
		}
	}
}
