package pile

import (
	"slices"
	"testing"

	"talik/api"
)

// P2.3 (Fault)

func TestFaultExample(t *testing.T) {
	for _, x := range []struct {
		plan []int
		want api.PileFault
	}{
		{[]int{0, 0}, api.PileFault{Year: 1, Rule: api.PileTilts, Of: 0}},
		{[]int{1, 0}, api.PileFault{Rule: api.PileFine}},
		{[]int{2, 0}, api.PileFault{Year: 1, Rule: api.PileTilts, Of: 0}},
		{[]int{0, 3}, api.PileFault{Year: 1, Rule: api.PileTilts, Of: 0}}, // a jacking at the end of the year is too late
	} {
		if f, e := Fault(site(), thaws(2), x.plan); e != api.OK || f != x.want {
			t.Error(x.plan, f, e)
		}
	}
	if f, e := Fault(site(), nil, nil); e != api.OK || f != (api.PileFault{Rule: api.PileFine}) {
		t.Error(f, e)
	}
}

func TestFaultLimits(t *testing.T) {
	for _, x := range []struct {
		name string
		do   func(s *api.PileSite)
		want api.PileFault
	}{ // with the plan 0 0; levels of -18 to -4 and of -8 to -4 in the year 1
		{"loses", func(s *api.PileSite) { s.May = 130 }, api.PileFault{Year: 0, Rule: api.PileLoses, Of: 0}},
		{"just does not lose", func(s *api.PileSite) { s.May, s.Tilt = 131, 14 }, api.PileFault{Rule: api.PileFine}},
		{"the second one loses", func(s *api.PileSite) { s.Piles[0].Design, s.May = 0, 111 }, api.PileFault{Year: 0, Rule: api.PileLoses, Of: 1}},
		{"fails", func(s *api.PileSite) { s.Rows[1].Use = 599; s.Rows = s.Rows[:2] }, api.PileFault{Year: 0, Rule: api.PileFails, Of: 0}},
		{"just does not fail", func(s *api.PileSite) { s.Rows[1].Use, s.Tilt = 600, 14; s.Rows = s.Rows[:2] }, api.PileFault{Rule: api.PileFine}},
		{"the second one fails", func(s *api.PileSite) { s.Piles[1].Load.High = 300 }, api.PileFault{Year: 0, Rule: api.PileFails, Of: 1}},
		{"sinks", func(s *api.PileSite) { s.Sink, s.Tilt = 17, 14 }, api.PileFault{Year: 1, Rule: api.PileSinks, Of: 0}},
		{"just does not sink", func(s *api.PileSite) { s.Sink, s.Tilt = 18, 14 }, api.PileFault{Rule: api.PileFine}},
		{"the second one sinks", func(s *api.PileSite) { s.Piles[1].Load, s.Sink = sp(100, 250), 9 }, api.PileFault{Year: 0, Rule: api.PileSinks, Of: 1}},
		{"tilts", func(s *api.PileSite) { s.Tilt = 13 }, api.PileFault{Year: 1, Rule: api.PileTilts, Of: 0}},
		{"just does not tilt", func(s *api.PileSite) { s.Tilt = 14 }, api.PileFault{Rule: api.PileFine}},
		{"tilts the other way", func(s *api.PileSite) { s.Tilt, s.Pairs = 13, []api.PilePair{{One: 1, Other: 0}} }, api.PileFault{Year: 1, Rule: api.PileTilts, Of: 0}},
		{"no pair tilts", func(s *api.PileSite) { s.Tilt, s.Pairs = 0, nil }, api.PileFault{Rule: api.PileFine}},
		{"what carries nothing fails", func(s *api.PileSite) {
			s.Piles[1] = api.Pile{Depth: 1, Skin: 1, Load: sp(1, 1)}
			s.Rows[2].Use = 5000
		}, api.PileFault{Year: 0, Rule: api.PileFails, Of: 1}},
	} {
		s := site()
		x.do(&s)
		if f, e := Fault(s, thaws(2), []int{0, 0}); e != api.OK || f != x.want {
			t.Error(x.name, f, e)
		}
	}
}

// three returns a site with three piles that carry 100 at a thaw of 900, and nothing at one of 1000.
func three() api.PileSite {
	return api.PileSite{
		Piles: slices.Repeat([]api.Pile{{Depth: 1000, Skin: 1000, Load: sp(10, 10), Design: 200}}, 3),
		Pairs: []api.PilePair{{One: 0, Other: 1}, {One: 2, Other: 1}, {One: 0, Other: 2}},
		Rows:  []api.PileRow{{Use: 50, Settle: sp(1, 1)}, {Use: 100, Settle: sp(7, 7)}, {Use: 5000, Settle: sp(30, 30)}},
		May:   500,
		Sink:  29,
		Tilt:  5,
	}
}

func TestFaultOrder(t *testing.T) {
	none := sp(0, 0)   // settles 1
	some := sp(0, 900) // carries its part, settles up to 7
	lost := sp(901, 901)
	gone := sp(1000, 1000) // fails
	for _, x := range []struct {
		name string
		year []api.Span
		do   func(s *api.PileSite)
		want api.PileFault
	}{
		{"nothing", []api.Span{none, none, none}, nil, api.PileFault{Rule: api.PileFine}},
		{"the second pair", []api.Span{none, none, some}, nil, api.PileFault{Rule: api.PileTilts, Of: 1}},
		{"the first pair", []api.Span{none, some, none}, nil, api.PileFault{Rule: api.PileTilts, Of: 0}},
		{"the third pair", []api.Span{none, none, some}, func(s *api.PileSite) { s.Pairs[1] = s.Pairs[0] }, api.PileFault{Rule: api.PileTilts, Of: 2}},
		{"losing first", []api.Span{gone, none, lost}, nil, api.PileFault{Rule: api.PileLoses, Of: 0}},
		{"losing before failing", []api.Span{gone, none, lost}, func(s *api.PileSite) { s.Piles[0].Design = 0 }, api.PileFault{Rule: api.PileLoses, Of: 2}},
		{"failing before sinking", []api.Span{some, none, gone}, func(s *api.PileSite) { s.May, s.Sink = 1000, 6 }, api.PileFault{Rule: api.PileFails, Of: 2}},
		{"sinking before tilting", []api.Span{some, none, some}, func(s *api.PileSite) { s.Sink = 6 }, api.PileFault{Rule: api.PileSinks, Of: 0}},
		{"the second one sinks", []api.Span{none, some, some}, func(s *api.PileSite) { s.Sink = 6 }, api.PileFault{Rule: api.PileSinks, Of: 1}},
	} {
		s := three()
		if x.do != nil {
			x.do(&s)
		}
		for before := range 3 { // in any year, and the first year counts
			l := append(slices.Repeat([][]api.Span{{none, none, none}}, before), x.year, []api.Span{gone, gone, gone})
			if x.want.Rule == api.PileFine {
				l = l[:before+1]
			}
			want := x.want
			if want.Rule != api.PileFine {
				want.Year = before
			}
			if f, e := Fault(s, l, slices.Repeat([]int{7}, len(l))); e != api.OK || f != want {
				t.Error(x.name, before, f, e)
			}
		}
	}
}

// slowFault finds the first fault by looking at all truths.
func slowFault(s api.PileSite, thaws [][]api.Span, plan []int) api.PileFault {
	wrong := map[api.PileFault]bool{}
	for truth := range truths(s, thaws) {
		for year, levels := range slowLevels(plan, truth) {
			for pile, x := range truth[year] {
				p := s.Piles[pile]
				carried := slowCarries(p, x.Thaw)
				_, fails := slowRow(s, carried, x.Load)
				if carried*1000 < p.Design*(1000-s.May) {
					wrong[api.PileFault{Year: year, Rule: api.PileLoses, Of: pile}] = true
				}
				if fails {
					wrong[api.PileFault{Year: year, Rule: api.PileFails, Of: pile}] = true
				}
				if levels[pile] < 0-s.Sink {
					wrong[api.PileFault{Year: year, Rule: api.PileSinks, Of: pile}] = true
				}
			}
			for i, pair := range s.Pairs {
				differ := levels[pair.One] - levels[pair.Other]
				if differ > s.Tilt || -differ > s.Tilt {
					wrong[api.PileFault{Year: year, Rule: api.PileTilts, Of: i}] = true
				}
			}
		}
	}
	for year := range thaws {
		for _, rule := range []api.PileRule{api.PileLoses, api.PileFails, api.PileSinks, api.PileTilts} {
			for of := range api.PilePiles + api.PilePairs {
				f := api.PileFault{Year: year, Rule: rule, Of: of}
				if wrong[f] {
					return f
				}
			}
		}
	}
	return api.PileFault{Rule: api.PileFine}
}

func TestFaultOverAllTruths(t *testing.T) {
	r := source()
	seen := map[api.PileRule]int{}
	for range 10000 {
		s, l := small(r)
		if r.IntN(2) == 0 { // else most piles lose too much
			s.May = 1000
		}
		if r.IntN(2) == 0 { // or fail
			s.Rows[len(s.Rows)-1].Use = 5000
			for i := range s.Piles {
				s.Piles[i].Point++
			}
		}
		if r.IntN(2) == 0 { // or sink too far
			s.Sink = 100
		}
		plan := somePlan(r, s, len(l))
		want := slowFault(s, l, plan)
		seen[want.Rule]++
		if f, e := Fault(s, l, plan); e != api.OK || f != want {
			t.Fatal(s, l, plan, f, want, e)
		}
	}
	for rule := api.PileFine; rule <= api.PileTilts; rule++ {
		if seen[rule] < 10 {
			t.Error(rule, seen)
		}
	}
}
