package pile

import (
	"iter"
	"math/rand/v2"
	"slices"

	"talik/api"
)

func sp(low, high int) api.Span { return api.Span{Low: low, High: high} }

// source returns a source of numbers that are the same in each run.
func source() *rand.Rand { return rand.New(rand.NewPCG(1, 2)) }

// site returns the site s of the chapter's examples.
func site() api.PileSite {
	return api.PileSite{
		Piles: []api.Pile{
			{Depth: 8000, Point: 20, Skin: 30, Load: sp(100, 120), Design: 230, Cost: 5},
			{Depth: 10000, Point: 0, Skin: 40, Load: sp(100, 100), Design: 360, Cost: 5},
		},
		Pairs: []api.PilePair{{One: 0, Other: 1}},
		Rows: []api.PileRow{
			{Use: 500, Settle: sp(2, 4)},
			{Use: 700, Settle: sp(5, 9)},
			{Use: 900, Settle: sp(10, 20)},
		},
		May:  200,
		Sink: 25,
		Tilt: 10,
	}
}

// thaws returns the thaws of the chapter's examples, for as many years.
func thaws(years int) [][]api.Span {
	var l [][]api.Span
	for range years {
		l = append(l, []api.Span{sp(1000, 2000), sp(1000, 2000)})
	}
	return l
}

// truth returns something that is true in the chapter's examples, for as many years.
func truth(years int) [][]api.PileTruth {
	var l [][]api.PileTruth
	for range years {
		l = append(l, []api.PileTruth{{Thaw: 2000, Load: 120, Settle: 7}, {Thaw: 1000, Load: 100, Settle: 3}})
	}
	return l
}

func cloneSite(s api.PileSite) api.PileSite {
	s.Piles, s.Pairs, s.Rows = slices.Clone(s.Piles), slices.Clone(s.Pairs), slices.Clone(s.Rows)
	return s
}

// badSites returns sites that are not as defined, each for one reason.
func badSites() map[string]api.PileSite {
	sites := map[string]api.PileSite{}
	change := func(name string, do func(s *api.PileSite)) {
		s := site()
		do(&s)
		sites[name] = s
	}
	change("no piles", func(s *api.PileSite) { s.Piles, s.Pairs = nil, nil })
	change("7 piles", func(s *api.PileSite) { s.Piles = slices.Repeat(s.Piles[:1], 7) })
	change("70 piles", func(s *api.PileSite) { s.Piles = slices.Repeat(s.Piles[:1], 70) })
	change("depth 0", func(s *api.PileSite) { s.Piles[1].Depth = 0 })
	change("depth 50001", func(s *api.PileSite) { s.Piles[1].Depth = 50001 })
	change("point -1", func(s *api.PileSite) { s.Piles[0].Point = -1 })
	change("point 100001", func(s *api.PileSite) { s.Piles[0].Point = 100001 })
	change("skin -1", func(s *api.PileSite) { s.Piles[1].Skin = -1 })
	change("skin 10001", func(s *api.PileSite) { s.Piles[1].Skin = 10001 })
	change("load from 0", func(s *api.PileSite) { s.Piles[0].Load = sp(0, 5) })
	change("load to 100001", func(s *api.PileSite) { s.Piles[0].Load = sp(5, 100001) })
	change("load upside", func(s *api.PileSite) { s.Piles[1].Load = sp(6, 5) })
	change("design -1", func(s *api.PileSite) { s.Piles[1].Design = -1 })
	change("design 100001", func(s *api.PileSite) { s.Piles[1].Design = 100001 })
	change("cost -1", func(s *api.PileSite) { s.Piles[0].Cost = -1 })
	change("cost 1000001", func(s *api.PileSite) { s.Piles[0].Cost = 1000001 })
	change("11 pairs", func(s *api.PileSite) { s.Pairs = slices.Repeat(s.Pairs, 11) })
	change("one -1", func(s *api.PileSite) { s.Pairs[0].One = -1 })
	change("one 2", func(s *api.PileSite) { s.Pairs[0].One = 2 })
	change("other -1", func(s *api.PileSite) { s.Pairs[0].Other = -1 })
	change("other 2", func(s *api.PileSite) { s.Pairs[0].Other = 2 })
	change("a pair of one", func(s *api.PileSite) { s.Pairs[0].Other = 0 })
	change("a second pair of one", func(s *api.PileSite) { s.Pairs = append(s.Pairs, api.PilePair{One: 1, Other: 1}) })
	change("no rows", func(s *api.PileSite) { s.Rows = nil })
	change("7 rows", func(s *api.PileSite) { s.Rows = rows(7) })
	change("use -1", func(s *api.PileSite) { s.Rows[0].Use = -1 })
	change("use 5001", func(s *api.PileSite) { s.Rows[2].Use = 5001 })
	change("the same use", func(s *api.PileSite) { s.Rows[1].Use = 500 })
	change("a smaller use", func(s *api.PileSite) { s.Rows[2].Use = 699 })
	change("settle from -1", func(s *api.PileSite) { s.Rows[0].Settle = sp(-1, 4) })
	change("settle to 1001", func(s *api.PileSite) { s.Rows[2].Settle = sp(10, 1001) })
	change("settle upside", func(s *api.PileSite) { s.Rows[2].Settle = sp(21, 20) })
	change("settle from less", func(s *api.PileSite) { s.Rows[1].Settle = sp(1, 9) })
	change("settle to less", func(s *api.PileSite) { s.Rows[2].Settle = sp(5, 8) })
	change("may -1", func(s *api.PileSite) { s.May = -1 })
	change("may 1001", func(s *api.PileSite) { s.May = 1001 })
	change("sink -1", func(s *api.PileSite) { s.Sink = -1 })
	change("sink 100001", func(s *api.PileSite) { s.Sink = 100001 })
	change("tilt -1", func(s *api.PileSite) { s.Tilt = -1 })
	change("tilt 100001", func(s *api.PileSite) { s.Tilt = 100001 })
	return sites
}

// rows returns as many rows that are as defined but for their number.
func rows(many int) []api.PileRow {
	var l []api.PileRow
	for i := range many {
		l = append(l, api.PileRow{Use: 100 * i, Settle: sp(i, 2*i)})
	}
	return l
}

// badThaws returns two years of thaws that are not as defined for the example's site, each for one reason.
func badThaws() map[string][][]api.Span {
	return map[string][][]api.Span{
		"no piles":    {{}, {}},
		"a pile less": {{sp(1, 2), sp(1, 2)}, {sp(1, 2)}},
		"a pile more": {{sp(1, 2), sp(1, 2)}, {sp(1, 2), sp(1, 2), sp(1, 2)}},
		"from -1":     {{sp(1, 2), sp(-1, 2)}, {sp(1, 2), sp(1, 2)}},
		"to 50001":    {{sp(1, 2), sp(1, 2)}, {sp(1, 50001), sp(1, 2)}},
		"upside":      {{sp(1, 2), sp(1, 2)}, {sp(1, 2), sp(3, 2)}},
	}
}

// badPlans returns plans for two years that are not as defined for the example's site, each for one reason.
func badPlans() map[string][]int {
	return map[string][]int{
		"none":        nil,
		"a year less": {0},
		"a year more": {0, 0, 0},
		"-1":          {0, -1},
		"a pile 2":    {4, 0},
		"a pile 70":   {0, 1 << 62},
	}
}

// slowCarries does what the chapter says of what a pile carries.
func slowCarries(p api.Pile, thaw int) int {
	left := p.Depth - thaw
	if left < 0 {
		left = 0
	}
	return p.Point + p.Skin*left/1000
}

// slowRow does what the chapter says of the row of a use: a use is at most that of a row if so much of what is carried is at least the load.
func slowRow(s api.PileSite, carried, load int) (api.PileRow, bool) {
	for _, row := range s.Rows {
		if carried > 0 && row.Use*carried >= 1000*load {
			return row, false
		}
	}
	return s.Rows[len(s.Rows)-1], true
}

// slowLevels does what the chapter says of the levels in truth.
func slowLevels(plan []int, truth [][]api.PileTruth) [][]int {
	var all [][]int
	for year := range truth {
		var levels []int
		for pile, t := range truth[year] {
			level := -t.Settle
			if year > 0 && plan[year-1]&(1<<pile) == 0 {
				level += all[year-1][pile]
			}
			levels = append(levels, level)
		}
		all = append(all, levels)
	}
	return all
}

// pileTruths returns all that can be true of a pile in a year.
func pileTruths(s api.PileSite, p api.Pile, thaw api.Span) []api.PileTruth {
	var l []api.PileTruth
	for deep := thaw.Low; deep <= thaw.High; deep++ {
		for load := p.Load.Low; load <= p.Load.High; load++ {
			row, _ := slowRow(s, slowCarries(p, deep), load)
			for settle := row.Settle.Low; settle <= row.Settle.High; settle++ {
				l = append(l, api.PileTruth{Thaw: deep, Load: load, Settle: settle})
			}
		}
	}
	return l
}

// truths yields all truths of years of a site.
func truths(s api.PileSite, thaws [][]api.Span) iter.Seq[[][]api.PileTruth] {
	return func(yield func([][]api.PileTruth) bool) {
		many := len(s.Piles)
		all := make([][]api.PileTruth, len(thaws))
		for year := range all {
			all[year] = make([]api.PileTruth, many)
		}
		var next func(i int) bool
		next = func(i int) bool {
			if i == many*len(thaws) {
				return yield(all)
			}
			year, pile := i/many, i%many
			for _, t := range pileTruths(s, s.Piles[pile], thaws[year][pile]) {
				all[year][pile] = t
				if !next(i + 1) {
					return false
				}
			}
			return true
		}
		next(0)
	}
}

// someSpan returns a span from low to high whose ends differ by at most wide.
func someSpan(r *rand.Rand, low, high, wide int) api.Span {
	a := low + r.IntN(high-low+1)
	return sp(a, min(high, a+r.IntN(wide+1)))
}

// someTruth returns one truth.
func someTruth(r *rand.Rand, s api.PileSite, thaws [][]api.Span) [][]api.PileTruth {
	one := func(span api.Span) int { return span.Low + r.IntN(span.High-span.Low+1) }
	var all [][]api.PileTruth
	for _, year := range thaws {
		var l []api.PileTruth
		for pile, thaw := range year {
			t := api.PileTruth{Thaw: one(thaw), Load: one(s.Piles[pile].Load)}
			row, _ := slowRow(s, slowCarries(s.Piles[pile], t.Thaw), t.Load)
			t.Settle = one(row.Settle)
			l = append(l, t)
		}
		all = append(all, l)
	}
	return all
}

// somePlan returns a plan.
func somePlan(r *rand.Rand, s api.PileSite, years int) []int {
	var plan []int
	for range years {
		plan = append(plan, r.IntN(1<<len(s.Piles))&r.IntN(1<<len(s.Piles)))
	}
	return plan
}

// somePairs returns pairs of piles.
func somePairs(r *rand.Rand, piles, most int) []api.PilePair {
	var pairs []api.PilePair
	for range r.IntN(most + 1) {
		a, b := r.IntN(piles), r.IntN(piles)
		if a != b {
			pairs = append(pairs, api.PilePair{One: a, Other: b})
		}
	}
	return pairs
}

// small returns a site and thaws with few truths.
func small(r *rand.Rand) (api.PileSite, [][]api.Span) {
	s := api.PileSite{May: r.IntN(1001), Sink: r.IntN(8), Tilt: r.IntN(6)}
	for range 1 + r.IntN(2) {
		s.Piles = append(s.Piles, api.Pile{
			Depth:  1 + r.IntN(8),
			Point:  r.IntN(3),
			Skin:   r.IntN(3) * 500,
			Load:   someSpan(r, 1, 4, 1),
			Design: r.IntN(5),
			Cost:   r.IntN(3),
		})
	}
	if len(s.Piles) == 2 {
		s.Pairs = somePairs(r, 2, 3)
	}
	row := api.PileRow{Use: r.IntN(500), Settle: someSpan(r, 0, 2, 1)}
	for range 1 + r.IntN(3) {
		s.Rows = append(s.Rows, row)
		more := r.IntN(2)
		row = api.PileRow{Use: row.Use + 1 + r.IntN(900), Settle: sp(row.Settle.Low+more, row.Settle.High+more)}
	}
	var l [][]api.Span
	for range r.IntN(3) {
		var year []api.Span
		for range s.Piles {
			year = append(year, someSpan(r, 0, 9, 1))
		}
		l = append(l, year)
	}
	return s, l
}

// large returns a site with as many piles, and as many years of thaws, whose numbers can be any that are allowed.
func large(r *rand.Rand, piles, years int) (api.PileSite, [][]api.Span) {
	s := api.PileSite{May: r.IntN(1001), Sink: r.IntN(500), Tilt: r.IntN(500), Pairs: somePairs(r, piles, api.PilePairs)}
	for range piles {
		p := api.Pile{
			Depth: 1 + r.IntN(api.PileDepth),
			Point: r.IntN(500),
			Skin:  r.IntN(400),
			Load:  someSpan(r, 1, 3000, 500),
			Cost:  r.IntN(5),
		}
		if r.IntN(10) == 0 {
			p.Point, p.Skin, p.Design = r.IntN(api.PileForce+1), r.IntN(api.PileSkin+1), r.IntN(api.PileForce+1)
		}
		s.Piles = append(s.Piles, p)
	}
	use, low, high := 0, 0, 0
	for range 1 + r.IntN(api.PileRows) {
		use += 1 + r.IntN(800)
		low += r.IntN(40)
		high = max(low, high+r.IntN(40))
		s.Rows = append(s.Rows, api.PileRow{Use: use, Settle: sp(low, high)})
	}
	var l [][]api.Span
	for range years {
		var year []api.Span
		for range piles {
			year = append(year, someSpan(r, 0, api.PileDepth/3, api.PileDepth/10))
		}
		l = append(l, year)
	}
	return s, l
}

func equalSpans(a, b [][]api.Span) bool {
	return slices.EqualFunc(a, b, func(x, y []api.Span) bool { return slices.Equal(x, y) })
}

func equalLevels(a, b [][]int) bool {
	return slices.EqualFunc(a, b, func(x, y []int) bool { return slices.Equal(x, y) })
}
