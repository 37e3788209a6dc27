package pile

import (
	"math/rand/v2"
	"slices"
	"testing"

	"talik/api"
)

// P2.4 (Best), and P0.2 as far as it is kept here

func TestBestExample(t *testing.T) {
	if plan, cost, e := Best(site(), thaws(2)); e != api.OK || !slices.Equal(plan, []int{1, 0}) || cost != 5 {
		t.Error(plan, cost, e)
	}
	for _, none := range [][][]api.Span{nil, {}} {
		if plan, cost, e := Best(site(), none); e != api.OK || len(plan) != 0 || cost != 0 {
			t.Error(plan, cost, e)
		}
	}
	if plan, cost, e := Best(site(), thaws(1)); e != api.OK || !slices.Equal(plan, []int{0}) || cost != 0 {
		t.Error(plan, cost, e)
	}
}

func TestBestEdges(t *testing.T) {
	for _, x := range []struct {
		name  string
		do    func(s *api.PileSite)
		years int
		plan  []int
		cost  int
		e     api.Errno
	}{
		{"nothing is needed", func(s *api.PileSite) { s.Tilt = 14 }, 2, []int{0, 0}, 0, api.OK},
		{"nothing is needed, and it costs nothing", func(s *api.PileSite) { s.Tilt, s.Piles[0].Cost = 14, 0 }, 2, []int{0, 0}, 0, api.OK},
		{"it costs nothing", func(s *api.PileSite) { s.Piles[0].Cost = 0 }, 2, []int{1, 0}, 0, api.OK},
		{"both must be jacked", func(s *api.PileSite) { s.Tilt = 7 }, 3, []int{1, 3, 0}, 15, api.OK},
		{"tilts in the year 0", func(s *api.PileSite) { s.Tilt = 6 }, 2, nil, 0, api.ErrNone},
		{"sinks in the year 0", func(s *api.PileSite) { s.Sink = 8 }, 2, nil, 0, api.ErrNone},
		{"just does not sink", func(s *api.PileSite) { s.Sink = 9 }, 2, []int{1, 0}, 5, api.OK},
		{"loses", func(s *api.PileSite) { s.May, s.Tilt = 130, 14 }, 2, nil, 0, api.ErrNone},
		{"fails", func(s *api.PileSite) { s.Rows[1].Use, s.Tilt = 599, 14; s.Rows = s.Rows[:2] }, 2, nil, 0, api.ErrNone},
		{"the first one in order", func(s *api.PileSite) { s.Tilt = 100 }, 4, []int{0, 1, 0, 0}, 5, api.OK},
		{"the first one in order of two piles", func(s *api.PileSite) { s.Pairs, s.Sink, s.Piles[1] = nil, 18, s.Piles[0] }, 4, []int{0, 3, 0, 0}, 10, api.OK},
	} {
		s := site()
		x.do(&s)
		if plan, cost, e := Best(s, thaws(x.years)); e != x.e || !slices.Equal(plan, x.plan) || cost != x.cost {
			t.Error(x.name, plan, cost, e)
		}
	}
	// what no jacking helps against in a later year, before which one would be needed
	for _, last := range []api.Span{sp(8000, 8000), sp(2700, 2700)} {
		l := append(thaws(2), []api.Span{last, sp(1000, 1000)})
		if plan, cost, e := Best(site(), l); e != api.ErrNone || plan != nil || cost != 0 {
			t.Error(last, plan, cost, e)
		}
	}
}

// plans returns all plans of a site, in lexicographic order.
func plans(piles, years int) [][]int {
	all := [][]int{nil}
	for range years {
		var longer [][]int
		for _, plan := range all {
			for set := range 1 << piles {
				longer = append(longer, append(slices.Clone(plan), set))
			}
		}
		all = longer
	}
	return all
}

// costOf returns what a plan costs.
func costOf(s api.PileSite, plan []int) int {
	cost := 0
	for _, set := range plan {
		for pile, p := range s.Piles {
			if set&(1<<pile) != 0 {
				cost += p.Cost
			}
		}
	}
	return cost
}

// jackable returns a site and thaws in which something goes wrong, most likely, unless piles are jacked.
func jackable(r *rand.Rand, piles, years int) (api.PileSite, [][]api.Span) {
	s := api.PileSite{Sink: 15 + r.IntN(50), Tilt: 8 + r.IntN(30), Pairs: somePairs(r, piles, api.PilePairs)}
	for range piles {
		s.Piles = append(s.Piles, api.Pile{Depth: 1000, Skin: 1000, Load: sp(100, 100), Cost: r.IntN(4)})
	}
	low, high := 0, r.IntN(5)
	for i := range 5 {
		s.Rows = append(s.Rows, api.PileRow{Use: 200 * (i + 1), Settle: sp(low, high)})
		low += r.IntN(6)
		high = max(low, high+r.IntN(8))
	}
	var l [][]api.Span
	for range years {
		var year []api.Span
		for range piles {
			year = append(year, someSpan(r, 0, 899, 300))
		}
		l = append(l, year)
	}
	return s, l
}

func TestBestOfAllPlans(t *testing.T) {
	r := source()
	found, none, jacked := 0, 0, 0
	for _, x := range []struct{ piles, years, times int }{{1, 1, 20}, {1, 6, 200}, {2, 4, 200}, {3, 3, 200}, {4, 2, 200}, {6, 2, 40}, {4, 3, 40}} {
		all := plans(x.piles, x.years)
		for range x.times {
			s, l := jackable(r, x.piles, x.years)
			var want []int
			for _, plan := range all {
				f, e := Fault(s, l, plan)
				if e != api.OK {
					t.Fatal(e)
				}
				if f.Rule == api.PileFine && (want == nil || costOf(s, plan) < costOf(s, want)) {
					want = plan
				}
			}
			plan, cost, e := Best(s, l)
			if want == nil {
				none++
				if e != api.ErrNone || plan != nil || cost != 0 {
					t.Fatal(s, l, plan, cost, e)
				}
				continue
			}
			found++
			if slices.Max(want) > 0 {
				jacked++
			}
			if e != api.OK || !slices.Equal(plan, want) || cost != costOf(s, want) {
				t.Fatal(s, l, plan, cost, want, e)
			}
		}
	}
	if found < 100 || none < 100 || jacked < 50 {
		t.Error(found, none, jacked)
	}
}

// come is what a plan has come to: the year that is next, and how far each pile has sunk.
type come struct {
	year int
	low  [api.PilePiles]int
	high [api.PilePiles]int
}

// slow looks for the best plan from year to year.
type slow struct {
	site  api.PileSite
	year  [][]api.Span // by how much each pile can settle
	costs map[come]int
}

const tooMuch = 1 << 40

// least returns what plans cost at least from somewhere on, if no pile loses too much or fails; tooMuch, if all have a fault.
func (x *slow) least(c come) int {
	if c.year == len(x.year) {
		return 0
	}
	if known, is := x.costs[c]; is {
		return known
	}
	least := tooMuch
	for set := range 1 << len(x.site.Piles) {
		if next, fine := x.next(c, set); fine {
			least = min(least, costOf(x.site, []int{set})+x.least(next))
		}
	}
	x.costs[c] = least
	return least
}

// next goes through a year, at whose end a set of piles is jacked.
func (x *slow) next(c come, set int) (come, bool) {
	for pile := range x.site.Piles {
		c.low[pile] += x.year[c.year][pile].Low
		c.high[pile] += x.year[c.year][pile].High
		if c.high[pile] > x.site.Sink {
			return c, false
		}
	}
	for _, pair := range x.site.Pairs {
		if c.high[pair.One]-c.low[pair.Other] > x.site.Tilt || c.high[pair.Other]-c.low[pair.One] > x.site.Tilt {
			return c, false
		}
	}
	for pile := range x.site.Piles {
		if set&(1<<pile) != 0 {
			c.low[pile], c.high[pile] = 0, 0
		}
	}
	c.year++
	return c, true
}

// slowBest finds the best plan of a site in which no pile can lose too much or fail.
func slowBest(s api.PileSite, thaws [][]api.Span) ([]int, int) {
	x := &slow{site: s, costs: map[come]int{}}
	for _, year := range thaws {
		var spans []api.Span
		for pile, thaw := range year {
			p := s.Piles[pile]
			least, _ := slowRow(s, slowCarries(p, thaw.Low), p.Load.Low)
			most, _ := slowRow(s, slowCarries(p, thaw.High), p.Load.High)
			spans = append(spans, sp(least.Settle.Low, most.Settle.High))
		}
		x.year = append(x.year, spans)
	}
	whole := x.least(come{})
	if whole >= tooMuch {
		return nil, whole
	}
	var plan []int
	var c come
	for range thaws {
		for set := range 1 << len(s.Piles) {
			next, fine := x.next(c, set)
			if fine && costOf(s, []int{set})+x.least(next) == x.least(c) {
				plan = append(plan, set)
				c = next
				break
			}
		}
	}
	return plan, whole
}

func TestBestYearByYear(t *testing.T) {
	r := source()
	jacked, none := 0, 0
	for i := range 300 {
		piles := 1 + r.IntN(4)
		if i%50 == 0 {
			piles = api.PilePiles
		}
		s, l := jackable(r, piles, 1+r.IntN(api.PileYears))
		want, least := slowBest(s, l)
		plan, cost, e := Best(s, l)
		if want == nil {
			none++
			if e != api.ErrNone || plan != nil || cost != 0 {
				t.Fatal(s, l, plan, cost, e)
			}
			continue
		}
		if least > 0 {
			jacked++
		}
		if e != api.OK || !slices.Equal(plan, want) || cost != least {
			t.Fatal(s, l, plan, cost, want, least, e)
		}
	}
	if jacked < 30 || none < 30 {
		t.Error(jacked, none)
	}
}

// late returns the largest site, and thaws of which only those of the last year matter: the pair of the piles 0 and 3 tilts by 120, less up to 10 that was sunk before.
func late(tilt int) (api.PileSite, [][]api.Span) {
	s := api.PileSite{Sink: api.PileLevel, Tilt: tilt}
	for i := range api.PilePiles {
		s.Piles = append(s.Piles, api.Pile{Depth: 1000, Skin: 1000, Load: sp(100, 100), Cost: 3 + i})
	}
	for i, settle := range []int{1, 2, 60, 120} {
		s.Rows = append(s.Rows, api.PileRow{Use: 100*i + 150, Settle: sp(settle, settle)})
	}
	s.Pairs = []api.PilePair{{One: 0, Other: 1}, {One: 1, Other: 2}, {One: 3, Other: 4}, {One: 4, Other: 5}, {One: 0, Other: 3}}
	var l [][]api.Span
	for range api.PileYears - 1 {
		l = append(l, slices.Repeat([]api.Span{sp(0, 0)}, api.PilePiles))
	}
	last := []api.Span{sp(0, 0), sp(700, 700), sp(700, 700), sp(750, 750), sp(700, 700), sp(700, 700)}
	return s, append(l, last)
}

func TestBestOfTheLargestSites(t *testing.T) {
	for _, x := range []struct {
		tilt int
		plan []int
		cost int
		e    api.Errno
	}{
		{119, make([]int, 10), 0, api.OK},
		{118, []int{0, 0, 0, 0, 0, 0, 0, 0, 8, 0}, 6, api.OK},
		{110, []int{0, 0, 0, 0, 0, 0, 0, 0, 8, 0}, 6, api.OK},
		{109, nil, 0, api.ErrNone},
	} {
		s, l := late(x.tilt)
		if plan, cost, e := Best(s, l); e != x.e || !slices.Equal(plan, x.plan) || cost != x.cost {
			t.Error(x.tilt, plan, cost, e)
		}
	}
}

func TestBestThatCostsTheMost(t *testing.T) {
	s := api.PileSite{
		Piles: slices.Repeat([]api.Pile{{Depth: 1, Point: 1, Load: sp(1, 1), Cost: api.PileCost}}, api.PilePiles),
		Pairs: []api.PilePair{{One: 0, Other: 1}, {One: 1, Other: 2}, {One: 2, Other: 3}, {One: 3, Other: 4}, {One: 4, Other: 5}},
		Rows:  []api.PileRow{{Use: 1000, Settle: sp(0, 10)}},
		Sink:  10,
		Tilt:  10,
	}
	l := slices.Repeat([][]api.Span{make([]api.Span, api.PilePiles)}, api.PileYears)
	want := append(slices.Repeat([]int{63}, 9), 0) // all of them are jacked after each year but the last one
	if plan, cost, e := Best(s, l); e != api.OK || !slices.Equal(plan, want) || cost != 54000000 {
		t.Error(plan, cost, e)
	}
	s.Sink = 9
	if plan, cost, e := Best(s, l); e != api.ErrNone || plan != nil || cost != 0 {
		t.Error(plan, cost, e)
	}
}

// betterThan reports whether a plan costs less than another one, or as much and is before it.
func betterThan(s api.PileSite, a, b []int) bool {
	costA, costB := costOf(s, a), costOf(s, b)
	return costA < costB || costA == costB && slices.Compare(a, b) < 0
}

func TestBestHasNoFaultAndNoneIsCheaper(t *testing.T) {
	r := source()
	found := 0
	for range 200 {
		s, l := jackable(r, 1+r.IntN(api.PilePiles), 1+r.IntN(api.PileYears))
		plan, cost, e := Best(s, l)
		if e == api.ErrNone {
			continue
		}
		found++
		if f, e2 := Fault(s, l, plan); e != api.OK || e2 != api.OK || f.Rule != api.PileFine || cost != costOf(s, plan) {
			t.Fatal(s, l, plan, cost, f, e, e2)
		}
		for range 200 { // plans like it, and any
			other := somePlan(r, s, len(l))
			if r.IntN(4) > 0 {
				other = slices.Clone(plan)
				for range 1 + r.IntN(4) {
					other[r.IntN(len(l))] ^= 1 << r.IntN(len(s.Piles))
				}
			}
			if f, e := Fault(s, l, other); e != api.OK || f.Rule == api.PileFine && betterThan(s, other, plan) {
				t.Fatal(s, l, plan, other, e)
			}
		}
	}
	if found < 30 {
		t.Error(found)
	}
}

// What P0.2 says of the best plan, in each of some truths.
func TestBestHoldsInTruth(t *testing.T) {
	r := source()
	for range 200 {
		s, l := jackable(r, 1+r.IntN(api.PilePiles), 1+r.IntN(api.PileYears))
		s.May = r.IntN(1001)
		for i := range s.Piles {
			s.Piles[i].Design = r.IntN(200)
		}
		plan, _, e := Best(s, l)
		if e != api.OK {
			continue
		}
		for range 20 {
			truth := someTruth(r, s, l)
			if !holds(s, truth, slowLevels(plan, truth)) {
				t.Fatal(s, l, plan, truth)
			}
		}
	}
}

// holds reports whether nothing is wrong in a truth with these levels.
func holds(s api.PileSite, truth [][]api.PileTruth, levels [][]int) bool {
	for year := range truth {
		for pile, x := range truth[year] {
			p := s.Piles[pile]
			carried := slowCarries(p, x.Thaw)
			_, fails := slowRow(s, carried, x.Load)
			if fails || carried*1000 < p.Design*(1000-s.May) || levels[year][pile] < -s.Sink {
				return false
			}
		}
		for _, pair := range s.Pairs {
			differ := levels[year][pair.One] - levels[year][pair.Other]
			if differ > s.Tilt || -differ > s.Tilt {
				return false
			}
		}
	}
	return true
}

func TestBestErrors(t *testing.T) {
	fails := func(name string, s api.PileSite, l [][]api.Span, want api.Errno) {
		if plan, cost, e := Best(s, l); plan != nil || cost != 0 || e != want {
			t.Error(name, plan, cost, e)
		}
	}
	fails("11 years", site(), thaws(11), api.ErrLong)
	fails("11 years of no site", api.PileSite{}, thaws(11), api.ErrLong)
	fails("11 years of no piles", site(), make([][]api.Span, 11), api.ErrLong)
	for name, s := range badSites() {
		fails(name, s, thaws(2), api.ErrArg)
		fails(name+", no years", s, nil, api.ErrArg)
	}
	for name, l := range badThaws() {
		fails(name, site(), l, api.ErrArg)
	}
}
