package engineer

import (
	"math/rand/v2"
	"testing"

	"talik/api"
)

// P10.3 (Jack, Levels, Fault), and P0.2 (layer 10: in a plan without faults no pile loses more than it may, fails, or sinks too far)

// follower follows all piles of a site in one truth, year by year.
type follower struct {
	api.PileSite
	heads []int
	wrong map[api.PileRule]bool // what was wrong in any year
}

func follow(s api.PileSite) *follower {
	return &follower{PileSite: s, heads: make([]int, len(s.Piles)), wrong: map[api.PileRule]bool{}}
}

// carries returns what a pile carries at some thaw, which is 50000 at most.
func carries(p api.Pile, thaw int) int {
	frozen := p.Depth - min(thaw, 50000)
	if frozen < 0 {
		frozen = 0
	}
	return p.Point + p.Skin*frozen/1000
}

// sinks goes on for a year at some depth of thaw, with loads and settlings that can be true.
func (f *follower) sinks(thaw int, pick func(api.Span) int) {
	for i, p := range f.Piles {
		row, carried := len(f.Rows)-1, carries(p, thaw)
		fails := true
		load := pick(p.Load)
		for j := len(f.Rows) - 1; j >= 0; j-- {
			// The use is not greater than that of the row: a thousand times the load is not greater than so many times what is carried.
			if carried > 0 && 1000*load <= f.Rows[j].Use*carried {
				row, fails = j, false
			}
		}
		f.heads[i] -= pick(f.Rows[row].Settle)
		f.wrong[api.PileLoses] = f.wrong[api.PileLoses] || carried*1000 < p.Design*(1000-f.May)
		f.wrong[api.PileFails] = f.wrong[api.PileFails] || fails
		f.wrong[api.PileSinks] = f.wrong[api.PileSinks] || f.heads[i] < -f.Sink
	}
	for _, pair := range f.Pairs {
		tilt := f.heads[pair.One] - f.heads[pair.Other]
		f.wrong[api.PileTilts] = f.wrong[api.PileTilts] || max(tilt, -tilt) > f.Tilt
	}
}

// jackSome jacks some piles, and returns which.
func jackSome(t *testing.T, r *rand.Rand, e *Engineer) []int {
	t.Helper()
	var jacked []int
	for pile := range e.Site.Piles {
		if r.IntN(3) == 0 {
			if bad := e.Jack(pile); bad != api.OK {
				t.Fatal(pile, bad)
			}
			jacked = append(jacked, pile)
		}
	}
	return jacked
}

func mustBeWithin(t *testing.T, e *Engineer, levels []int) {
	t.Helper()
	told, bad := e.Levels()
	if bad != api.OK || len(told) != len(levels) {
		t.Fatal(told, bad)
	}
	for pile, level := range levels {
		if !in(level, told[pile]) {
			t.Fatal(e.EngineerTown, e.plan, e.year, pile, level, told)
		}
	}
}

// TestLevelsHoldWhateverIsTrue notes what is true of the ground year by year, and jacks some piles.
func TestLevelsHoldWhateverIsTrue(t *testing.T) {
	r := source()
	sunk := 0
	for range 1500 {
		x := some(r)
		real := someTruth(r, x.Place, x.Years)
		thaws, _ := depths(t, x.Place, x.Years, real)
		e, f := opened(t, x), follow(x.Site)
		pick := func(s api.Span) int { return of(r, s) }
		if r.IntN(3) == 0 {
			pick = func(s api.Span) int { return []int{s.Low, s.High}[r.IntN(2)] }
		}
		for _, thaw := range thaws {
			f.sinks(thaw, pick)
			mustBeWithin(t, e, f.heads)
			// What is jacked at the end of the year does not change its level then.
			jacked := jackSome(t, r, e)
			mustBeWithin(t, e, f.heads)
			last := append([]int{}, f.heads...)
			for _, pile := range jacked {
				f.heads[pile] = 0
			}
			note(t, e, real)
			if e.year == len(x.Years) {
				mustBeWithin(t, e, last)
			}
			if last[0] < -20 {
				sunk++
			}
		}
	}
	if sunk < 500 {
		t.Error(sunk)
	}
}

// TestBothEndsOfLevels has towns in which all is known, but loads and settlings: each end of a level is true with one of them.
func TestBothEndsOfLevels(t *testing.T) {
	r := source()
	for range 300 {
		x := some(r)
		for i := range x.Place.Layers {
			x.Place.Layers[i].Melt.Low = x.Place.Layers[i].Melt.High
		}
		x.Place.Warm.Low = x.Place.Warm.High
		real := someTruth(r, x.Place, x.Years)
		thaws, _ := depths(t, x.Place, x.Years, real)
		e := opened(t, x)
		least, greatest := follow(x.Site), follow(x.Site)
		for _, thaw := range thaws {
			least.sinks(thaw, func(s api.Span) int { return s.High })
			greatest.sinks(thaw, func(s api.Span) int { return s.Low })
			jacked := jackSome(t, r, e)
			before := append([]int{}, greatest.heads...)
			low := append([]int{}, least.heads...)
			for _, pile := range jacked {
				least.heads[pile], greatest.heads[pile] = 0, 0
			}
			note(t, e, real)
			if e.year < len(x.Years) {
				continue // as the level of the next year is told now, of which not all is known
			}
			told, _ := e.Levels()
			for pile := range told {
				if told[pile] != span(low[pile], before[pile]) {
					t.Fatal(x, real, pile, told, low, before)
				}
			}
		}
	}
}

// TestNoFaultIsNone follows piles of towns that have no fault in random truths; and what is told as a fault is wrong where all is the worst.
func TestNoFaultIsNone(t *testing.T) {
	r := source()
	fine := 0
	told := map[api.PileRule]int{}
	for range 3000 {
		x := some(r)
		x.Years = x.Years[:1+r.IntN(len(x.Years))]
		x.Place.Layers[0].Melt = span(300, 300+r.IntN(100))
		if r.IntN(2) == 0 {
			x.Site.May, x.Site.Sink, x.Site.Tilt = 900+r.IntN(101), 40+r.IntN(60), 40+r.IntN(60)
		}
		e := opened(t, x)
		plan := make([][]int, len(x.Years))
		for year := range plan {
			plan[year] = jackSome(t, r, e)
			note(t, e, someTruth(r, x.Place, e.Years))
		}
		fault, bad := e.Fault()
		if bad != api.OK {
			t.Fatal(bad)
		}
		told[fault.Rule]++
		if fault.Rule == api.PileFine {
			fine++
			for range 5 {
				f := followed(t, r, e, plan)
				if f.wrong[api.PileLoses] || f.wrong[api.PileFails] || f.wrong[api.PileSinks] || f.wrong[api.PileTilts] {
					t.Fatal(e.EngineerTown, e.plan, f.wrong)
				}
			}
		}
	}
	if fine < 100 || told[api.PileLoses] < 20 || told[api.PileFails] < 20 || told[api.PileSinks] < 20 || told[api.PileTilts] < 20 {
		t.Error(fine, told)
	}
}

// followed follows the piles of a town in some truth that agrees with all that was noted.
func followed(t *testing.T, r *rand.Rand, e *Engineer, plan [][]int) *follower {
	t.Helper()
	thaws, _ := depths(t, e.Place, e.Years, someTruth(r, e.Place, e.Years))
	f := follow(e.Site)
	for year, thaw := range thaws {
		f.sinks(thaw, func(s api.Span) int { return of(r, s) })
		for _, pile := range plan[year] {
			f.heads[pile] = 0
		}
	}
	return f
}

// TestGroundThawsDeeperThanPilesStand has thaws that are deeper than layer 2 allows.
func TestGroundThawsDeeperThanPilesStand(t *testing.T) {
	x := changed(town(), func(x *api.EngineerTown) {
		x.Place.Layers = []api.GroundLayer{{Thick: 1, Melt: span(1, 1)}}
		x.Years[0].Summer = span(49000, 51000)
		x.Years[0].Winter = span(1000000, 1000000)
		x.Years[1] = x.Years[0]
		x.Years[1].Summer = span(50001, 60000)
		x.Place.Warm = span(0, 0)
		x.Site.Piles[0] = api.Pile{Depth: 50000, Skin: 1000, Load: span(400, 400)}
	})
	e := opened(t, x)
	seen, _ := e.Thaws()
	if seen[0].Thaw != span(49000, 51000) || seen[1].Thaw != span(50001, 60000) {
		t.Fatal(seen)
	}
	// At 49000 the pile 0 carries 1000, of which it uses 400; at 50000 and below, nothing.
	levels, bad := e.Levels()
	if bad != api.OK || levels[0] != span(-20, -2) || levels[1] != span(-20, -10) {
		t.Error(levels, bad)
	}
	fault, bad := e.Fault()
	if bad != api.OK || fault != (api.PileFault{Year: 0, Rule: api.PileLoses, Of: 1}) {
		t.Error(fault, bad)
	}
}

// TestJackingsComeTooLate has a fault in the year 1 that a jacking at the end of the year 0 keeps away, and one at its own end does not.
func TestJackingsComeTooLate(t *testing.T) {
	// The pile 0 can be 9 below the pile 1 after the year 1, and 4 after the year 0.
	x := changed(town(), func(x *api.EngineerTown) { x.Site.Tilt = 8 })
	none, tilts := api.PileFault{Rule: api.PileFine}, api.PileFault{Year: 1, Rule: api.PileTilts, Of: 0}
	for _, c := range []struct {
		lines []string
		want  api.PileFault
	}{
		{nil, tilts}, {[]string{"jack 1"}, tilts}, {[]string{"jack 0"}, none}, {[]string{"jack 0", "jack 1"}, none},
		{[]string{"summer 70000 50000 300"}, tilts}, {[]string{"summer 70000 50000 300", "jack 0"}, tilts},
		{[]string{"jack 0", "summer 70000 50000 300"}, none}, {[]string{"summer 60000 90000 100"}, none},
	} {
		if f, bad := opened(t, x, c.lines...).Fault(); f != c.want || bad != api.OK {
			t.Error(c.lines, f, bad)
		}
	}
}
