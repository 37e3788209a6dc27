package pile

import (
	"math/rand/v2"
	"slices"
	"testing"

	"talik/api"
)

// P2.7 (consequences)

// narrow returns a span of a span.
func narrow(r *rand.Rand, s api.Span) api.Span { return someSpan(r, s.Low, s.High, s.High-s.Low) }

// narrower returns a site and thaws that are known better: the rows keep that neither end decreases.
func narrower(r *rand.Rand, s api.PileSite, thaws [][]api.Span) (api.PileSite, [][]api.Span) {
	better := cloneSite(s)
	for i := range better.Piles {
		better.Piles[i].Load = narrow(r, better.Piles[i].Load)
	}
	low, high := 0, 0
	for i, row := range better.Rows {
		x := narrow(r, row.Settle)
		low = max(low, x.Low)
		high = max(high, x.High, low)
		better.Rows[i].Settle = sp(low, high)
	}
	var l [][]api.Span
	for _, year := range thaws {
		var spans []api.Span
		for _, thaw := range year {
			spans = append(spans, narrow(r, thaw))
		}
		l = append(l, spans)
	}
	return better, l
}

// inside reports whether all spans are inside those of a second list.
func inside(a, b [][]api.Span) bool {
	return slices.EqualFunc(a, b, func(x, y []api.Span) bool {
		return slices.EqualFunc(x, y, func(p, q api.Span) bool { return q.Low <= p.Low && p.Low <= p.High && p.High <= q.High })
	})
}

func TestKnownBetterIsNoWider(t *testing.T) {
	r := source()
	for range 500 {
		s, l := large(r, 1+r.IntN(api.PilePiles), r.IntN(api.PileYears+1))
		better, thaws := narrower(r, s, l)
		wide, e := Carries(s, l)
		if e != api.OK {
			t.Fatal(e)
		}
		if close, e := Carries(better, thaws); e != api.OK || !inside(close, wide) {
			t.Fatal(s, l, better, thaws, wide, close, e)
		}
		plan := somePlan(r, s, len(l))
		wide, e = Levels(s, l, plan)
		if e != api.OK {
			t.Fatal(e)
		}
		if close, e := Levels(better, thaws, plan); e != api.OK || !inside(close, wide) {
			t.Fatal(s, l, better, thaws, plan, wide, close, e)
		}
	}
}

func TestDeeperThawCarriesNoMore(t *testing.T) {
	r := source()
	for range 500 {
		s, l := large(r, 1+r.IntN(api.PilePiles), 1+r.IntN(api.PileYears))
		var deeper [][]api.Span
		for _, year := range l {
			var spans []api.Span
			for _, thaw := range year {
				more := r.IntN(api.PileDepth - thaw.High + 1)
				spans = append(spans, sp(thaw.Low+r.IntN(more+1), thaw.High+more))
			}
			deeper = append(deeper, spans)
		}
		a, e := Carries(s, l)
		if e != api.OK {
			t.Fatal(e)
		}
		b, e := Carries(s, deeper)
		if e != api.OK {
			t.Fatal(e)
		}
		for year := range l {
			for pile := range s.Piles {
				if b[year][pile].Low > a[year][pile].Low || b[year][pile].High > a[year][pile].High {
					t.Fatal(s, l, deeper, a, b)
				}
			}
		}
	}
}

func TestMoreJackingLowersNoLevel(t *testing.T) {
	r := source()
	for range 500 {
		s, l := large(r, 1+r.IntN(api.PilePiles), 1+r.IntN(api.PileYears))
		plan := somePlan(r, s, len(l))
		more := slices.Clone(plan)
		more[r.IntN(len(l))] |= 1 << r.IntN(len(s.Piles))
		a, e := Levels(s, l, plan)
		if e != api.OK {
			t.Fatal(e)
		}
		b, e := Levels(s, l, more)
		if e != api.OK {
			t.Fatal(e)
		}
		truth := someTruth(r, s, l)
		c, e := Play(s, l, plan, truth)
		if e != api.OK {
			t.Fatal(e)
		}
		d, e := Play(s, l, more, truth)
		if e != api.OK {
			t.Fatal(e)
		}
		for year := range l {
			for pile := range s.Piles {
				if b[year][pile].Low < a[year][pile].Low || b[year][pile].High < a[year][pile].High || d[year][pile] < c[year][pile] {
					t.Fatal(s, l, plan, more, truth, a, b, c, d)
				}
			}
		}
	}
}
