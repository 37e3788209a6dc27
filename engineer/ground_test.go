package engineer

import (
	"math/rand/v2"
	"testing"

	"talik/api"
	"talik/ground"
)

// P10.2 (Summer, Thaws), and P0.1 (layer 10: depths of thaw lie between the bounds that are told, and heat is conserved)

// someTruth returns what can be true of a place in some years.
func someTruth(r *rand.Rand, p api.GroundPlace, years []api.GroundYear) api.GroundTruth {
	var x api.GroundTruth
	for _, layer := range p.Layers {
		x.Melts = append(x.Melts, of(r, layer.Melt))
	}
	for _, year := range years {
		x.Warms = append(x.Warms, of(r, p.Warm))
		x.Summers = append(x.Summers, of(r, year.Summer))
		x.Winters = append(x.Winters, of(r, year.Winter))
		x.Snows = append(x.Snows, of(r, year.Snow))
	}
	return x
}

// allTruths returns all that can be true of a place in some years.
func allTruths(p api.GroundPlace, years []api.GroundYear) []api.GroundTruth {
	all := []api.GroundTruth{{}}
	choose := func(s api.Span, list func(x *api.GroundTruth) *[]int) {
		var more []api.GroundTruth
		for _, x := range all {
			for n := s.Low; n <= s.High; n++ {
				next := x
				*list(&next) = append((*list(&x))[:len(*list(&x)):len(*list(&x))], n)
				more = append(more, next)
			}
		}
		all = more
	}
	for _, layer := range p.Layers {
		choose(layer.Melt, func(x *api.GroundTruth) *[]int { return &x.Melts })
	}
	for _, year := range years {
		choose(p.Warm, func(x *api.GroundTruth) *[]int { return &x.Warms })
		choose(year.Summer, func(x *api.GroundTruth) *[]int { return &x.Summers })
		choose(year.Winter, func(x *api.GroundTruth) *[]int { return &x.Winters })
		choose(year.Snow, func(x *api.GroundTruth) *[]int { return &x.Snows })
	}
	return all
}

// depths returns the depths of thaw in truth, and what is left in the end.
func depths(t *testing.T, p api.GroundPlace, years []api.GroundYear, x api.GroundTruth) ([]int, int) {
	t.Helper()
	thaws, ledger, bad := ground.Play(p, years, x)
	if bad != api.OK || ledger.In != ledger.Out+ledger.Kept {
		t.Fatal(p, years, x, ledger, bad)
	}
	return thaws, ledger.Kept
}

// note notes what is true of the year that has begun.
func note(t *testing.T, e *Engineer, x api.GroundTruth) {
	t.Helper()
	year := e.year
	if bad := e.Summer(x.Summers[year], x.Winters[year], x.Snows[year]); bad != api.OK {
		t.Fatal(x, year, bad)
	}
}

func thaws(t *testing.T, e *Engineer) []api.GroundSeen {
	t.Helper()
	seen, bad := e.Thaws()
	if bad != api.OK || len(seen) != len(e.Years) {
		t.Fatal(e, seen, bad)
	}
	return seen
}

// bounds returns what is known of the ground if just these truths are possible.
func bounds(t *testing.T, p api.GroundPlace, years []api.GroundYear, truths []api.GroundTruth) []api.GroundSeen {
	t.Helper()
	seen := make([]api.GroundSeen, len(years))
	for many := range years {
		for i, x := range truths {
			first := api.GroundTruth{Melts: x.Melts, Warms: x.Warms[:many+1], Summers: x.Summers[:many+1], Winters: x.Winters[:many+1], Snows: x.Snows[:many+1]}
			thaws, left := depths(t, p, years[:many+1], first)
			thaw := thaws[many]
			if i == 0 {
				seen[many] = api.GroundSeen{Thaw: span(thaw, thaw), Left: span(left, left)}
			}
			s := &seen[many]
			s.Thaw = span(min(s.Thaw.Low, thaw), max(s.Thaw.High, thaw))
			s.Left = span(min(s.Left.Low, left), max(s.Left.High, left))
		}
		s := &seen[many]
		switch {
		case s.Left.Low > 0:
			s.Talik = api.GroundSurely
		case s.Left.High > 0:
			s.Talik = api.GroundMay
		default:
			s.Talik = api.GroundNone
		}
	}
	return seen
}

// agree returns those truths that agree with what was noted of the first years.
func agree(truths []api.GroundTruth, noted api.GroundTruth, years int) []api.GroundTruth {
	var all []api.GroundTruth
next:
	for _, x := range truths {
		for year := range years {
			if x.Summers[year] != noted.Summers[year] || x.Winters[year] != noted.Winters[year] || x.Snows[year] != noted.Snows[year] {
				continue next
			}
		}
		all = append(all, x)
	}
	return all
}

// TestThawsAreThoseOfAllTruths goes through all truths of small places: those that agree with what was noted have just the bounds that are told.
func TestThawsAreThoseOfAllTruths(t *testing.T) {
	r := source()
	narrow := func(low, high int) api.Span {
		n := low + r.IntN(high-low)
		return span(n, n+r.IntN(2))
	}
	narrower := 0
	for range 150 {
		x := town()
		x.Place = api.GroundPlace{Warm: narrow(0, 4)}
		for range 1 + r.IntN(2) {
			x.Place.Layers = append(x.Place.Layers, api.GroundLayer{Thick: 1 + r.IntN(4), Melt: narrow(1, 3)})
		}
		x.Years = nil
		for range 1 + r.IntN(3) {
			x.Years = append(x.Years, api.GroundYear{Summer: narrow(0, 12), Winter: narrow(0, 12), Snow: narrow(0, 999)})
		}
		truths := allTruths(x.Place, x.Years)
		real := truths[r.IntN(len(truths))]
		e := opened(t, x)
		var before []api.GroundSeen
		for year := range len(x.Years) + 1 {
			seen := thaws(t, e)
			for i, want := range bounds(t, x.Place, x.Years, agree(truths, real, year)) {
				if seen[i] != want {
					t.Fatal(x.Place, x.Years, real, year, seen, want)
				}
				if year > 0 && seen[i].Thaw != before[i].Thaw {
					narrower++
				}
			}
			before = seen
			if year < len(x.Years) {
				note(t, e, real)
			}
		}
	}
	if narrower < 100 {
		t.Error(narrower)
	}
}

// TestThawsHoldWhateverIsTrue notes what is true year by year, of larger places.
func TestThawsHoldWhateverIsTrue(t *testing.T) {
	r := source()
	narrower := 0
	for range 500 {
		x := some(r)
		real := someTruth(r, x.Place, x.Years)
		true, _ := depths(t, x.Place, x.Years, real)
		e := opened(t, x)
		var before []api.GroundSeen
		for year := range len(x.Years) + 1 {
			seen := thaws(t, e)
			for i, s := range seen {
				if !in(true[i], s.Thaw) {
					t.Fatal(x.Place, x.Years, real, year, seen, true)
				}
				if year == 0 {
					continue
				}
				if was := before[i]; s.Thaw.Low < was.Thaw.Low || s.Thaw.High > was.Thaw.High || s.Left.Low < was.Left.Low || s.Left.High > was.Left.High {
					t.Fatal("wider than before", x.Place, x.Years, real, year, seen, before)
				}
				if s.Thaw != before[i].Thaw {
					narrower++
				}
			}
			before = seen
			if year < len(x.Years) {
				note(t, e, real)
			}
		}
	}
	if narrower < 1000 {
		t.Error(narrower)
	}
}

// TestOtherActsDoNotThaw does all acts but those that end a year.
func TestOtherActsDoNotThaw(t *testing.T) {
	e := opened(t, town(), "summer 65000 60000 200")
	before := thaws(t, e)
	for _, line := range []string{"jack 1", allFor, "buy 2", "break 2", "mend 2", "read 0 0 2700", "fail 1", "fix 1", "order 0"} {
		if _, bad := e.Do(line); bad != api.OK {
			t.Fatal(line, bad)
		}
		for i, s := range thaws(t, e) {
			if s != before[i] {
				t.Error(line, i, s, before[i])
			}
		}
	}
}
