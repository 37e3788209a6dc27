package ground

import (
	"iter"
	"math/rand/v2"
	"slices"

	"talik/api"
)

func sp(low, high int) api.Span { return api.Span{Low: low, High: high} }

// place returns the place p of the chapter's examples.
func place() api.GroundPlace {
	return api.GroundPlace{
		Layers: []api.GroundLayer{{Thick: 500, Melt: sp(100, 120)}, {Thick: 1000, Melt: sp(200, 300)}},
		Warm:   sp(0, 2000),
	}
}

// years returns as many of the years y of the chapter's examples.
func years(many int) []api.GroundYear {
	return slices.Repeat([]api.GroundYear{{Summer: sp(60000, 70000), Winter: sp(50000, 90000), Snow: sp(100, 300)}}, many)
}

// truth returns the truth of the chapter's examples.
func truth() api.GroundTruth {
	return api.GroundTruth{
		Melts:   []int{110, 250},
		Warms:   []int{1000, 0},
		Summers: []int{65000, 60000},
		Winters: []int{60000, 80000},
		Snows:   []int{200, 100},
	}
}

// badPlaces returns places that are not as defined, each for one reason.
func badPlaces() map[string]api.GroundPlace {
	change := func(do func(p *api.GroundPlace)) api.GroundPlace {
		p := place()
		do(&p)
		return p
	}
	layer := api.GroundLayer{Thick: 1, Melt: sp(1, 1)}
	return map[string]api.GroundPlace{
		"no layers":       change(func(p *api.GroundPlace) { p.Layers = nil }),
		"empty layers":    change(func(p *api.GroundPlace) { p.Layers = []api.GroundLayer{} }),
		"7 layers":        change(func(p *api.GroundPlace) { p.Layers = slices.Repeat([]api.GroundLayer{layer}, 7) }),
		"13 layers":       change(func(p *api.GroundPlace) { p.Layers = slices.Repeat([]api.GroundLayer{layer}, 13) }),
		"thick 0":         change(func(p *api.GroundPlace) { p.Layers[1].Thick = 0 }),
		"thick 20001":     change(func(p *api.GroundPlace) { p.Layers[1].Thick = 20001 }),
		"melt from 0":     change(func(p *api.GroundPlace) { p.Layers[0].Melt = sp(0, 5) }),
		"melt to 1001":    change(func(p *api.GroundPlace) { p.Layers[1].Melt = sp(5, 1001) }),
		"melt upside":     change(func(p *api.GroundPlace) { p.Layers[0].Melt = sp(6, 5) }),
		"warm from -1":    change(func(p *api.GroundPlace) { p.Warm = sp(-1, 5) }),
		"warm to 1000001": change(func(p *api.GroundPlace) { p.Warm = sp(5, 1000001) }),
		"warm upside":     change(func(p *api.GroundPlace) { p.Warm = sp(6, 5) }),
	}
}

// badYears returns years that are not as defined, each for one reason.
func badYears() map[string][]api.GroundYear {
	change := func(do func(y *api.GroundYear)) []api.GroundYear {
		l := years(3)
		do(&l[2])
		return l
	}
	return map[string][]api.GroundYear{
		"summer from -1":    change(func(y *api.GroundYear) { y.Summer = sp(-1, 5) }),
		"summer to 1000001": change(func(y *api.GroundYear) { y.Summer = sp(5, 1000001) }),
		"summer upside":     change(func(y *api.GroundYear) { y.Summer = sp(6, 5) }),
		"winter from -1":    change(func(y *api.GroundYear) { y.Winter = sp(-1, 5) }),
		"winter to 1000001": change(func(y *api.GroundYear) { y.Winter = sp(5, 1000001) }),
		"winter upside":     change(func(y *api.GroundYear) { y.Winter = sp(6, 5) }),
		"snow from -1":      change(func(y *api.GroundYear) { y.Snow = sp(-1, 5) }),
		"snow to 1001":      change(func(y *api.GroundYear) { y.Snow = sp(5, 1001) }),
		"snow upside":       change(func(y *api.GroundYear) { y.Snow = sp(6, 5) }),
	}
}

// slowDepth returns the depth of some heat, a millimetre after the other.
func slowDepth(p api.GroundPlace, melts []int, heat int) int {
	depth, layer, bottom := 0, 0, p.Layers[0].Thick
	for {
		if depth == bottom && layer < len(p.Layers)-1 {
			layer++
			bottom += p.Layers[layer].Thick
		}
		if layer == len(p.Layers)-1 {
			bottom = -1
		}
		heat -= melts[layer]
		if heat < 0 {
			return depth
		}
		depth++
	}
}

// slowPlay does what the chapter says of a truth, if more heat could go out in each winter.
func slowPlay(p api.GroundPlace, t api.GroundTruth, more int) (thaws, lefts []int, ledger api.GroundLedger) {
	reach, left := 0, 0
	for i := range t.Warms {
		left += t.Warms[i] + t.Summers[i]
		ledger.In += t.Warms[i] + t.Summers[i]
		if left > reach {
			reach = left
		}
		thaws = append(thaws, slowDepth(p, t.Melts, reach))
		goes := t.Winters[i]*(1000-t.Snows[i])/1000 + more
		if goes > left {
			goes = left
		}
		left -= goes
		ledger.Out += goes
		if left == 0 {
			reach = 0
		}
		lefts = append(lefts, left)
	}
	ledger.Kept = left
	return thaws, lefts, ledger
}

// spans returns the spans of all that is not known, in the order of parts.
func spans(p api.GroundPlace, years []api.GroundYear) []api.Span {
	var l []api.Span
	for _, x := range p.Layers {
		l = append(l, x.Melt)
	}
	for _, y := range years {
		l = append(l, p.Warm, y.Summer, y.Winter, y.Snow)
	}
	return l
}

// parts returns the truth that has these numbers.
func parts(layers int, numbers []int) api.GroundTruth {
	t := api.GroundTruth{Melts: slices.Clone(numbers[:layers])}
	for l := numbers[layers:]; len(l) > 0; l = l[4:] {
		t.Warms = append(t.Warms, l[0])
		t.Summers = append(t.Summers, l[1])
		t.Winters = append(t.Winters, l[2])
		t.Snows = append(t.Snows, l[3])
	}
	return t
}

// truths yields all truths.
func truths(p api.GroundPlace, years []api.GroundYear) iter.Seq[api.GroundTruth] {
	return func(yield func(api.GroundTruth) bool) {
		all := spans(p, years)
		numbers := make([]int, len(all))
		var next func(i int) bool
		next = func(i int) bool {
			if i == len(all) {
				return yield(parts(len(p.Layers), numbers))
			}
			for n := all[i].Low; n <= all[i].High; n++ {
				numbers[i] = n
				if !next(i + 1) {
					return false
				}
			}
			return true
		}
		next(0)
	}
}

// someTruth returns one truth.
func someTruth(r *rand.Rand, p api.GroundPlace, years []api.GroundYear) api.GroundTruth {
	var numbers []int
	for _, s := range spans(p, years) {
		numbers = append(numbers, s.Low+r.IntN(s.High-s.Low+1))
	}
	return parts(len(p.Layers), numbers)
}

// someSpan returns a span from low to high whose ends differ by at most wide.
func someSpan(r *rand.Rand, low, high, wide int) api.Span {
	a := low + r.IntN(high-low+1)
	return sp(a, min(high, a+r.IntN(wide+1)))
}

// small returns a place and years with few truths.
func small(r *rand.Rand) (api.GroundPlace, []api.GroundYear) {
	p := api.GroundPlace{Warm: someSpan(r, 0, 3, 1)}
	for range 1 + r.IntN(3) {
		p.Layers = append(p.Layers, api.GroundLayer{Thick: 1 + r.IntN(4), Melt: someSpan(r, 1, 4, 1)})
	}
	var l []api.GroundYear
	for range r.IntN(3) {
		y := api.GroundYear{Summer: someSpan(r, 0, 20, 1), Winter: someSpan(r, 0, 30, 1), Snow: someSpan(r, 0, 300, 1)}
		if r.IntN(4) == 0 {
			y.Snow = someSpan(r, 998, 1000, 2)
		}
		l = append(l, y)
	}
	return p, l
}

// large returns a place and years that have any numbers that are allowed.
func large(r *rand.Rand) (api.GroundPlace, []api.GroundYear) {
	p := api.GroundPlace{Warm: someSpan(r, 0, api.GroundHeat/4, api.GroundHeat)}
	for range 1 + r.IntN(api.GroundLayers) {
		p.Layers = append(p.Layers, api.GroundLayer{Thick: 1 + r.IntN(api.GroundThick/20), Melt: someSpan(r, 1, api.GroundMelt, 200)})
	}
	var l []api.GroundYear
	for range r.IntN(api.GroundYears + 1) {
		l = append(l, api.GroundYear{
			Summer: someSpan(r, 0, api.GroundHeat/2, 100000),
			Winter: someSpan(r, 0, api.GroundHeat, 300000),
			Snow:   someSpan(r, 0, api.GroundSnow, 300),
		})
	}
	return p, l
}

func equalPlaces(a, b api.GroundPlace) bool {
	return a.Warm == b.Warm && slices.Equal(a.Layers, b.Layers)
}

func cloneTruth(t api.GroundTruth) api.GroundTruth {
	return api.GroundTruth{
		Melts:   slices.Clone(t.Melts),
		Warms:   slices.Clone(t.Warms),
		Summers: slices.Clone(t.Summers),
		Winters: slices.Clone(t.Winters),
		Snows:   slices.Clone(t.Snows),
	}
}

// source returns a source of numbers that are the same in each run.
func source() *rand.Rand { return rand.New(rand.NewPCG(1, 2)) }
