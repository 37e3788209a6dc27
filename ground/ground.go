// Package ground is layer 1: see shared/doc/01-ground.md.
package ground

import "talik/api"

// deepest is the greatest depth that can be asked for.
const deepest = 100 * api.GroundThick

// Check returns ErrArg for a place that is not as defined, or OK.
func Check(p api.GroundPlace) api.Errno {
	if len(p.Layers) < 1 || len(p.Layers) > api.GroundLayers || !within(p.Warm, 0, api.GroundHeat) {
		return api.ErrArg
	}
	for _, l := range p.Layers {
		if l.Thick < 1 || l.Thick > api.GroundThick || !within(l.Melt, 1, api.GroundMelt) {
			return api.ErrArg
		}
	}
	return api.OK
}

// Years returns what is known of each year.
func Years(p api.GroundPlace, years []api.GroundYear) ([]api.GroundSeen, api.Errno) {
	if e := checkYears(p, years); e != api.OK {
		return nil, e
	}
	cold, warm := bothEnds(func(warms, cools end) *followed {
		return follow(p, extreme(p, years, warms, cools), 0)
	})
	seen := make([]api.GroundSeen, len(years))
	for i := range seen {
		left := api.Span{Low: cold.lefts[i], High: warm.lefts[i]}
		seen[i] = api.GroundSeen{
			Thaw:  api.Span{Low: cold.thaws[i], High: warm.thaws[i]},
			Left:  left,
			Talik: talik(left),
		}
	}
	return seen, api.OK
}

// Play returns the depth of thaw of each year in truth, and the ledger.
func Play(p api.GroundPlace, years []api.GroundYear, t api.GroundTruth) ([]int, api.GroundLedger, api.Errno) {
	if e := checkYears(p, years); e != api.OK {
		return nil, api.GroundLedger{}, e
	}
	if !possible(p, years, t) {
		return nil, api.GroundLedger{}, api.ErrArg
	}
	f := follow(p, t, 0)
	return f.thaws, api.GroundLedger{In: f.in, Out: f.out, Kept: f.left}, api.OK
}

// Exceeds returns the first year in which a depth can be exceeded, and the first one in which it surely is.
func Exceeds(p api.GroundPlace, years []api.GroundYear, depth int) (int, int, api.Errno) {
	if e := checkDepth(p, years, depth); e != api.OK {
		return 0, 0, e
	}
	surely, can := bothEnds(func(warms, cools end) int {
		return follow(p, extreme(p, years, warms, cools), 0).firstBelow(depth)
	})
	return can, surely, api.OK
}

// Allow returns the greatest heat of a building with which a depth is surely not exceeded.
func Allow(p api.GroundPlace, years []api.GroundYear, depth int) (int, api.Errno) {
	if e := checkDepth(p, years, depth); e != api.OK {
		return 0, e
	}
	tooWarm, found := leastNumber(api.GroundHeat, func(heat int) bool {
		heated := api.GroundPlace{Layers: p.Layers, Warm: api.Span{Low: heat, High: heat}}
		return canExceed(heated, years, depth, 0)
	})
	switch {
	case !found:
		return api.GroundHeat, api.OK
	case tooWarm == 0:
		return 0, api.ErrNone
	}
	return tooWarm - 1, api.OK
}

// Need returns the least heat that must be able to go out in each winter besides, so that a depth is surely not exceeded.
func Need(p api.GroundPlace, years []api.GroundYear, depth int) (int, api.Errno) {
	if e := checkDepth(p, years, depth); e != api.OK {
		return 0, e
	}
	cold, found := leastNumber(api.GroundHeat, func(more int) bool {
		return !canExceed(p, years, depth, more)
	})
	if !found {
		return 0, api.ErrNone
	}
	return cold, api.OK
}

// leastNumber returns the least number from 0 to most for which something holds, and whether there is one. What holds for a number must hold for all greater ones.
func leastNumber(most int, holds func(int) bool) (int, bool) {
	looked := map[int]bool{}
	look := func(n int) bool {
		does, known := looked[n]
		if !known {
			does = holds(n)
			looked[n] = does
		}
		return does
	}
	low, high := 0, most
search:
	for {
		middle := (low + high) / 2
		switch {
		case low == high:
			break search
		case look(middle):
			high = middle
		default:
			low = middle + 1
		}
	}
	// The number that is left was mostly looked at on the way, but most never was.
	if !look(low) {
		return 0, false
	}
	return low, true
}

// canExceed reports whether a depth is exceeded in any year in some truth, if more heat could go out in each winter.
func canExceed(p api.GroundPlace, years []api.GroundYear, depth, more int) bool {
	warmest := follow(p, extreme(p, years, highEnd, lowEnd), more)
	return warmest.firstBelow(depth) < len(years)
}

// talik tells what is known of ground that is thawed after a winter by the heat that is left in it.
func talik(left api.Span) api.GroundWord {
	switch {
	case left.Low > 0:
		return api.GroundSurely
	case left.High > 0:
		return api.GroundMay
	}
	return api.GroundNone
}

// checkDepth returns the error of a place, years and a depth that is asked for.
func checkDepth(p api.GroundPlace, years []api.GroundYear, depth int) api.Errno {
	if e := checkYears(p, years); e != api.OK {
		return e
	}
	if depth < 0 || depth > deepest {
		return api.ErrArg
	}
	return api.OK
}

// checkYears returns the error of a place and years.
func checkYears(p api.GroundPlace, years []api.GroundYear) api.Errno {
	if len(years) > api.GroundYears {
		return api.ErrLong
	}
	if Check(p) != api.OK {
		return api.ErrArg
	}
	for _, y := range years {
		if !within(y.Summer, 0, api.GroundHeat) || !within(y.Winter, 0, api.GroundHeat) || !within(y.Snow, 0, api.GroundSnow) {
			return api.ErrArg
		}
	}
	return api.OK
}

// possible reports whether a truth has a number of the span of each thing, and no others.
func possible(p api.GroundPlace, years []api.GroundYear, t api.GroundTruth) bool {
	return allOf(t.Melts, p.Layers, func(l api.GroundLayer) api.Span { return l.Melt }) &&
		allOf(t.Warms, years, func(api.GroundYear) api.Span { return p.Warm }) &&
		allOf(t.Summers, years, func(y api.GroundYear) api.Span { return y.Summer }) &&
		allOf(t.Winters, years, func(y api.GroundYear) api.Span { return y.Winter }) &&
		allOf(t.Snows, years, func(y api.GroundYear) api.Span { return y.Snow })
}

// allOf reports whether there is one number for each thing, which is of the thing's span.
func allOf[T any](numbers []int, things []T, span func(T) api.Span) bool {
	if len(numbers) != len(things) {
		return false
	}
	for i, thing := range things {
		s := span(thing)
		if numbers[i] < s.Low || numbers[i] > s.High {
			return false
		}
	}
	return true
}

// within reports whether a span is one, from least to most.
func within(s api.Span, least, most int) bool {
	return least <= s.Low && s.Low <= s.High && s.High <= most
}
