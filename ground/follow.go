package ground

import (
	"iter"
	"math"

	"talik/api"
)

// end takes one end of a span.
type end func(api.Span) int

func lowEnd(s api.Span) int { return s.Low }

func highEnd(s api.Span) int { return s.High }

// bothEnds follows the end of all spans that thaws the least, and the one that thaws the most. The closure is told which end to take of what makes thaw deeper (heat and snow), and which of what makes it less deep (ice and cold).
func bothEnds[T any](with func(warms, cools end) T) (T, T) {
	least := with(lowEnd, highEnd)
	most := with(highEnd, lowEnd)
	return least, most
}

// extreme returns the truth that has these ends of all spans.
func extreme(p api.GroundPlace, years []api.GroundYear, warms, cools end) api.GroundTruth {
	var t api.GroundTruth
	for _, l := range p.Layers {
		t.Melts = append(t.Melts, cools(l.Melt))
	}
	for _, y := range years {
		t.Warms = append(t.Warms, warms(p.Warm))
		t.Summers = append(t.Summers, warms(y.Summer))
		t.Winters = append(t.Winters, cools(y.Winter))
		t.Snows = append(t.Snows, warms(y.Snow))
	}
	return t
}

// followed is a place that is followed from year to year in truth.
type followed struct {
	api.GroundPlace
	truth api.GroundTruth
	more  int // heat that could go out in each winter besides
	reach int // heat down to which the ground was thawed since it was last frozen as a whole
	left  int // heat in ground that is thawed now
	in    int
	out   int
	thaws []int // depth of thaw of each year
	lefts []int // heat that is left after each winter
}

// follow follows a place through all years of a truth.
func follow(p api.GroundPlace, t api.GroundTruth, more int) *followed {
	f := &followed{GroundPlace: p, truth: t, more: more}
	seasons := [2]func(year int){f.summer, f.winter}
	for year := range t.Summers {
		for _, season := range seasons {
			season(year)
		}
	}
	return f
}

func (f *followed) summer(year int) {
	heat := f.truth.Warms[year] + f.truth.Summers[year]
	f.in += heat
	f.left += heat
	f.reach = max(f.reach, f.left)
	f.thaws = append(f.thaws, f.depth(f.reach))
}

func (f *followed) winter(year int) {
	lets := f.truth.Winters[year]*(1000-f.truth.Snows[year])/1000 + f.more
	heat := min(lets, f.left)
	f.out += heat
	f.left -= heat
	if f.left == 0 {
		f.reach = 0
	}
	f.lefts = append(f.lefts, f.left)
}

// depth returns the depth of some heat.
func (f *followed) depth(heat int) int {
	depth := 0
	for layer, whole := range f.heats() {
		taken := min(heat, whole)
		depth += taken / f.truth.Melts[layer]
		heat -= taken
	}
	return depth
}

// heats goes through the layers, from the surface down, with the heat that thaws all of each. No heat thaws all of the last one.
func (f *followed) heats() iter.Seq2[int, int] {
	return func(yield func(int, int) bool) {
		last := len(f.Layers) - 1
		for i, l := range f.Layers[:last] {
			if !yield(i, l.Thick*f.truth.Melts[i]) {
				return
			}
		}
		yield(last, math.MaxInt)
	}
}

// firstBelow returns the first year whose thaw is deeper than some depth, or the number of years.
func (f *followed) firstBelow(depth int) int {
	for year, thaw := range f.thaws {
		if thaw > depth {
			return year
		}
	}
	return len(f.thaws)
}
