package ground

import (
	"math/rand/v2"
	"slices"
	"testing"

	"talik/api"
)

// P1.6 (consequences)

// played returns what comes of a truth: the depths of thaw, and what is left after each winter.
func played(t *testing.T, p api.GroundPlace, l []api.GroundYear, truth api.GroundTruth) (thaws, lefts []int) {
	t.Helper()
	thaws, _, e := Play(p, l, truth)
	if e != api.OK {
		t.Fatal(e)
	}
	for many := range len(l) {
		cut := parts(len(p.Layers), append(slices.Clone(truth.Melts), numbersOf(truth, many+1)...))
		_, ledger, e := Play(p, l[:many+1], cut)
		if e != api.OK {
			t.Fatal(e)
		}
		lefts = append(lefts, ledger.Kept)
	}
	return thaws, lefts
}

// loose returns a place and years with the same layers and seasons, of which nothing is known.
func loose(p api.GroundPlace, l []api.GroundYear) (api.GroundPlace, []api.GroundYear) {
	q := api.GroundPlace{Warm: sp(0, api.GroundHeat), Layers: slices.Clone(p.Layers)}
	for i := range q.Layers {
		q.Layers[i].Melt = sp(1, api.GroundMelt)
	}
	year := api.GroundYear{Summer: sp(0, api.GroundHeat), Winter: sp(0, api.GroundHeat), Snow: sp(0, api.GroundSnow)}
	return q, slices.Repeat([]api.GroundYear{year}, len(l))
}

// raise makes some numbers greater, but not above most.
func raise(r *rand.Rand, numbers []int, most int) {
	for i := range numbers {
		if r.IntN(2) == 0 {
			numbers[i] += r.IntN(most - numbers[i] + 1)
		}
	}
}

// compare compares what comes of two truths of places.
func compare(t *testing.T, change func(*rand.Rand, *api.GroundTruth), holds func(a, b int) bool, lefts bool) {
	t.Helper()
	r := source()
	for range 300 {
		p, l := large(r)
		truth := someTruth(r, p, l)
		p, l = loose(p, l)
		other := cloneTruth(truth)
		change(r, &other)
		thawsA, leftsA := played(t, p, l, truth)
		thawsB, leftsB := played(t, p, l, other)
		for i := range l {
			if !holds(thawsA[i], thawsB[i]) || lefts && !holds(leftsA[i], leftsB[i]) {
				t.Fatal(p, truth, other, i, thawsA, thawsB, leftsA, leftsB)
			}
		}
	}
}

func atMost(a, b int) bool { return a <= b }

func atLeast(a, b int) bool { return a >= b }

func TestMoreHeatThawsNoLess(t *testing.T) {
	compare(t, func(r *rand.Rand, x *api.GroundTruth) { raise(r, x.Summers, api.GroundHeat) }, atMost, true)
	compare(t, func(r *rand.Rand, x *api.GroundTruth) { raise(r, x.Warms, api.GroundHeat) }, atMost, true)
}

func TestMoreSnowLeavesNoLess(t *testing.T) {
	compare(t, func(r *rand.Rand, x *api.GroundTruth) { raise(r, x.Snows, api.GroundSnow) }, atMost, true)
}

func TestMoreColdLeavesNoMore(t *testing.T) {
	compare(t, func(r *rand.Rand, x *api.GroundTruth) { raise(r, x.Winters, api.GroundHeat) }, atLeast, true)
}

func TestMoreIceThawsNoDeeper(t *testing.T) {
	compare(t, func(r *rand.Rand, x *api.GroundTruth) { raise(r, x.Melts, api.GroundMelt) }, atLeast, false)
	r := source()
	for range 100 { // and what is left does not come from the ice
		p, l := large(r)
		truth := someTruth(r, p, l)
		p, l = loose(p, l)
		other := cloneTruth(truth)
		raise(r, other.Melts, api.GroundMelt)
		_, a := played(t, p, l, truth)
		_, b := played(t, p, l, other)
		if !slices.Equal(a, b) {
			t.Fatal(p, truth, other, a, b)
		}
	}
}

// narrow returns a span of a span.
func narrow(r *rand.Rand, s api.Span) api.Span {
	return someSpan(r, s.Low, s.High, s.High-s.Low)
}

func TestKnownBetterIsNoWider(t *testing.T) {
	r := source()
	inside := func(a, b api.Span) bool { return b.Low <= a.Low && a.High <= b.High }
	for range 500 {
		p, l := large(r)
		q, m := api.GroundPlace{Layers: slices.Clone(p.Layers), Warm: narrow(r, p.Warm)}, slices.Clone(l)
		for i := range q.Layers {
			q.Layers[i].Melt = narrow(r, q.Layers[i].Melt)
		}
		for i := range m {
			m[i] = api.GroundYear{Summer: narrow(r, m[i].Summer), Winter: narrow(r, m[i].Winter), Snow: narrow(r, m[i].Snow)}
		}
		wide, e := Years(p, l)
		if e != api.OK {
			t.Fatal(e)
		}
		better, e := Years(q, m)
		if e != api.OK {
			t.Fatal(e)
		}
		for i := range l {
			if !inside(better[i].Thaw, wide[i].Thaw) || !inside(better[i].Left, wide[i].Left) || wide[i].Talik != api.GroundMay && wide[i].Talik != better[i].Talik {
				t.Fatal(p, l, q, m, i, wide[i], better[i])
			}
		}
	}
}
