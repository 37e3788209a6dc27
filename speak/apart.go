package speak

import (
	"cmp"
	"iter"
	"slices"

	"talik/api"
)

// apart returns the deeds that tell two motions apart.
func apart(m, n motion) ([]api.SpeakDeed, api.Errno) {
	clauses := different(slices.Concat(m.clauses(), n.clauses()))
	if len(clauses) > api.SpeakClauses {
		return nil, api.ErrOpen
	}
	deeds, found := firstOf(choices(clauses), func(deeds []api.SpeakDeed) bool {
		return m.tree.holds(deeds) != n.tree.holds(deeds)
	})
	if !found {
		return nil, api.ErrNone
	}
	return deeds, api.OK
}

// different returns deeds, each of them once, in the order of their pairs of an act and a thing, and then of their numbers.
func different(deeds []api.SpeakDeed) []api.SpeakDeed {
	sorted := slices.SortedFunc(slices.Values(deeds), func(a, b api.SpeakDeed) int {
		return cmp.Or(comparePairs(a, b), cmp.Compare(a.Number, b.Number))
	})
	return slices.Compact(sorted)
}

func comparePairs(a, b api.SpeakDeed) int {
	return cmp.Or(cmp.Compare(a.Act, b.Act), cmp.Compare(a.Thing, b.Thing))
}

// choices goes through all choices of at most one deed for each pair, in order, from deeds that are different and sorted.
func choices(deeds []api.SpeakDeed) iter.Seq[[]api.SpeakDeed] {
	return func(yield func([]api.SpeakDeed) bool) { choose(nil, deeds, yield) }
}

// choose yields the choices that begin with what was chosen, and reports whether more are wanted.
func choose(chosen, deeds []api.SpeakDeed, yield func([]api.SpeakDeed) bool) bool {
	if len(deeds) == 0 {
		return yield(chosen)
	}
	later := slices.IndexFunc(deeds, func(d api.SpeakDeed) bool { return comparePairs(d, deeds[0]) != 0 })
	if later < 0 {
		later = len(deeds)
	}
	if !choose(chosen, deeds[later:], yield) {
		return false
	}
	for _, deed := range deeds[:later] {
		more := append(slices.Clone(chosen), deed)
		if !choose(more, deeds[later:], yield) {
			return false
		}
	}
	return true
}

// firstOf returns the first one of some things that is as wanted, and whether there is any.
func firstOf[T any](things iter.Seq[T], wanted func(T) bool) (T, bool) {
	for thing := range things {
		if wanted(thing) {
			return thing, true
		}
	}
	var none T
	return none, false
}
