package move

import (
	"cmp"
	"iter"
	"slices"

	"talik/api"
)

// allowed goes through the allowed plans in lexicographic order.
func (l *looked) allowed() iter.Seq[[]int] {
	return func(yield func([]int) bool) { l.goOn(nil, yield) }
}

// goOn yields the allowed plans with some beginning, which is not wrong, and reports whether more plans are wanted.
func (l *looked) goOn(begin []int, yield func([]int) bool) bool {
	if len(begin) == len(l.Houses) {
		return yield(begin)
	}
	for lot := range lotsOf(l.free(begin)) {
		next := append(slices.Clone(begin), lot)
		if l.fault(next).Rule == api.MoveFine && !l.goOn(next, yield) {
			return false
		}
	}
	return true
}

// exchange returns the first exchange for an allowed plan, and whether there is one.
func (l *looked) exchange(plan []int) ([]int, bool) {
	for other := range l.allowed() {
		if !slices.Equal(plan, other) && l.pleases(plan, other) {
			return other, true
		}
	}
	return nil, false
}

// pleases reports whether each house that has another lot in another plan has a lesser rank there.
func (l *looked) pleases(plan, other []int) bool {
	for house, lot := range other {
		if lot != plan[house] && l.rank(house, lot) >= l.rank(house, plan[house]) {
			return false
		}
	}
	return true
}

// best returns the best plan, and whether any plan is allowed.
func (l *looked) best() ([]int, bool) {
	return least(l.allowed(), func(a, b []int) int { return cmp.Compare(l.sum(a), l.sum(b)) })
}

// fairest returns the fairest plan, and whether any plan is allowed.
func (l *looked) fairest() ([]int, bool) {
	return least(l.allowed(), func(a, b []int) int {
		return cmp.Or(cmp.Compare(l.worst(a), l.worst(b)), cmp.Compare(l.sum(a), l.sum(b)))
	})
}

// least returns the first one of some things that no other one comes before, and whether there are any things.
func least[T any](things iter.Seq[T], compare func(a, b T) int) (best T, found bool) {
	for thing := range things {
		if !found || compare(thing, best) < 0 {
			best, found = thing, true
		}
	}
	return best, found
}
