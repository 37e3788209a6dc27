package move

import (
	"iter"
	"slices"

	"talik/api"
)

// looked is a town that is looked at.
type looked struct{ api.MoveTown }

func look(t api.MoveTown) *looked { return &looked{t} }

// The rules, in the order in which they are looked at, which is that of api's rules from api.MoveShared on.
const (
	shared = iota
	gone
	unwished
	school
	apart
	rules
)

// wrong is the panic of a look at a plan: the house, or the pair, with which the rule is wrong.
type wrong int

// fault returns what is wrong with a plan, or with the beginning of one, in which the later houses have no lots yet.
func (l *looked) fault(plan []int) (fault api.MoveFault) {
	must := [rules]func(plan []int){
		shared:   l.mustDiffer,
		gone:     l.mustBeThere,
		unwished: l.mustBeWished,
		school:   l.mustHaveSchools,
		apart:    l.mustBeTogether,
	}
	rule := 0
	defer func() {
		if of, is := recover().(wrong); is {
			fault = api.MoveFault{Rule: api.MoveShared + api.MoveRule(rule), Of: int(of)}
		}
	}()
	for rule = range must {
		must[rule](plan)
	}
	return api.MoveFault{Rule: api.MoveFine}
}

// mustDiffer gives up if two houses have the same lot.
func (l *looked) mustDiffer(plan []int) {
	for house, lot := range plan {
		if slices.Contains(plan[:house], lot) {
			panic(wrong(house))
		}
	}
}

// mustBeThere gives up if a lot is gone.
func (l *looked) mustBeThere(plan []int) {
	for house, lot := range plan {
		if l.Gone[lot] {
			panic(wrong(house))
		}
	}
}

// mustBeWished gives up if a lot has no rank.
func (l *looked) mustBeWished(plan []int) {
	for house, lot := range plan {
		if l.rank(house, lot) == unranked {
			panic(wrong(house))
		}
	}
}

// mustHaveSchools gives up if a house has no school that it needs.
func (l *looked) mustHaveSchools(plan []int) {
	for house, lot := range plan {
		if l.Houses[house].School && !slices.ContainsFunc(l.Schools, func(at int) bool { return l.near(lot, at) }) {
			panic(wrong(house))
		}
	}
}

// mustBeTogether gives up if kin who have lots are not within reach of each other.
func (l *looked) mustBeTogether(plan []int) {
	for pair, p := range l.Kin {
		if max(p.One, p.Other) < len(plan) && !l.near(plan[p.One], plan[p.Other]) {
			panic(wrong(pair))
		}
	}
}

// near reports whether two lots are within reach of each other.
func (l *looked) near(lot, other int) bool { return l.Walk[lot][other] <= l.Reach }

// unranked stands for the rank of a lot that has none.
const unranked = -1

// rank returns the rank of a lot for a house, or unranked.
func (l *looked) rank(house, lot int) int {
	h := l.Houses[house]
	if wish := slices.Index(h.Wishes, lot); wish >= 0 {
		return wish
	}
	if lot == h.Lot {
		return len(h.Wishes)
	}
	return unranked
}

// ranks returns the ranks of an allowed plan.
func (l *looked) ranks(plan []int) []int {
	var ranks []int
	for house, lot := range plan {
		ranks = append(ranks, l.rank(house, lot))
	}
	return ranks
}

// sum returns the sum of the ranks of an allowed plan.
func (l *looked) sum(plan []int) int {
	whole := 0
	for _, rank := range l.ranks(plan) {
		whole += rank
	}
	return whole
}

// worst returns the greatest rank of an allowed plan.
func (l *looked) worst(plan []int) int { return greatest(l.ranks(plan)...) }

func greatest(ranks ...int) int {
	most := 0
	for _, rank := range ranks {
		most = max(most, rank)
	}
	return most
}

// free returns the lots, as bits, that are not gone, and on which none of some houses is.
func (l *looked) free(taken []int) int {
	free := 0
	for lot, isGone := range l.Gone {
		if !isGone && !slices.Contains(taken, lot) {
			free |= 1 << lot
		}
	}
	return free
}

// lotsOf goes through the lots of a set of bits, the first one first.
func lotsOf(set int) iter.Seq[int] {
	return func(yield func(int) bool) {
		for lot := range api.MoveLots {
			if has(set, lot) && !yield(lot) {
				return
			}
		}
	}
}

// has reports whether a lot is in a set of bits.
func has(set, lot int) bool { return set>>lot&1 == 1 }
