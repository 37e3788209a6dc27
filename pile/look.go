package pile

import (
	"iter"
	"slices"

	"talik/api"
)

// looked is a site that is looked at, with its thaws.
type looked struct {
	api.PileSite
	thaws [][]api.Span
}

func look(s api.PileSite, thaws [][]api.Span) *looked {
	return &looked{PileSite: s, thaws: thaws}
}

// carries returns what a pile carries at some thaw.
func carries(p api.Pile, thaw int) int {
	frozen := max(p.Depth-thaw, 0)
	return p.Point + p.Skin*frozen/1000
}

// rowOf returns the row of the use of a pile that carries so much, under some load, and whether the pile fails.
func (l *looked) rowOf(carried, load int) (api.PileRow, bool) {
	last := l.Rows[len(l.Rows)-1]
	if carried == 0 {
		return last, true
	}
	use := (1000*load + carried - 1) / carried
	for _, row := range l.Rows {
		if use <= row.Use {
			return row, false
		}
	}
	return last, true
}

// A pile carries the least, settles the most, and fails if it can, where the thaw is the deepest, under the greatest load.

func (l *looked) leastCarried(year, pile int) int {
	return carries(l.Piles[pile], l.thaws[year][pile].High)
}

func (l *looked) mostCarried(year, pile int) int {
	return carries(l.Piles[pile], l.thaws[year][pile].Low)
}

func (l *looked) mostSettled(year, pile int) int {
	row, _ := l.rowOf(l.leastCarried(year, pile), l.Piles[pile].Load.High)
	return row.Settle.High
}

func (l *looked) leastSettled(year, pile int) int {
	row, _ := l.rowOf(l.mostCarried(year, pile), l.Piles[pile].Load.Low)
	return row.Settle.Low
}

// carried returns, for each year and each pile, the least and the most that it carries.
func (l *looked) carried() [][]api.Span {
	ends := [2]func(year, pile int) int{l.leastCarried, l.mostCarried}
	var numbers [2][][]int
	for i, end := range ends {
		for year := range l.thaws {
			var row []int
			for pile := range l.Piles {
				row = append(row, end(year, pile))
			}
			numbers[i] = append(numbers[i], row)
		}
	}
	return spans(numbers)
}

// levels returns, for each year and each pile, the least and the greatest level at the year's end.
func (l *looked) levels(plan []int) [][]api.Span {
	ends := [2]func(year, pile int) int{l.mostSettled, l.leastSettled}
	var numbers [2][][]int
	for i, end := range ends {
		numbers[i] = l.sink(plan, end)
	}
	return spans(numbers)
}

// spans puts the low ends of spans together with their high ends.
func spans(ends [2][][]int) [][]api.Span {
	var all [][]api.Span
	for year, lows := range ends[0] {
		var row []api.Span
		for pile, low := range lows {
			row = append(row, api.Span{Low: low, High: ends[1][year][pile]})
		}
		all = append(all, row)
	}
	return all
}

// sink returns, for each year and each pile, the level at the year's end, if the piles settle like this.
func (l *looked) sink(plan []int, settled func(year, pile int) int) [][]int {
	heads := make([]int, len(l.Piles))
	var levels [][]int
	for year, jacked := range plan {
		for pile := range heads {
			heads[pile] -= settled(year, pile)
		}
		levels = append(levels, slices.Clone(heads))
		for pile := range pilesOf(jacked) {
			heads[pile] = 0
		}
	}
	return levels
}

// pilesOf goes through the piles of a set of bits, the first one first.
func pilesOf(set int) iter.Seq[int] {
	return func(yield func(int) bool) {
		for pile := range api.PilePiles {
			if has(set, pile) && !yield(pile) {
				return
			}
		}
	}
}

// has reports whether a pile is in a set of bits.
func has(set, pile int) bool { return set>>pile&1 == 1 }

// possible reports whether a truth has, for each year and each pile, what can be true of it, and nothing else.
func (l *looked) possible(truth [][]api.PileTruth) bool {
	if len(truth) != len(l.thaws) {
		return false
	}
	for year, piles := range truth {
		if len(piles) != len(l.Piles) {
			return false
		}
		for pile, t := range piles {
			if !in(t.Thaw, l.thaws[year][pile]) || !in(t.Load, l.Piles[pile].Load) {
				return false
			}
			row, _ := l.rowOf(carries(l.Piles[pile], t.Thaw), t.Load)
			if !in(t.Settle, row.Settle) {
				return false
			}
		}
	}
	return true
}
