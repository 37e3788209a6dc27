package pile

import "talik/api"

// firstYear returns the first year in which something can be wrong of a pile; -1 if there is none.
func (l *looked) firstYear(pile int, wrong func(year, pile int) bool) int {
	for year := range l.thaws {
		if wrong(year, pile) {
			return year
		}
	}
	return -1
}

// firstFault returns the first fault of a plan.
func (l *looked) firstFault(plan []int) api.PileFault {
	levels := l.levels(plan)
	fault := api.PileFault{Rule: api.PileFine}
search:
	for year := range l.thaws {
		for rule := api.PileLoses; rule <= api.PileTilts; rule++ {
			for of := range l.many(rule) {
				if l.wrong(rule, year, levels[year], of) {
					fault = api.PileFault{Year: year, Rule: rule, Of: of}
					break search
				}
			}
		}
	}
	return fault
}

// many returns of how many piles (or pairs) a rule can be wrong.
func (l *looked) many(rule api.PileRule) int {
	if rule == api.PileTilts {
		return len(l.Pairs)
	}
	return len(l.Piles)
}

// wrong reports whether a rule can be wrong, in a year with these levels at its end, of a pile (or of a pair).
func (l *looked) wrong(rule api.PileRule, year int, levels []api.Span, of int) bool {
	switch rule {
	case api.PileLoses:
		return l.loses(year, of)
	case api.PileFails:
		return l.fails(year, of)
	case api.PileSinks:
		return l.sinks(levels[of])
	default:
		pair := l.Pairs[of]
		return l.tilts(levels[pair.One], levels[pair.Other])
	}
}

func (l *looked) loses(year, pile int) bool {
	return l.leastCarried(year, pile)*1000 < l.Piles[pile].Design*(1000-l.May)
}

func (l *looked) fails(year, pile int) bool {
	_, fails := l.rowOf(l.leastCarried(year, pile), l.Piles[pile].Load.High)
	return fails
}

func (l *looked) sinks(level api.Span) bool { return level.Low < -l.Sink }

func (l *looked) tilts(one, other api.Span) bool {
	return max(one.High-other.Low, other.High-one.Low) > l.Tilt
}
