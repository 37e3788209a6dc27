package sense

import (
	"iter"
	"math/bits"

	"talik/api"
)

// An explanation is a set of bits. The first cause has the highest bit, so that of two explanations with as many causes the greater number comes first in lexicographic order.

// causes returns how many causes there are.
func (l *looked) causes() int { return len(l.At) + l.Depths }

// bit returns the bit of a cause.
func (l *looked) bit(cause int) int { return 1 << (l.causes() - 1 - cause) }

// at returns the causes that matter at a depth: those of the depth itself, and of all sensors there.
func (l *looked) at(depth int) int {
	set := l.bit(len(l.At) + depth)
	for sensor, at := range l.At {
		if at == depth {
			set |= l.bit(sensor)
		}
	}
	return set
}

// setOf returns an explanation as a set.
func (l *looked) setOf(c api.SenseCause) int {
	set := 0
	for _, sensor := range c.Sensors {
		set |= l.bit(sensor)
	}
	for _, depth := range c.Depths {
		set |= l.bit(len(l.At) + depth)
	}
	return set
}

// cause returns the explanation that a set is.
func (l *looked) cause(set int) api.SenseCause {
	var c api.SenseCause
	for sensor := range l.At {
		if set&l.bit(sensor) != 0 {
			c.Sensors = append(c.Sensors, sensor)
		}
	}
	for depth := range l.Depths {
		if set&l.bit(len(l.At)+depth) != 0 {
			c.Depths = append(c.Depths, depth)
		}
	}
	return c
}

// size returns how many causes an explanation has.
func size(set int) int { return bits.OnesCount(uint(set)) }

// agrees reports whether an explanation agrees with the readings: no depth matters to another one.
func (l *looked) agrees(set int) bool {
	for depth := range l.Depths {
		if len(l.states(depth, set)) == 0 {
			return false
		}
	}
	return true
}

// agreeing goes through the explanations that agree and have at most most causes: those with fewer causes first, and those with as many in lexicographic order.
func (l *looked) agreeing(most int) iter.Seq[int] {
	return func(yield func(int) bool) {
		all := 1<<l.causes() - 1
		for many := range most + 1 {
			for without := range all + 1 {
				set := all - without
				if size(set) == many && l.agrees(set) && !yield(set) {
					return
				}
			}
		}
	}
}

// witness returns the witness of an explanation that agrees.
func (l *looked) witness(set int) api.SenseTruth {
	t := api.SenseTruth{Drifts: make([]int, len(l.At))}
	for depth := range l.Depths {
		first := l.states(depth, set)[0]
		t.Temps = append(t.Temps, first.temp)
		t.Rates = append(t.Rates, first.rates.Low)
	}
	for sensor, depth := range l.At {
		rate := api.Span{Low: t.Rates[depth], High: t.Rates[depth]}
		drifts := less(l.slopesAt(sensor, t.Temps[depth]), rate)
		t.Drifts[sensor] = meet(drifts, l.drifts(sensor, set)).Low
	}
	return t
}

// told is what some explanations tell of causes.
type told struct {
	some int // the causes of which some explanation tells
	all  int // those of which all explanations tell
}

// known returns what is known of each cause with at most most causes, and whether an explanation agrees.
func (l *looked) known(most int) ([]api.SenseWord, bool) {
	t := told{all: 1<<l.causes() - 1}
	found := false
	for set := range l.agreeing(most) {
		t.some |= set
		t.all &= set
		found = true
	}
	if !found {
		return nil, false
	}
	var words []api.SenseWord
	for cause := range l.causes() {
		words = append(words, t.word(l.bit(cause)))
	}
	return words, true
}

// word returns what is known of the cause with a bit.
func (t told) word(bit int) api.SenseWord {
	holds := [...]func(bit int) bool{
		api.SenseNot:    t.inNone,
		api.SenseMay:    t.inSome,
		api.SenseSurely: t.inAll,
	}
	word := api.SenseNot
	for !holds[word](bit) {
		word++
	}
	return word
}

func (t told) inNone(bit int) bool { return t.some&bit == 0 }

func (t told) inSome(bit int) bool { return t.some&bit != 0 && t.all&bit == 0 }

func (t told) inAll(bit int) bool { return t.all&bit != 0 }

// bounds returns between which bounds the temperature of a depth lies in a week with at most most causes, and whether an explanation agrees.
func (l *looked) bounds(most, depth, week int) (api.Span, bool) {
	temps := l.temps(most, depth, week)
	low, found := least(temps, func(s api.Span) int { return s.Low })
	high, _ := least(temps, func(s api.Span) int { return -s.High })
	return api.Span{Low: low, High: -high}, found
}

// temps goes through the temperatures that a depth can have in a week with at most most causes, in spans.
func (l *looked) temps(most, depth, week int) iter.Seq[api.Span] {
	return func(yield func(api.Span) bool) {
		for set := range l.agreeing(most) {
			for _, s := range l.states(depth, set) {
				if !yield(api.Span{Low: s.temp + s.rates.Low*week, High: s.temp + s.rates.High*week}) {
					return
				}
			}
		}
	}
}

// least returns the least of the numbers that some things have, and whether there are any things.
func least[T any](things iter.Seq[T], number func(T) int) (int, bool) {
	best, found := 0, false
	for thing := range things {
		if n := number(thing); !found || n < best {
			best, found = n, true
		}
	}
	return best, found
}
