package sense

import (
	"slices"

	"talik/api"
)

// What a sensor shows goes up each week by the same: the rate of its depth and its drift together, which is its slope. For each temperature that its depth can have in the week 0, its readings allow a span of slopes.

// looked is a string that is looked at with its readings.
type looked struct {
	api.SenseString
	slopes [][]api.Span // of each sensor, for each temperature from api.SenseCold on
	found  map[part][]state
}

// part is a depth, with those causes of an explanation that matter there.
type part struct {
	depth int
	set   int
}

// state is a temperature that a depth can have in the week 0, with the rates that it can have then.
type state struct {
	temp  int
	rates api.Span
}

// look looks at a string with readings.
func look(s api.SenseString, readings []api.SenseReading) *looked {
	l := &looked{SenseString: s, found: map[part][]state{}}
	for range s.At {
		unread := slices.Repeat([]api.Span{around(s.Drift + s.Warm)}, api.SenseWarm-api.SenseCold+1)
		l.slopes = append(l.slopes, unread)
	}
	for _, r := range readings {
		slopes := l.slopes[r.Sensor]
		for i, span := range slopes {
			slopes[i] = meet(span, l.allowed(r, api.SenseCold+i))
		}
	}
	return l
}

// allowed returns the slopes that a reading allows if the depth has a temperature in the week 0.
func (l *looked) allowed(r api.SenseReading, temp int) api.Span {
	low, high := r.Temp-l.Error-temp, r.Temp+l.Error-temp
	if r.Week > 0 {
		return api.Span{Low: -down(-low, r.Week), High: down(high, r.Week)}
	}
	if from(low, 0, high) {
		return around(l.Drift + l.Warm)
	}
	return around(-1) // which is empty
}

// slopesAt returns the slopes that all readings of a sensor allow if its depth has a temperature in the week 0.
func (l *looked) slopesAt(sensor, temp int) api.Span { return l.slopes[sensor][temp-api.SenseCold] }

// rates returns the rates that a depth can have in a truth that has an explanation.
func (l *looked) rates(depth, set int) api.Span {
	if set&l.bit(len(l.At)+depth) == 0 {
		return api.Span{}
	}
	return around(l.Warm)
}

// drifts returns the drifts that a sensor can have in a truth that has an explanation.
func (l *looked) drifts(sensor, set int) api.Span {
	if set&l.bit(sensor) == 0 {
		return api.Span{}
	}
	return around(l.Drift)
}

// states returns the states that a depth can have in the truths that have an explanation and agree with the readings of the sensors there, the least temperature first.
func (l *looked) states(depth, set int) []state {
	p := part{depth, set & l.at(depth)}
	states, known := l.found[p]
	if !known {
		states = l.search(p)
		l.found[p] = states
	}
	return states
}

// search looks for a rate for each temperature.
func (l *looked) search(p part) []state {
	var states []state
temps:
	for temp := api.SenseCold; temp <= api.SenseWarm; temp++ {
		rates := l.rates(p.depth, p.set)
		for sensor, depth := range l.At {
			if depth != p.depth {
				continue
			}
			slopes := l.slopesAt(sensor, temp)
			if empty(slopes) { // which could not be seen any more after it was made wider
				continue temps
			}
			rates = meet(rates, less(slopes, l.drifts(sensor, p.set)))
		}
		if !empty(rates) {
			states = append(states, state{temp, rates})
		}
	}
	return states
}

// shown returns what a sensor shows in a week in truth.
func shown(s api.SenseString, t api.SenseTruth, sensor, week int) int {
	depth := s.At[sensor]
	return t.Temps[depth] + (t.Rates[depth]+t.Drifts[sensor])*week
}

// around returns the span from -n to n.
func around(n int) api.Span { return api.Span{Low: -n, High: n} }

// meet returns what is in all of some spans.
func meet(first api.Span, more ...api.Span) api.Span {
	for _, s := range more {
		first.Low = max(first.Low, s.Low)
		first.High = min(first.High, s.High)
	}
	return first
}

// less returns by which numbers a number of the span b must be increased to be one of the span a.
func less(a, b api.Span) api.Span { return api.Span{Low: a.Low - b.High, High: a.High - b.Low} }

func empty(s api.Span) bool { return s.Low > s.High }

// down returns a quotient, rounded down, of a divisor that is more than 0.
func down(a, b int) int {
	quotient := a / b
	if a%b < 0 {
		quotient--
	}
	return quotient
}
