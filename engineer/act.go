package engineer

import (
	"slices"

	"talik/api"
	"talik/sense"
	"talik/speak"
)

// act is something that is done.
type act interface {
	// before returns what must hold before the act.
	before(e *Engineer) conditions
	// change does the act. All that must hold before it does.
	change(e *Engineer)
}

// conditions are what must hold before an act, in the order of errors. What an act does not need is nil.
type conditions [4]func() bool

const (
	defined  = iota // its numbers and words are as defined
	counted         // not all acts that are allowed were done
	possible        // the town is in a state that allows it
	allowed         // no rule forbids it
)

// do does an act, if all holds that must.
func (e *Engineer) do(a act) api.Errno {
	if e.unopened() {
		return api.ErrNil
	}
	must := a.before(e)
	must[counted] = func() bool { return len(e.acts) < api.EngineerActs }
	if bad := must.firstError(); bad != api.OK {
		return bad
	}
	a.change(e)
	e.acts = append(e.acts, a)
	return api.OK
}

// firstError returns the error of the first condition that does not hold.
func (c conditions) firstError() api.Errno {
	errors := [...]api.Errno{defined: api.ErrArg, counted: api.ErrState, possible: api.ErrState, allowed: api.ErrRule}
	for i, holds := range c {
		if holds != nil && !holds() {
			return errors[i]
		}
	}
	return api.OK
}

// yearLeft reports whether a year has begun that has not ended.
func (e *Engineer) yearLeft() bool { return e.year < len(e.Years) }

// ending ends a year.
type ending struct{ summer, winter, snow int }

func (a ending) before(e *Engineer) conditions {
	return conditions{
		defined: func() bool {
			return from(0, a.summer, api.GroundHeat) && from(0, a.winter, api.GroundHeat) && from(0, a.snow, api.GroundSnow)
		},
		possible: e.yearLeft,
		allowed: func() bool {
			y := e.Years[e.year]
			return in(a.summer, y.Summer) && in(a.winter, y.Winter) && in(a.snow, y.Snow)
		},
	}
}

func (a ending) change(e *Engineer) {
	e.Years[e.year] = api.GroundYear{Summer: just(a.summer), Winter: just(a.winter), Snow: just(a.snow)}
	e.year++
}

// jacking has a pile jacked.
type jacking struct{ pile int }

func (a jacking) before(e *Engineer) conditions {
	return conditions{
		defined:  func() bool { return from(0, a.pile, len(e.Site.Piles)-1) },
		possible: func() bool { return e.yearLeft() && !set(e.plan[e.year]).has(a.pile) },
	}
}

func (a jacking) change(e *Engineer) { e.plan[e.year] = int(set(e.plan[e.year]).with(a.pile)) }

// voting counts votes.
type voting struct{ words []string }

func (a voting) before(e *Engineer) conditions {
	return conditions{
		defined: func() bool { return len(a.words) == len(e.Council.Languages) && wordsFine(a.words...) },
	}
}

func (a voting) change(e *Engineer) {
	if result, _ := speak.Count(e.Council, a.words); result.Passed {
		e.grants++
	}
}

// wordsFine reports whether all of some words are words of a vote, or empty.
func wordsFine(words ...string) bool {
	fine := true
search:
	for _, word := range words {
		if len(word) > api.EngineerWord {
			fine = false
			break search
		}
		for _, letter := range word {
			if letter != '-' && !('a' <= letter && letter <= 'z') {
				fine = false
				break search
			}
		}
	}
	return fine
}

// buying buys a cooler.
type buying struct{ site int }

func (a buying) before(e *Engineer) conditions {
	return conditions{
		defined:  func() bool { return e.isSite(a.site) },
		possible: func() bool { return !e.bought.has(a.site) },
		allowed:  func() bool { return e.grants > 0 },
	}
}

func (a buying) change(e *Engineer) {
	e.grants--
	e.bought = e.bought.with(a.site)
	e.working = e.working.with(a.site)
}

// breaking notes that a cooler has failed.
type breaking struct{ site int }

func (a breaking) before(e *Engineer) conditions {
	return conditions{
		defined:  func() bool { return e.isSite(a.site) },
		possible: func() bool { return e.working.has(a.site) },
	}
}

func (a breaking) change(e *Engineer) { e.working = e.working.without(a.site) }

// mending notes that a cooler was repaired.
type mending struct{ site int }

func (a mending) before(e *Engineer) conditions {
	return conditions{
		defined:  func() bool { return e.isSite(a.site) },
		possible: func() bool { return e.bought.has(a.site) && !e.working.has(a.site) },
	}
}

func (a mending) change(e *Engineer) { e.working = e.working.with(a.site) }

// noting notes a reading.
type noting struct{ api.SenseReading }

func (a noting) before(e *Engineer) conditions {
	return conditions{
		defined: func() bool {
			return from(0, a.Sensor, len(e.String.At)-1) && from(0, a.Week, api.SenseWeeks) && from(0, a.Temp, 2*api.SenseWarm)
		},
		possible: func() bool { return len(e.readings) < api.SenseReadings },
		allowed: func() bool {
			_, bad := sense.Least(e.String, slices.Concat(e.readings, []api.SenseReading{a.SenseReading}))
			return bad == api.OK
		},
	}
}

func (a noting) change(e *Engineer) { e.readings = append(e.readings, a.SenseReading) }

// failing notes that a loop is not heated any more.
type failing struct{ loop int }

func (a failing) before(e *Engineer) conditions {
	return conditions{
		defined:  func() bool { return e.isLoop(a.loop) },
		possible: func() bool { return !e.cold.has(a.loop) },
	}
}

func (a failing) change(e *Engineer) { e.cold = e.cold.with(a.loop) }

// fixing notes that a loop is heated again.
type fixing struct{ loop int }

func (a fixing) before(e *Engineer) conditions {
	return conditions{
		defined:  func() bool { return e.isLoop(a.loop) },
		possible: func() bool { return e.cold.has(a.loop) },
	}
}

func (a fixing) change(e *Engineer) { e.cold = e.cold.without(a.loop) }

// ordering orders a ship.
type ordering struct{ ship int }

func (a ordering) before(e *Engineer) conditions {
	return conditions{
		defined:  func() bool { return from(0, a.ship, len(e.Store.Ships)-1) },
		possible: func() bool { return !e.ordered.has(a.ship) },
	}
}

func (a ordering) change(e *Engineer) { e.ordered = e.ordered.with(a.ship) }
