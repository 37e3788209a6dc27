package pipe

import (
	"iter"

	"talik/api"
)

// none is the slack where each order comes too late: less than all slacks that count.
const none = -1

// crew is a crew on its way: the loops, as bits, that it has not repaired yet, the place where it is, and the hours that have gone by.
type crew struct {
	left int
	at   int
	hour int
}

// late is the panic of an order in which a loop is repaired after it is due.
type late struct{}

// repair returns the crew after its next repair. It gives up if that comes too late.
func (l *looked) repair(c crew, loop int) crew {
	c.hour += l.Ways[c.at][loop+1] + l.Loops[loop].Fix.High
	if c.hour > l.due[loop] {
		panic(late{})
	}
	c.left &^= 1 << loop
	c.at = loop + 1
	return c
}

// slackBy returns the greatest slack of the orders of what a crew has left that begin with a loop.
func (l *looked) slackBy(c crew, loop int) (slack int) {
	defer func() {
		if _, is := recover().(late); is {
			slack = none
		}
	}()
	next := l.repair(c, loop)
	return min(l.due[loop]-next.hour, l.slack(next))
}

// slack returns the greatest slack of the orders of what a crew has left.
func (l *looked) slack(c crew) int {
	if c.left == 0 {
		return len(l.Frost)
	}
	slack, known := l.slacks[c]
	if !known {
		_, slack = greatest(loopsOf(c.left), func(loop int) int { return l.slackBy(c, loop) })
		l.slacks[c] = slack
	}
	return slack
}

// firstOrder returns the first order of what a crew has left, in lexicographic order, that has enough slack, which one of them has. It need not leave the most slack to the later loops, as the earlier ones can have less.
func (l *looked) firstOrder(c crew, enough int) []int {
	var order []int
	var add func(c crew)
	add = func(c crew) {
		for loop := range loopsOf(c.left) {
			if l.slackBy(c, loop) >= enough {
				order = append(order, loop)
				add(l.repair(c, loop))
				return
			}
		}
	}
	add(c)
	return order
}

// weak returns the index of the first fault that has no best order from a place; -1 if each has one.
func (l *looked) weak(place int, faults []int) int {
	for i, fault := range faults {
		if l.slack(crew{left: fault, at: place}) == none {
			return i
		}
	}
	return -1
}

// slackOf returns the slack of a place for some faults.
func (l *looked) slackOf(place int, faults []int) int {
	least := len(l.Frost)
	for _, fault := range faults {
		least = min(least, l.slack(crew{left: fault, at: place}))
	}
	return least
}

// bestWrapping returns the best wrapping, its cost, and whether there is one.
func bestWrapping(n api.PipeNet, place int, faults []int) (best, least int, found bool) {
	for wrapping := range 1 << len(n.Loops) {
		l := look(n, wrapping)
		if cost := l.cost(); (!found || cost < least) && l.weak(place, faults) < 0 {
			best, least, found = wrapping, cost, true
		}
	}
	return best, least, found
}

// greatest returns the first one of the things with the greatest slack, and this slack; none if no thing has any.
func greatest[T any](things iter.Seq[T], slack func(T) int) (first T, most int) {
	most = none
	for thing := range things {
		if s := slack(thing); s > most {
			first, most = thing, s
		}
	}
	return first, most
}
