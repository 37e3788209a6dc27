package pipe

import (
	"math/rand/v2"
	"slices"

	"talik/api"
)

func sp(low, high int) api.Span { return api.Span{Low: low, High: high} }

// source returns a source of numbers that are the same in each run.
func source() *rand.Rand { return rand.New(rand.NewPCG(1, 2)) }

// net returns the net n of the chapter's examples.
func net() api.PipeNet {
	return api.PipeNet{
		Loops: []api.PipeLoop{
			{Warm: sp(300, 400), Leak: sp(100, 150), Wrap: sp(50, 80), Cost: 30, Mass: 50, Ground: 200, Feed: 60, Fix: sp(1, 2)},
			{Warm: sp(300, 300), Leak: sp(200, 200), Wrap: sp(60, 60), Cost: 40, Mass: 50, Ground: 200, Feed: 80, Fix: sp(1, 1)},
		},
		Frost: slices.Repeat([]api.Span{sp(200, 300)}, 8),
		Ways:  equalWays(2, 1),
	}
}

// equalWays returns the ways of a net with so many loops, from each place to each other one as many hours.
func equalWays(loops, hours int) [][]int {
	var ways [][]int
	for place := range loops + 1 {
		row := slices.Repeat([]int{hours}, loops+1)
		row[place] = 0
		ways = append(ways, row)
	}
	return ways
}

// timed returns a net in which nothing but hours matters: for each loop after how many hours it is due (30, if it cannot be frozen), and how long its repair takes. No way takes any time.
func timed(due, fix []int) api.PipeNet {
	n := api.PipeNet{Frost: slices.Repeat([]api.Span{sp(0, 1000)}, 30), Ways: equalWays(len(due), 0)}
	for i := range due { // each loses one tenth of a kelvin an hour at most
		n.Loops = append(n.Loops, api.PipeLoop{Warm: sp(due[i]+1, 900), Leak: sp(0, 1), Cost: 1, Mass: 1, Fix: sp(0, fix[i])})
	}
	return n
}

// greatestNet returns a net with as many loops and hours as are allowed, and with the greatest numbers.
func greatestNet() api.PipeNet {
	loop := api.PipeLoop{Warm: sp(1000, 1000), Leak: sp(1000, 1000), Wrap: sp(1000, 1000), Cost: 1000000, Mass: 10000, Ground: 1000, Feed: 1000, Fix: sp(72, 72)}
	return api.PipeNet{
		Loops: slices.Repeat([]api.PipeLoop{loop}, 5),
		Frost: slices.Repeat([]api.Span{sp(1000, 1000)}, 72),
		Ways:  equalWays(5, 72),
	}
}

func cloneNet(n api.PipeNet) api.PipeNet {
	n.Loops, n.Frost, n.Ways = slices.Clone(n.Loops), slices.Clone(n.Frost), cloneWays(n.Ways)
	return n
}

func cloneWays(ways [][]int) [][]int {
	ways = slices.Clone(ways)
	for i := range ways {
		ways[i] = slices.Clone(ways[i])
	}
	return ways
}

// changed returns a net with some change.
func changed(n api.PipeNet, do func(n *api.PipeNet)) api.PipeNet {
	n = cloneNet(n)
	do(&n)
	return n
}

// wrap returns a net with a set of loops wrapped.
func wrap(n api.PipeNet, wrapping int) api.PipeNet {
	n = cloneNet(n)
	for i := range n.Loops {
		if wrapping&(1<<i) != 0 {
			n.Loops[i].Leak = n.Loops[i].Wrap
		}
	}
	return n
}

// badNets returns nets that are not as defined, each for one reason.
func badNets() map[string]api.PipeNet {
	nets := map[string]api.PipeNet{"nothing": {}}
	change := func(name string, do func(n *api.PipeNet)) { nets[name] = changed(net(), do) }
	first := func(name string, do func(l *api.PipeLoop)) {
		change(name, func(n *api.PipeNet) { do(&n.Loops[0]) })
	}
	last := func(name string, do func(l *api.PipeLoop)) {
		change(name, func(n *api.PipeNet) { do(&n.Loops[1]) })
	}
	many := func(name string, loops int) {
		change(name, func(n *api.PipeNet) {
			n.Loops, n.Ways = slices.Repeat(n.Loops[:1], loops), equalWays(loops, 1)
		})
	}
	many("no loops", 0)
	many("6 loops", 6)
	many("70 loops", 70)
	change("no hours", func(n *api.PipeNet) { n.Frost = nil })
	change("73 hours", func(n *api.PipeNet) { n.Frost = slices.Repeat(n.Frost[:1], 73) })
	change("frost from -1", func(n *api.PipeNet) { n.Frost[0].Low = -1 })
	change("frost upside", func(n *api.PipeNet) { n.Frost[3] = sp(3, 2) })
	change("frost to 1001", func(n *api.PipeNet) { n.Frost[7].High = 1001 })
	change("no ways", func(n *api.PipeNet) { n.Ways = nil })
	change("a row of ways less", func(n *api.PipeNet) { n.Ways = n.Ways[:2] })
	change("a row of ways more", func(n *api.PipeNet) { n.Ways = append(n.Ways, []int{1, 1, 1}) })
	change("a way less", func(n *api.PipeNet) { n.Ways[0] = n.Ways[0][:2] })
	change("a way more", func(n *api.PipeNet) { n.Ways[2] = append(n.Ways[2], 0) })
	change("no ways from a place", func(n *api.PipeNet) { n.Ways[1] = nil })
	change("ways of a loop less", func(n *api.PipeNet) { n.Ways = equalWays(1, 1) })
	change("ways of a loop more", func(n *api.PipeNet) { n.Ways = equalWays(3, 1) })
	change("way -1", func(n *api.PipeNet) { n.Ways[0][1] = -1 })
	change("way 73", func(n *api.PipeNet) { n.Ways[2][1] = 73 })
	change("a way from the depot to itself", func(n *api.PipeNet) { n.Ways[0][0] = 1 })
	change("a way from a loop to itself", func(n *api.PipeNet) { n.Ways[2][2] = 1 })
	first("warm from 0", func(l *api.PipeLoop) { l.Warm.Low = 0 })
	last("warm upside", func(l *api.PipeLoop) { l.Warm = sp(3, 2) })
	last("warm to 1001", func(l *api.PipeLoop) { l.Warm.High = 1001 })
	first("leak from -1", func(l *api.PipeLoop) { l.Leak.Low, l.Wrap.Low = -1, -1 })
	last("leak upside", func(l *api.PipeLoop) { l.Leak = sp(201, 200) })
	first("leak to 1001", func(l *api.PipeLoop) { l.Leak.High = 1001 })
	first("wrap from -1", func(l *api.PipeLoop) { l.Wrap.Low = -1 })
	last("wrap upside", func(l *api.PipeLoop) { l.Wrap = sp(61, 60) })
	first("wrap to 1001", func(l *api.PipeLoop) { l.Wrap.High = 1001 })
	first("wrap low above that of leak", func(l *api.PipeLoop) { l.Wrap = sp(101, 120) })
	last("wrap high above that of leak", func(l *api.PipeLoop) { l.Wrap = sp(60, 201) })
	first("cost -1", func(l *api.PipeLoop) { l.Cost = -1 })
	last("cost 1000001", func(l *api.PipeLoop) { l.Cost = 1000001 })
	first("mass 0", func(l *api.PipeLoop) { l.Mass = 0 })
	last("mass 10001", func(l *api.PipeLoop) { l.Mass = 10001 })
	first("ground -1", func(l *api.PipeLoop) { l.Ground = -1 })
	last("ground 1001", func(l *api.PipeLoop) { l.Ground = 1001 })
	first("feed -1", func(l *api.PipeLoop) { l.Feed = -1 })
	last("feed 1001", func(l *api.PipeLoop) { l.Feed = 1001 })
	first("fix from -1", func(l *api.PipeLoop) { l.Fix.Low = -1 })
	last("fix upside", func(l *api.PipeLoop) { l.Fix = sp(2, 1) })
	last("fix to 73", func(l *api.PipeLoop) { l.Fix.High = 73 })
	return nets
}

// reached returns, for each hour, how warm a loop is after it without heat in each of all truths.
func reached(n api.PipeNet, loop int) []map[int]bool {
	now := map[int]bool{}
	for warm := n.Loops[loop].Warm.Low; warm <= n.Loops[loop].Warm.High; warm++ {
		now[warm] = true
	}
	var all []map[int]bool
	for _, frost := range n.Frost {
		next := map[int]bool{}
		for warm := range now {
			for cold := frost.Low; cold <= frost.High; cold++ {
				for leak := n.Loops[loop].Leak.Low; leak <= n.Loops[loop].Leak.High; leak++ {
					next[max(0, warm-leak*(warm+cold)/1000)] = true
				}
			}
		}
		all = append(all, next)
		now = next
	}
	return all
}

// always returns the hours after which a loop is due, as all truths show.
func always(n api.PipeNet, loop int) int {
	for hour, warms := range reached(n, loop) {
		if warms[0] {
			return hour
		}
	}
	return len(n.Frost)
}

// worst returns the hours after which a loop is due, as the worst truth shows.
func worst(n api.PipeNet, loop int) int {
	warm := n.Loops[loop].Warm.Low
	for hour, frost := range n.Frost {
		warm -= n.Loops[loop].Leak.High * (warm + frost.High) / 1000
		if warm <= 0 {
			return hour
		}
	}
	return len(n.Frost)
}

// slow does what the chapter says, step by step.
type slow struct {
	api.PipeNet
	due []int
}

// slowly looks at a net slowly; it is told when loops are due.
func slowly(n api.PipeNet, due func(n api.PipeNet, loop int) int) slow {
	s := slow{PipeNet: n}
	for loop := range n.Loops {
		s.due = append(s.due, due(n, loop))
	}
	return s
}

// slack returns the slack of an order.
func (s slow) slack(from int, order []int) int {
	slacks := []int{len(s.Frost)}
	hour := 0
	for _, loop := range order {
		hour += s.Ways[from][loop+1]
		hour += s.Loops[loop].Fix.High
		slacks = append(slacks, s.due[loop]-hour)
		from = loop + 1
	}
	return slices.Min(slacks)
}

// best returns the best order, its slack, and whether there is one.
func (s slow) best(from, fault int) ([]int, int, bool) {
	var best []int
	most := -1
	for _, order := range orders(members(fault)) {
		if slack := s.slack(from, order); slack > most {
			best, most = order, slack
		}
	}
	return best, most, most >= 0
}

// weak returns the first fault without a best order.
func (s slow) weak(from int, faults []int) int {
	return slices.IndexFunc(faults, func(fault int) bool {
		_, _, found := s.best(from, fault)
		return !found
	})
}

// slackOf returns the slack of a place, and whether it has one.
func (s slow) slackOf(place int, faults []int) (int, bool) {
	slacks := []int{len(s.Frost)}
	for _, fault := range faults {
		_, slack, found := s.best(place, fault)
		if !found {
			return 0, false
		}
		slacks = append(slacks, slack)
	}
	return slices.Min(slacks), true
}

// post returns the best place, its slack, and whether there is one.
func (s slow) post(faults []int) (int, int, bool) {
	best, most, found := 0, 0, false
	for place := range len(s.Loops) + 1 {
		if slack, has := s.slackOf(place, faults); has && (!found || slack > most) {
			best, most, found = place, slack, true
		}
	}
	return best, most, found
}

// price returns what a wrapping costs.
func price(n api.PipeNet, wrapping int) int {
	cost := 0
	for _, loop := range members(wrapping) {
		cost += n.Loops[loop].Cost
	}
	return cost
}

// slowWrap returns the best wrapping, and whether there is one.
func slowWrap(n api.PipeNet, from int, faults []int, due func(n api.PipeNet, loop int) int) (int, bool) {
	var good []int
	for wrapping := range 1 << len(n.Loops) {
		if slowly(wrap(n, wrapping), due).weak(from, faults) < 0 {
			good = append(good, wrapping)
		}
	}
	if len(good) == 0 {
		return 0, false
	}
	slices.SortStableFunc(good, func(a, b int) int { return price(n, a) - price(n, b) })
	return good[0], true
}

// members returns the loops of a set.
func members(set int) []int {
	var l []int
	for i := range 10 {
		if set&(1<<i) != 0 {
			l = append(l, i)
		}
	}
	return l
}

// orders returns all orders of a list, in lexicographic order of places.
func orders(list []int) [][]int {
	if len(list) == 0 {
		return [][]int{nil}
	}
	var all [][]int
	for i, n := range list {
		for _, rest := range orders(slices.Concat(list[:i], list[i+1:])) {
			all = append(all, slices.Concat([]int{n}, rest))
		}
	}
	return all
}

// one returns a number of a span.
func one(r *rand.Rand, s api.Span) int { return s.Low + r.IntN(s.High-s.Low+1) }

// someSpan returns a span from low to high whose ends differ by at most wide.
func someSpan(r *rand.Rand, low, high, wide int) api.Span {
	a := low + r.IntN(high-low+1)
	return sp(a, min(high, a+r.IntN(wide+1)))
}

// someWays returns ways of which each takes at most so many hours.
func someWays(r *rand.Rand, loops, hours int) [][]int {
	ways := equalWays(loops, 0)
	for i := range ways {
		for j := range ways {
			if i != j {
				ways[i][j] = r.IntN(hours + 1)
			}
		}
	}
	return ways
}

// someLoop returns a loop.
func someLoop(r *rand.Rand) api.PipeLoop {
	leak := someSpan(r, 5, 120, 30)
	wrapped := r.IntN(leak.Low + 1)
	return api.PipeLoop{
		Warm:   someSpan(r, 100, 1000, 300),
		Leak:   leak,
		Wrap:   sp(wrapped, wrapped+r.IntN(leak.High-leak.Low+1)),
		Cost:   r.IntN(2 + r.IntN(9)),
		Mass:   1 + r.IntN(10000),
		Ground: r.IntN(1001),
		Feed:   r.IntN(200),
		Fix:    someSpan(r, 0, 4, 2),
	}
}

// some returns a net with so many loops and hours, some of whose faults have orders that come soon enough.
func some(r *rand.Rand, loops, hours int) api.PipeNet {
	n := api.PipeNet{Ways: someWays(r, loops, r.IntN(4))}
	for range loops {
		n.Loops = append(n.Loops, someLoop(r))
	}
	for range hours {
		n.Frost = append(n.Frost, someSpan(r, 0, 500, 100))
	}
	return n
}

// small returns a net with so few truths that all of them can be looked at.
func small(r *rand.Rand) api.PipeNet {
	n := some(r, 1+r.IntN(3), 1+r.IntN(9))
	for i := range n.Loops {
		loop := &n.Loops[i]
		loop.Warm = someSpan(r, 1, 60, 6)
		loop.Leak = someSpan(r, 0, 150, 8)
		wrapped := r.IntN(loop.Leak.Low + 1)
		loop.Wrap = sp(wrapped, wrapped+r.IntN(loop.Leak.High-loop.Leak.Low+1))
	}
	for hour := range n.Frost {
		n.Frost[hour] = someSpan(r, 0, 120, 8)
	}
	return n
}

// someFaults returns some faults of a net.
func someFaults(r *rand.Rand, n api.PipeNet, most int) []int {
	var faults []int
	for range r.IntN(most + 1) {
		faults = append(faults, r.IntN(1<<len(n.Loops)))
	}
	return faults
}

// someTruth returns what is true of a loop in the first hours.
func someTruth(r *rand.Rand, n api.PipeNet, loop, hours int, fed bool) []api.PipeTruth {
	var truth []api.PipeTruth
	for hour := range hours {
		x := api.PipeTruth{Leak: one(r, n.Loops[loop].Leak), Frost: one(r, n.Frost[hour])}
		x.Fed = fed && r.IntN(2) == 0
		truth = append(truth, x)
	}
	return truth
}

// endTruth returns what is true of a loop without heat in the first hours, at one end of all spans.
func endTruth(n api.PipeNet, loop, hours int, end func(s api.Span) int) []api.PipeTruth {
	var truth []api.PipeTruth
	for hour := range hours {
		truth = append(truth, api.PipeTruth{Leak: end(n.Loops[loop].Leak), Frost: end(n.Frost[hour])})
	}
	return truth
}

func low(s api.Span) int { return s.Low }

func high(s api.Span) int { return s.High }
