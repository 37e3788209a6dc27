package pipe

import (
	"math"
	"math/rand/v2"
	"slices"
	"testing"

	"talik/api"
)

// P4.3 (Order), and P0.4 as far as it is kept here

func TestOrderExample(t *testing.T) {
	for _, x := range []struct {
		net   api.PipeNet
		fault int
		order []int
		slack int
		e     api.Errno
	}{
		{net(), 1, []int{0}, 1, api.OK},
		{net(), 2, []int{1}, 1, api.OK},
		{net(), 3, nil, 0, api.ErrNone},
		{wrap(net(), 1), 3, []int{1, 0}, 1, api.OK},
		{net(), 0, nil, 8, api.OK},
	} {
		if order, slack, e := Order(x.net, 0, x.fault); e != x.e || !slices.Equal(order, x.order) || slack != x.slack {
			t.Error(x, order, slack, e)
		}
	}
}

func TestOrderByHours(t *testing.T) {
	for _, x := range []struct {
		name     string
		due, fix []int
		fault    int
		order    []int
		slack    int
		e        api.Errno
	}{
		{"no loops", []int{5}, []int{1}, 0, nil, 30, api.OK},
		{"due at once, and repaired at once", []int{0}, []int{0}, 1, []int{0}, 0, api.OK},
		{"due at once", []int{0}, []int{1}, 1, nil, 0, api.ErrNone},
		{"just soon enough", []int{5}, []int{5}, 1, []int{0}, 0, api.OK},
		{"just too late", []int{5}, []int{6}, 1, nil, 0, api.ErrNone},
		{"frozen after the last hour", []int{29}, []int{1}, 1, []int{0}, 28, api.OK},
		{"never frozen", []int{30}, []int{1}, 1, []int{0}, 29, api.OK},
		{"never frozen, and repaired in the last hour", []int{30}, []int{30}, 1, []int{0}, 0, api.OK},
		{"never frozen, and repaired after the last hour", []int{30}, []int{31}, 1, nil, 0, api.ErrNone},
		{"never frozen, and repaired at once", []int{30}, []int{0}, 1, []int{0}, 30, api.OK},
		{"the last one has the least slack", []int{10, 10}, []int{2, 3}, 3, []int{0, 1}, 5, api.OK},
		{"the first one has the least slack", []int{6, 20}, []int{2, 3}, 3, []int{0, 1}, 4, api.OK},
		{"the second one first", []int{20, 6}, []int{2, 3}, 3, []int{1, 0}, 3, api.OK},
		{"either first, with the same slack", []int{20, 20}, []int{2, 3}, 3, []int{0, 1}, 15, api.OK},
		{"either order of the last two", []int{3, 20, 18}, []int{2, 4, 4}, 7, []int{0, 1, 2}, 1, api.OK},
		{"only the order 1 0 comes soon enough", []int{4, 1}, []int{3, 1}, 3, []int{1, 0}, 0, api.OK},
		{"each alone soon enough, but not both", []int{4, 3}, []int{3, 3}, 3, nil, 0, api.ErrNone},
		{"both, but not the first alone", []int{4, 3}, []int{5, 3}, 3, nil, 0, api.ErrNone},
		{"only the loops of the fault", []int{1, 9, 1}, []int{9, 2, 9}, 2, []int{1}, 7, api.OK},
		{"the first and the last loop", []int{9, 0, 5, 0, 4}, []int{2, 9, 9, 9, 1}, 17, []int{4, 0}, 3, api.OK},
		{"the last repair of all has the least slack", []int{8, 8, 8, 8, 8}, []int{1, 1, 1, 1, 1}, 31, []int{0, 1, 2, 3, 4}, 3, api.OK},
		{"by when they are due", []int{5, 4, 3, 2, 1}, []int{1, 1, 1, 1, 1}, 31, []int{4, 3, 2, 1, 0}, 0, api.OK},
		{"as soon as there is time", []int{9, 7, 5, 3, 1}, []int{1, 1, 1, 1, 1}, 31, []int{4, 0, 3, 1, 2}, 0, api.OK},
	} {
		n := timed(x.due, x.fix)
		if order, slack, e := Order(n, 0, x.fault); e != x.e || !slices.Equal(order, x.order) || slack != x.slack {
			t.Error(x.name, order, slack, e)
		}
	}
}

func TestOrderByWays(t *testing.T) {
	two := timed([]int{10, 10}, []int{1, 1})
	three := timed([]int{12, 12, 12}, []int{1, 1, 1})
	for _, x := range []struct {
		name  string
		net   api.PipeNet
		ways  [][]int
		from  int
		fault int
		order []int
		slack int
	}{
		{"from the depot", two, [][]int{{0, 2, 3}, {9, 0, 9}, {9, 9, 0}}, 0, 1, []int{0}, 7},
		{"from the loop itself", two, [][]int{{0, 2, 3}, {9, 0, 9}, {9, 9, 0}}, 1, 1, []int{0}, 9},
		{"from the other loop", two, [][]int{{0, 2, 3}, {9, 0, 9}, {9, 6, 0}}, 2, 1, []int{0}, 3},
		{"a way there is not one back", two, [][]int{{0, 1, 1}, {1, 0, 5}, {1, 2, 0}}, 0, 3, []int{1, 0}, 5},
		{"there, and on", two, [][]int{{0, 1, 1}, {1, 0, 2}, {1, 5, 0}}, 0, 3, []int{0, 1}, 5},
		{"the nearer one need not be first", two, [][]int{{0, 1, 3}, {0, 0, 6}, {0, 1, 0}}, 0, 3, []int{1, 0}, 4},
		{"there is no shorter way by another place", two, [][]int{{0, 1, 7}, {0, 0, 1}, {0, 1, 0}}, 0, 2, []int{1}, 2},
		{"nor by the depot", two, [][]int{{0, 1, 1}, {0, 0, 5}, {0, 6, 0}}, 0, 3, []int{0, 1}, 2},
		{"two orders are alike", two, equalWays(2, 2), 0, 3, []int{0, 1}, 4},
		{"two orders are alike, from a loop of them", two, equalWays(2, 2), 2, 3, []int{1, 0}, 6},
		{"from a loop that is not of the fault", three, [][]int{{0, 9, 9, 9}, {9, 0, 9, 2}, {9, 1, 0, 3}, {9, 9, 9, 0}}, 2, 5, []int{0, 2}, 7},
		{"round", three, [][]int{{0, 9, 1, 9}, {9, 0, 9, 9}, {9, 9, 0, 1}, {9, 1, 9, 0}}, 0, 7, []int{1, 2, 0}, 6},
	} {
		n := x.net
		n.Ways = x.ways
		if order, slack, e := Order(n, x.from, x.fault); e != api.OK || !slices.Equal(order, x.order) || slack != x.slack {
			t.Error(x.name, order, slack, e)
		}
	}
}

// TestOrderIsTheFirstOneOfEqualSlack has a first repair that leaves less slack than any order of those after it.
func TestOrderIsTheFirstOneOfEqualSlack(t *testing.T) {
	n := timed([]int{3, 14, 13}, []int{2, 4, 4})
	// After the loop 0, with a slack of 1, the order 2 1 would leave 4 and the order 1 2 leaves 3.
	order, slack, e := Order(n, 0, 7)
	if e != api.OK || slack != 1 || !slices.Equal(order, []int{0, 1, 2}) {
		t.Error(order, slack, e)
	}
	// Without the loop 0, the order 2 1 is the best one.
	order, slack, e = Order(n, 0, 6)
	if e != api.OK || slack != 6 || !slices.Equal(order, []int{2, 1}) {
		t.Error(order, slack, e)
	}
}

func TestOrderWithoutLoopsFromAllPlaces(t *testing.T) {
	for from := range 6 {
		if order, slack, e := Order(greatestNet(), from, 0); e != api.OK || order != nil || slack != 72 {
			t.Error(from, order, slack, e)
		}
	}
	n := greatestNet()
	n.Frost = n.Frost[:1]
	if order, slack, e := Order(n, 5, 0); e != api.OK || order != nil || slack != 1 {
		t.Error(order, slack, e)
	}
}

// someSlow returns a net with the slow way to look at it: over all its truths if it is small.
func someSlow(r *rand.Rand) slow {
	if r.IntN(5) == 0 {
		return slowly(small(r), always)
	}
	return slowly(some(r, 1+r.IntN(5), 1+r.IntN(40)), worst)
}

func TestOrderOfAllOrders(t *testing.T) {
	r := source()
	var none, sorted, other int
	for range 1500 {
		s := someSlow(r)
		from, fault := r.IntN(len(s.Loops)+1), r.IntN(1<<len(s.Loops))
		want, most, found := s.best(from, fault)
		order, slack, e := Order(s.PipeNet, from, fault)
		if !found {
			none++
			if e != api.ErrNone || order != nil || slack != 0 {
				t.Fatal(s, from, fault, order, slack, e)
			}
			continue
		}
		if slices.IsSorted(want) {
			sorted++
		} else {
			other++
		}
		if e != api.OK || !slices.Equal(order, want) || slack != most {
			t.Fatal(s, from, fault, order, slack, e, want, most)
		}
	}
	if none < 200 || sorted < 200 || other < 200 {
		t.Error(none, sorted, other)
	}
}

// TestOrderOfHours has many orders of equal slack.
func TestOrderOfHours(t *testing.T) {
	r := source()
	sorted, other := 0, 0
	for range 2000 {
		var due, fix []int
		for range 3 + r.IntN(3) {
			due, fix = append(due, 4+r.IntN(27)), append(fix, r.IntN(5))
		}
		n := timed(due, fix)
		n.Ways = someWays(r, len(due), r.IntN(3))
		from, fault := r.IntN(len(due)+1), r.IntN(1<<len(due))
		want, most, found := slow{n, due}.best(from, fault)
		order, slack, e := Order(n, from, fault)
		if found != (e == api.OK) || !slices.Equal(order, want) || found && slack != most {
			t.Fatal(n, from, fault, order, slack, e, want, most)
		}
		if slices.IsSorted(want) {
			sorted++
		} else {
			other++
		}
	}
	if sorted < 500 || other < 300 {
		t.Error(sorted, other)
	}
}

// mustNotFreeze plays an order with ways and repairs that may be faster, in some truth: each loop is warm until it is repaired.
func mustNotFreeze(t *testing.T, r *rand.Rand, n api.PipeNet, from int, order []int, slack int, worst bool) {
	t.Helper()
	hour := 0
	for _, loop := range order {
		way, fix := n.Ways[from][loop+1], n.Loops[loop].Fix.High
		if !worst {
			way, fix = r.IntN(way+1), one(r, n.Loops[loop].Fix)
		}
		hour += way + fix
		if hour > len(n.Frost) {
			t.Fatal(n, order, hour)
		}
		truth, warm := someTruth(r, n, loop, hour, false), one(r, n.Loops[loop].Warm)
		if worst {
			hours := hour + slack // so much later it would still be warm
			truth, warm = endTruth(n, loop, hours, high), n.Loops[loop].Warm.Low
		}
		h, e := Play(n, loop, warm, truth)
		if e != api.OK || h.Warm == 0 {
			t.Fatal(n, order, loop, hour, truth, h, e)
		}
		from = loop + 1
	}
}

func TestNoLoopFreezesBeforeItIsRepaired(t *testing.T) {
	r := source()
	found := 0
	for range 1000 {
		n := some(r, 1+r.IntN(5), 1+r.IntN(40))
		from, fault := r.IntN(len(n.Loops)+1), r.IntN(1<<len(n.Loops))
		order, slack, e := Order(n, from, fault)
		if e != api.OK {
			continue
		}
		found++
		for range 5 {
			mustNotFreeze(t, r, n, from, order, slack, false)
		}
		mustNotFreeze(t, r, n, from, order, slack, true)
	}
	if found < 300 {
		t.Error(found)
	}
}

func TestNoProposedOrderLeavesMoreSlack(t *testing.T) {
	r := source()
	for range 1000 {
		s := someSlow(r)
		from, fault := r.IntN(len(s.Loops)+1), r.IntN(1<<len(s.Loops))
		order := members(fault)
		r.Shuffle(len(order), func(i, j int) { order[i], order[j] = order[j], order[i] })
		proposed := s.slack(from, order)
		best, slack, e := Order(s.PipeNet, from, fault)
		if proposed >= 0 && (e != api.OK || slack < proposed || slack == proposed && slices.Compare(order, best) < 0) {
			t.Fatal(s, from, order, proposed, best, slack, e)
		}
		if e == api.OK && s.slack(from, best) != slack {
			t.Fatal(s, from, best, slack)
		}
	}
}

func TestOrderErrors(t *testing.T) {
	fails := func(name string, n api.PipeNet, from, fault int, want api.Errno) {
		t.Helper()
		if order, slack, e := Order(n, from, fault); order != nil || slack != 0 || e != want {
			t.Error(name, order, slack, e)
		}
	}
	for name, n := range badNets() {
		fails(name, n, 0, 0, api.ErrArg)
		fails(name, n, 0, 1, api.ErrArg)
	}
	for _, from := range []int{-1, 3, 6, math.MinInt, math.MaxInt} {
		fails("place", net(), from, 0, api.ErrArg)
		fails("place, and no order", net(), from, 3, api.ErrArg)
	}
	for _, fault := range []int{-1, 4, 5, 7, 8, 1 << 40, math.MinInt, math.MaxInt} {
		fails("fault", net(), 0, fault, api.ErrArg)
	}
	fails("no order", net(), 0, 3, api.ErrNone)
	fails("no order at all", greatestNet(), 0, 31, api.ErrNone)
	if _, _, e := Order(net(), 2, 2); e != api.OK {
		t.Error(e)
	}
}
