package pipe

import (
	"math"
	"math/rand/v2"
	"slices"
	"testing"

	"talik/api"
)

// P4.5 (Wrap)

func TestWrapExample(t *testing.T) {
	if wrapping, cost, e := Wrap(net(), 0, []int{1, 2, 3}); e != api.OK || wrapping != 1 || cost != 30 {
		t.Error(wrapping, cost, e)
	}
}

// priced returns a net in which a loop that is not wrapped is due at once, and one that is wrapped never; each repair takes an hour. It is told what wrappings cost.
func priced(costs ...int) api.PipeNet {
	n := timed(make([]int, len(costs)), slices.Repeat([]int{1}, len(costs)))
	for i, cost := range costs {
		n.Loops[i].Cost = cost
	}
	return n
}

func TestWrapEdges(t *testing.T) {
	soon := func(n api.PipeNet, loops ...int) api.PipeNet { // loops that need no wrapping
		for _, i := range loops {
			n.Loops[i].Warm = sp(900, 900)
		}
		return n
	}
	late := func(n api.PipeNet, loop int) api.PipeNet { // a loop that no wrapping helps
		n.Loops[loop].Wrap = n.Loops[loop].Leak
		return n
	}
	for _, x := range []struct {
		name     string
		net      api.PipeNet
		from     int
		faults   []int
		wrapping int
		cost     int
		e        api.Errno
	}{
		{"no faults", greatestNet(), 0, nil, 0, 0, api.OK},
		{"faults without loops", greatestNet(), 5, make([]int, 12), 0, 0, api.OK},
		{"none is needed", net(), 0, []int{1, 2}, 0, 0, api.OK},
		{"none is needed from there", net(), 2, []int{3}, 0, 0, api.OK},
		{"none helps", greatestNet(), 0, []int{1}, 0, 0, api.ErrNone},
		{"one is needed, and does not help", late(priced(1, 1, 1), 1), 0, []int{1, 2, 4}, 0, 0, api.ErrNone},
		{"one does not help, and is not needed", late(priced(1, 1, 1), 1), 0, []int{1, 4}, 5, 2, api.OK},
		{"each of the fault", priced(1, 2, 4, 8, 16), 0, []int{21}, 21, 21, api.OK},
		{"each of all faults", priced(1, 2, 4, 8, 16), 0, []int{16, 0, 1, 16, 4}, 21, 21, api.OK},
		{"those that need it", soon(priced(1, 2, 4, 8, 16), 0, 3), 0, []int{31}, 22, 22, api.OK},
		{"for nothing, and not needed", priced(0, 0, 0), 0, []int{2}, 2, 0, api.OK},
		{"for nothing, and not needed at all", soon(priced(0, 0), 0, 1), 0, []int{3}, 0, 0, api.OK},
		{"the most", priced(1000000, 1000000, 1000000, 1000000, 1000000), 0, []int{31}, 31, 5000000, api.OK},
	} {
		if wrapping, cost, e := Wrap(x.net, x.from, x.faults); e != x.e || wrapping != x.wrapping || cost != x.cost {
			t.Error(x.name, wrapping, cost, e)
		}
	}
}

// TestWrapChooses has loops of which only some must be wrapped: one that is not can be repaired first.
func TestWrapChooses(t *testing.T) {
	choose := func(most int, costs ...int) api.PipeNet { // so many loops may stay without wrapping
		n := priced(costs...)
		for i := range n.Loops {
			n.Loops[i].Warm.Low = most + 1
		}
		return n
	}
	for _, x := range []struct {
		name           string
		net            api.PipeNet
		wrapping, cost int
	}{
		{"the cheaper one", choose(1, 5, 3), 2, 3},
		{"the cheaper one comes first", choose(1, 3, 5), 1, 3},
		{"the least number of equal cost", choose(1, 4, 4), 1, 4},
		{"the cheapest two", choose(1, 5, 3, 4), 6, 7},
		{"two of three, of equal cost", choose(1, 4, 4, 4), 3, 8},
		{"one of three, of equal cost", choose(2, 4, 4, 4), 1, 4},
		{"one for nothing", choose(2, 4, 4, 0), 4, 0},
		{"as cheap, and the least number", choose(2, 0, 4, 0), 1, 0},
		{"the cheapest three of five", choose(2, 9, 1, 8, 2, 3), 26, 6},
	} {
		all := 1<<len(x.net.Loops) - 1
		if wrapping, cost, e := Wrap(x.net, 0, []int{all}); e != api.OK || wrapping != x.wrapping || cost != x.cost {
			t.Error(x.name, wrapping, cost, e)
		}
	}
}

// TestWrapOneOrTwo has a loop that is repaired for so long that either it is wrapped, or both others are.
func TestWrapOneOrTwo(t *testing.T) {
	for _, x := range []struct{ other, long, wrapping, cost int }{
		{2, 5, 3, 4},
		{2, 4, 3, 4}, // of equal cost
		{2, 3, 4, 3},
	} {
		n := priced(x.other, x.other, x.long)
		n.Loops[0].Warm.Low, n.Loops[1].Warm.Low, n.Loops[2].Warm.Low = 2, 3, 4
		n.Loops[2].Fix.High = 3
		if wrapping, cost, e := Wrap(n, 0, []int{7}); e != api.OK || wrapping != x.wrapping || cost != x.cost {
			t.Error(x, wrapping, cost, e)
		}
	}
}

// leaky returns a net whose loops leak much, but little if they are wrapped.
func leaky(r *rand.Rand) api.PipeNet {
	n := some(r, 1+r.IntN(5), 10+r.IntN(20))
	for i := range n.Loops {
		n.Loops[i].Leak, n.Loops[i].Wrap = someSpan(r, 40, 250, 30), someSpan(r, 0, 40, 0)
	}
	return n
}

func TestWrapOfAllWrappings(t *testing.T) {
	r := source()
	var none, nothing, something int
	for i := range 500 {
		n, due := leaky(r), worst
		if i%5 == 0 {
			n, due = small(r), always
		}
		from, faults := r.IntN(len(n.Loops)+1), someFaults(r, n, 5)
		want, found := slowWrap(n, from, faults, due)
		wrapping, cost, e := Wrap(n, from, faults)
		switch {
		case !found:
			none++
			if e != api.ErrNone || wrapping != 0 || cost != 0 {
				t.Fatal(n, from, faults, wrapping, cost, e)
			}
			continue
		case want == 0:
			nothing++
		default:
			something++
		}
		if e != api.OK || wrapping != want || cost != price(n, want) {
			t.Fatal(n, from, faults, wrapping, cost, e, want)
		}
	}
	if none < 50 || nothing < 50 || something < 50 {
		t.Error(none, nothing, something)
	}
}

// TestWithTheBestWrapping asks Weak for what Wrap promises, of nets whose loops are as leaky as they are when wrapped.
func TestWithTheBestWrapping(t *testing.T) {
	r := source()
	found := 0
	for range 300 {
		n := leaky(r)
		from, faults := r.IntN(len(n.Loops)+1), someFaults(r, n, 3)
		best, cost, e := Wrap(n, from, faults)
		if e != api.OK && e != api.ErrNone {
			t.Fatal(n, from, faults, e)
		}
		if e == api.OK && best > 0 {
			found++
		}
		for proposed := range 1 << len(n.Loops) {
			i, weakE := Weak(wrap(n, proposed), from, faults)
			if weakE != api.OK {
				t.Fatal(n, weakE)
			}
			good := i < 0
			worse := cost < price(n, proposed) || cost == price(n, proposed) && best <= proposed
			if good && (e != api.OK || !worse) || e == api.OK && proposed == best && !good {
				t.Fatal(n, from, faults, best, cost, e, proposed)
			}
		}
	}
	if found < 50 {
		t.Error(found)
	}
}

func TestWrapErrors(t *testing.T) {
	fails := func(name string, n api.PipeNet, from int, faults []int, want api.Errno) {
		t.Helper()
		if wrapping, cost, e := Wrap(n, from, faults); wrapping != 0 || cost != 0 || e != want {
			t.Error(name, wrapping, cost, e)
		}
	}
	for name, n := range badNets() {
		fails(name, n, 0, nil, api.ErrArg)
		fails(name, n, 0, []int{1}, api.ErrArg)
		fails(name, n, 0, make([]int, 12), api.ErrArg)
		fails(name, n, 0, make([]int, 13), api.ErrLong)
	}
	fails("13 faults", net(), 0, make([]int, 13), api.ErrLong)
	fails("13 faults that are none", net(), 0, slices.Repeat([]int{9}, 13), api.ErrLong)
	fails("13 faults from no place", net(), -1, make([]int, 13), api.ErrLong)
	for _, from := range []int{-1, 3, 6, math.MinInt, math.MaxInt} {
		fails("place", net(), from, nil, api.ErrArg)
	}
	fails("place", greatestNet(), 6, []int{1}, api.ErrArg)
	fails("no wrapping from the last place", greatestNet(), 5, []int{1}, api.ErrNone)
	for _, fault := range []int{-1, 4, 31, 1 << 40, math.MinInt, math.MaxInt} {
		fails("fault", net(), 0, []int{fault}, api.ErrArg)
		fails("fault after good ones", net(), 0, []int{1, 3, fault}, api.ErrArg)
	}
	if _, _, e := Wrap(net(), 2, make([]int, 12)); e != api.OK {
		t.Error(e)
	}
}
