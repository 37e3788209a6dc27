package pipe

import (
	"math"
	"math/rand/v2"
	"reflect"
	"slices"
	"testing"

	"talik/api"
)

// P0.1 (layer 4): every function terminates and does not panic, for all arguments; and the rules R2, R3, R4 and R8.

var odd = []int{math.MinInt, math.MinInt + 1, -1000001, -1, 0, 1, 2, 5, 6, 31, 32, 63, 64, 72, 73, 1000, 1001, 10000, 1000000, 1000001, math.MaxInt - 1, math.MaxInt}

// oddInt returns a number that is mostly from low to high.
func oddInt(r *rand.Rand, low, high int) int {
	if r.IntN(120) > 0 {
		return low + r.IntN(high-low+1)
	}
	return odd[r.IntN(len(odd))]
}

func oddSpan(r *rand.Rand, low, high int) api.Span {
	s := someSpan(r, low, high, high-low)
	if r.IntN(120) == 0 {
		s.Low = odd[r.IntN(len(odd))]
	}
	if r.IntN(120) == 0 {
		s.High = odd[r.IntN(len(odd))]
	}
	return s
}

// oddLen returns how long a list is: mostly as it should be.
func oddLen(r *rand.Rand, want int) int {
	if r.IntN(40) > 0 {
		return want
	}
	return r.IntN(90)
}

func oddLoop(r *rand.Rand) api.PipeLoop {
	return api.PipeLoop{
		Warm:   oddSpan(r, 1, 1000),
		Leak:   oddSpan(r, 20, 200),
		Wrap:   oddSpan(r, 0, 20),
		Cost:   oddInt(r, 0, 9),
		Mass:   oddInt(r, 1, 100),
		Ground: oddInt(r, 0, 1000),
		Feed:   oddInt(r, 0, 100),
		Fix:    oddSpan(r, 0, 2),
	}
}

func oddNet(r *rand.Rand) api.PipeNet {
	var n api.PipeNet
	for range oddLen(r, 1+r.IntN(3)) {
		n.Loops = append(n.Loops, oddLoop(r))
	}
	for range oddLen(r, 1+r.IntN(10)) {
		n.Frost = append(n.Frost, oddSpan(r, 0, 300))
	}
	for place := range oddLen(r, len(n.Loops)+1) {
		var row []int
		for other := range oddLen(r, len(n.Loops)+1) {
			row = append(row, oddInt(r, 0, 1))
			if other == place {
				row[other] = oddInt(r, 0, 0)
			}
		}
		n.Ways = append(n.Ways, row)
	}
	return n
}

// arguments are those of all functions.
type arguments struct {
	net    api.PipeNet
	loop   int
	warm   int
	truth  []api.PipeTruth
	from   int
	fault  int
	faults []int
}

func oddArguments(r *rand.Rand) arguments {
	n := oddNet(r)
	loops := min(len(n.Loops), api.PipeLoops)
	a := arguments{net: n, loop: oddInt(r, 0, max(0, loops-1)), from: oddInt(r, 0, loops), fault: oddInt(r, 0, 1<<loops-1)}
	for range r.IntN(4) {
		a.faults = append(a.faults, oddInt(r, 0, 1<<loops-1))
	}
	if r.IntN(40) == 0 {
		a.faults = slices.Repeat([]int{oddInt(r, 0, 1)}, 12+r.IntN(3))
	}
	if a.loop < 0 || a.loop >= len(n.Loops) {
		return a
	}
	loop := n.Loops[a.loop]
	a.warm = oddInt(r, loop.Warm.Low, loop.Warm.Low)
	for hour := range oddLen(r, r.IntN(len(n.Frost)+1)) {
		frost := api.Span{}
		if hour < len(n.Frost) {
			frost = n.Frost[hour]
		}
		a.truth = append(a.truth, api.PipeTruth{Leak: oddInt(r, loop.Leak.High, loop.Leak.High), Frost: oddInt(r, frost.Low, frost.Low), Fed: r.IntN(2) == 0})
	}
	return a
}

// results are all that the functions return.
type results struct {
	check    api.Errno
	play     api.PipeHeat
	playE    api.Errno
	warmth   [][]api.Span
	warmthE  api.Errno
	can      int
	surely   int
	freezesE api.Errno
	order    []int
	slack    int
	orderE   api.Errno
	weak     int
	weakE    api.Errno
	place    int
	spare    int
	postE    api.Errno
	wrapping int
	cost     int
	wrapE    api.Errno
}

func callAll(a arguments) results {
	var x results
	x.check = Check(a.net)
	x.play, x.playE = Play(a.net, a.loop, a.warm, a.truth)
	x.warmth, x.warmthE = Warmth(a.net)
	x.can, x.surely, x.freezesE = Freezes(a.net, a.loop)
	x.order, x.slack, x.orderE = Order(a.net, a.from, a.fault)
	x.weak, x.weakE = Weak(a.net, a.from, a.faults)
	x.place, x.spare, x.postE = Post(a.net, a.faults)
	x.wrapping, x.cost, x.wrapE = Wrap(a.net, a.from, a.faults)
	return x
}

func TestAllArguments(t *testing.T) {
	r := source()
	good := map[string]int{}
	const many = 10000
	for range many {
		a := oddArguments(r)
		x := callAll(a)
		for name, is := range map[string]struct {
			e    api.Errno
			zero bool
		}{
			"Check":   {x.check, true},
			"Play":    {x.playE, x.play == api.PipeHeat{}},
			"Warmth":  {x.warmthE, x.warmth == nil},
			"Freezes": {x.freezesE, x.can == 0 && x.surely == 0},
			"Order":   {x.orderE, x.order == nil && x.slack == 0},
			"Weak":    {x.weakE, x.weak == 0},
			"Post":    {x.postE, x.place == 0 && x.spare == 0},
			"Wrap":    {x.wrapE, x.wrapping == 0 && x.cost == 0},
		} {
			if is.e != api.OK && !is.zero {
				t.Fatal(name, a, x)
			}
			if is.e == api.OK {
				good[name]++
			}
		}
		want := api.ErrArg
		if len(a.faults) > api.PipeFaults {
			want = api.ErrLong
		}
		if x.check != api.OK && (x.warmthE != api.ErrArg || x.freezesE != api.ErrArg || x.orderE != api.ErrArg || x.weakE != want || x.postE != want || x.wrapE != want) {
			t.Fatal(a, x)
		}
	}
	for _, name := range []string{"Check", "Play", "Warmth", "Freezes", "Order", "Weak", "Post", "Wrap"} {
		if good[name] < many/10 || good[name] > many*19/20 {
			t.Error(name, good[name])
		}
	}
}

func TestNothingAtAll(t *testing.T) {
	x := callAll(arguments{})
	want := results{check: 2, playE: 2, warmthE: 2, freezesE: 2, orderE: 2, weakE: 2, postE: 2, wrapE: 2}
	if !reflect.DeepEqual(x, want) {
		t.Error(x)
	}
}

func TestNilAndEmptyAreTheSame(t *testing.T) {
	a := arguments{net: net(), warm: 300}
	x := callAll(a)
	a.truth, a.faults = []api.PipeTruth{}, []int{}
	if y := callAll(a); !reflect.DeepEqual(x, y) || x.playE != api.OK || x.wrapE != api.OK {
		t.Error(x, y)
	}
	a.net.Frost, a.net.Loops, a.net.Ways = []api.Span{}, []api.PipeLoop{}, [][]int{{}}
	y := callAll(a)
	a.net.Frost, a.net.Loops, a.net.Ways = nil, nil, [][]int{nil}
	if z := callAll(a); !reflect.DeepEqual(y, z) || y.check != api.ErrArg {
		t.Error(y, z)
	}
}

// valid returns arguments that are as defined, with something in all lists.
func valid(r *rand.Rand) arguments {
	a := arguments{net: leaky(r)}
	loops := len(a.net.Loops)
	a.loop, a.from, a.fault = r.IntN(loops), r.IntN(loops+1), 1+r.IntN(1<<loops-1)
	a.warm = one(r, a.net.Loops[a.loop].Warm)
	a.truth = someTruth(r, a.net, a.loop, len(a.net.Frost), true)
	a.faults = []int{a.fault, 1, r.IntN(1 << loops)}
	return a
}

func (a arguments) clone() arguments {
	a.net, a.truth, a.faults = cloneNet(a.net), slices.Clone(a.truth), slices.Clone(a.faults)
	return a
}

// spoil changes all that a result may share memory with.
func spoil(x results) {
	for _, row := range x.warmth[:cap(x.warmth)] {
		row = row[:cap(row)]
		for i := range row {
			row[i] = sp(math.MinInt, math.MaxInt)
		}
	}
	order := x.order[:cap(x.order)]
	for i := range order {
		order[i] = math.MinInt
	}
}

func TestNothingIsChangedAndCallsRepeat(t *testing.T) {
	r := source()
	ordered, wrapped := 0, 0
	for range 300 {
		a := valid(r)
		before := a.clone()
		x := callAll(a)
		if x.playE != api.OK || x.warmthE != api.OK || x.weakE != api.OK || !reflect.DeepEqual(a, before) {
			t.Fatal("an argument was changed", a, before, x)
		}
		if len(x.order) > 0 {
			ordered++
		}
		if x.wrapping > 0 {
			wrapped++
		}
		y := callAll(a)
		if !reflect.DeepEqual(x, y) {
			t.Fatal("the calls do not repeat", a, x, y)
		}
		spoil(y)
		if !reflect.DeepEqual(a, before) {
			t.Fatal("a result shares memory with an argument", a, before)
		}
		if z := callAll(a); !reflect.DeepEqual(x, z) {
			t.Fatal(a, x, z)
		}
	}
	if ordered < 50 || wrapped < 50 {
		t.Error(ordered, wrapped)
	}
}

func TestTheRowsOfWarmthShareNoMemory(t *testing.T) {
	all, e := Warmth(net())
	if e != api.OK {
		t.Fatal(e)
	}
	_ = append(all[0], sp(7, 7))
	all[0][7] = sp(8, 8)
	if all[1][0] != sp(180, 200) || all[1][7] != sp(0, 0) {
		t.Error(all)
	}
}

func TestTheLargestNets(t *testing.T) {
	r := source()
	for range 20 {
		n := some(r, api.PipeLoops, api.PipeHours)
		for i := range n.Loops {
			n.Loops[i].Leak, n.Loops[i].Wrap = someSpan(r, 1, 40, 10), sp(0, 1)
		}
		a := arguments{net: n, warm: n.Loops[0].Warm.Low, fault: 31}
		a.truth = someTruth(r, n, 0, api.PipeHours, true)
		for i := range api.PipeFaults {
			a.faults = append(a.faults, 31-i)
		}
		x := callAll(a)
		if x.check != api.OK || x.playE != api.OK || x.weakE != api.OK || x.wrapE != api.OK {
			t.Fatal(a, x)
		}
	}
}
