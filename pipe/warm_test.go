package pipe

import (
	"maps"
	"math"
	"slices"
	"testing"

	"talik/api"
)

// P4.2 (Warmth, Freezes)

func TestWarmthExample(t *testing.T) {
	all, e := Warmth(net())
	if e != api.OK || len(all) != 2 || len(all[0]) != 8 || len(all[1]) != 8 {
		t.Fatal(all, e)
	}
	if all[0][0] != sp(210, 340) || all[0][1] != sp(134, 286) || all[0][7] != sp(0, 61) {
		t.Error(all[0])
	}
	want := []api.Span{sp(180, 200), sp(84, 120), sp(8, 56), sp(0, 5), sp(0, 0), sp(0, 0), sp(0, 0), sp(0, 0)}
	if !slices.Equal(all[1], want) {
		t.Error(all[1])
	}
}

func TestFreezesExample(t *testing.T) {
	if can, surely, e := Freezes(net(), 0); e != api.OK || can != 5 || surely != -1 {
		t.Error(can, surely, e)
	}
	if can, surely, e := Freezes(net(), 1); e != api.OK || can != 4 || surely != 5 {
		t.Error(can, surely, e)
	}
}

// alone returns a net with one loop.
func alone(warm, leak api.Span, frost ...api.Span) api.PipeNet {
	return api.PipeNet{
		Loops: []api.PipeLoop{{Warm: warm, Leak: leak, Mass: 1, Feed: 1000}},
		Frost: frost,
		Ways:  equalWays(1, 1),
	}
}

func TestWarmthEdges(t *testing.T) {
	f := sp(100, 200)
	for _, x := range []struct {
		name        string
		net         api.PipeNet
		want        []api.Span
		can, surely int
	}{
		{"no leak", alone(sp(1, 1000), sp(0, 0), sp(1000, 1000)), []api.Span{sp(1, 1000)}, -1, -1},
		{"no loss", alone(sp(1, 1), sp(999, 999), sp(0, 0), sp(0, 0)), []api.Span{sp(1, 1), sp(1, 1)}, -1, -1},
		{"all is lost", alone(sp(1, 1000), sp(1000, 1000), sp(0, 0), sp(0, 0)), []api.Span{sp(0, 0), sp(0, 0)}, 1, 1},
		{"all or nothing", alone(sp(1, 1000), sp(0, 1000), sp(0, 1000), f), []api.Span{sp(0, 1000), sp(0, 1000)}, 1, -1},
		{"in the only hour", alone(sp(30, 39), sp(100, 100), sp(270, 300)), []api.Span{sp(0, 9)}, 1, -1},
		{"just all of it", alone(sp(31, 39), sp(100, 100), sp(270, 280)), []api.Span{sp(0, 9)}, 1, -1},
		{"one is left", alone(sp(31, 39), sp(100, 100), sp(260, 275)), []api.Span{sp(1, 10)}, -1, -1},
		{"in the last hour", alone(sp(40, 40), sp(100, 100), f, f, f), []api.Span{sp(16, 26), sp(0, 14), sp(0, 3)}, 2, -1},
		{"surely in the last hour", alone(sp(40, 40), sp(100, 100), f, f, sp(130, 200)), []api.Span{sp(16, 26), sp(0, 14), sp(0, 0)}, 2, 3},
		{"each hour has its frost", alone(sp(40, 40), sp(100, 100), sp(0, 0), sp(200, 210), sp(0, 300)), []api.Span{sp(36, 36), sp(12, 13), sp(0, 12)}, 3, -1},
		{"rounded down", alone(sp(100, 101), sp(9, 10), sp(900, 910)), []api.Span{sp(90, 92)}, -1, -1},
		{"both after the same hour", alone(sp(50, 55), sp(100, 100), sp(0, 0), sp(600, 700)), []api.Span{sp(45, 50), sp(0, 0)}, 2, 2},
	} {
		all, e := Warmth(x.net)
		if e != api.OK || len(all) != 1 || !slices.Equal(all[0], x.want) {
			t.Error(x.name, all, e)
		}
		if can, surely, e := Freezes(x.net, 0); e != api.OK || can != x.can || surely != x.surely {
			t.Error(x.name, can, surely, e)
		}
	}
}

func TestFreezesAfterTheLastOf72Hours(t *testing.T) {
	n := alone(sp(72, 72), sp(1, 1), slices.Repeat([]api.Span{sp(999, 999)}, 72)...)
	if can, surely, e := Freezes(n, 0); e != api.OK || can != 72 || surely != 72 {
		t.Error(can, surely, e)
	}
	n.Loops[0].Warm.High = 73
	if can, surely, e := Freezes(n, 0); e != api.OK || can != 72 || surely != -1 {
		t.Error(can, surely, e)
	}
	n.Loops[0].Warm.Low = 73
	if can, surely, e := Freezes(n, 0); e != api.OK || can != -1 || surely != -1 {
		t.Error(can, surely, e)
	}
	for loop := range 5 {
		if can, surely, e := Freezes(greatestNet(), loop); e != api.OK || can != 1 || surely != 1 {
			t.Error(can, surely, e)
		}
	}
}

// first returns the first hour for which something is so, counted from 1 on; -1 if there is none.
func first(warms []map[int]bool, is func(map[int]bool) bool) int {
	if i := slices.IndexFunc(warms, is); i >= 0 {
		return i + 1
	}
	return -1
}

func TestWarmthOfAllTruths(t *testing.T) {
	r := source()
	var never, maybe, surelyToo int
	for range 300 {
		n := small(r)
		all, e := Warmth(n)
		if e != api.OK || len(all) != len(n.Loops) {
			t.Fatal(n, all, e)
		}
		for loop := range n.Loops {
			warms := reached(n, loop)
			if len(all[loop]) != len(warms) {
				t.Fatal(n, all)
			}
			for hour, set := range warms {
				l := slices.Sorted(maps.Keys(set))
				if all[loop][hour] != sp(l[0], l[len(l)-1]) {
					t.Fatal(n, loop, hour, all[loop], l)
				}
			}
			can := first(warms, func(set map[int]bool) bool { return set[0] })
			surely := first(warms, func(set map[int]bool) bool { return set[0] && len(set) == 1 })
			c, s, e := Freezes(n, loop)
			if e != api.OK || c != can || s != surely {
				t.Fatal(n, loop, c, can, s, surely, e)
			}
			switch {
			case can < 0:
				never++
			case surely < 0:
				maybe++
			default:
				surelyToo++
			}
		}
	}
	if never < 50 || maybe < 50 || surelyToo < 50 {
		t.Error(never, maybe, surelyToo)
	}
}

// TestWarmthInTruth plays larger nets: each truth lies between the bounds, and each bound is true.
func TestWarmthInTruth(t *testing.T) {
	r := source()
	for range 300 {
		n := some(r, 1+r.IntN(5), 1+r.IntN(72))
		all, e := Warmth(n)
		if e != api.OK {
			t.Fatal(n, e)
		}
		for loop, l := range n.Loops {
			can, surely, e := Freezes(n, loop)
			if e != api.OK {
				t.Fatal(n, e)
			}
			truth := someTruth(r, n, loop, len(n.Frost), false)
			warm := one(r, l.Warm)
			for hour := range n.Frost {
				span := all[loop][hour]
				h, e := Play(n, loop, warm, truth[:hour+1])
				if e != api.OK || !in(h.Warm, span) {
					t.Fatal(n, loop, hour, h, span, e)
				}
				if h.Warm == 0 && (can < 0 || hour+1 < can) || h.Warm > 0 && surely > 0 && hour+1 >= surely {
					t.Fatal(n, loop, hour, h, can, surely)
				}
				least, e := Play(n, loop, l.Warm.Low, endTruth(n, loop, hour+1, high))
				if e != api.OK || least.Warm != span.Low || (least.Warm == 0) != (can > 0 && hour+1 >= can) {
					t.Fatal(n, loop, hour, least, span, can, e)
				}
				most, e := Play(n, loop, l.Warm.High, endTruth(n, loop, hour+1, low))
				if e != api.OK || most.Warm != span.High || (most.Warm == 0) != (surely > 0 && hour+1 >= surely) {
					t.Fatal(n, loop, hour, most, span, surely, e)
				}
			}
		}
	}
}

func TestWarmthAndFreezesErrors(t *testing.T) {
	for name, n := range badNets() {
		if all, e := Warmth(n); all != nil || e != api.ErrArg {
			t.Error(name, all, e)
		}
		if can, surely, e := Freezes(n, 0); can != 0 || surely != 0 || e != api.ErrArg {
			t.Error(name, can, surely, e)
		}
	}
	for _, loop := range []int{-1, 2, 5, math.MinInt, math.MaxInt} {
		if can, surely, e := Freezes(net(), loop); can != 0 || surely != 0 || e != api.ErrArg {
			t.Error(loop, can, surely, e)
		}
	}
}
