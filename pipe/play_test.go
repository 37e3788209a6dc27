package pipe

import (
	"math"
	"slices"
	"testing"

	"talik/api"
)

// P4.1 (Check, Play)

func TestCheckExample(t *testing.T) {
	if e := Check(net()); e != api.OK {
		t.Error(e)
	}
}

func TestCheckBounds(t *testing.T) {
	if e := Check(greatestNet()); e != api.OK {
		t.Error(e)
	}
	least := api.PipeNet{
		Loops: []api.PipeLoop{{Warm: sp(1, 1), Mass: 1}},
		Frost: []api.Span{sp(0, 0)},
		Ways:  equalWays(1, 0),
	}
	if e := Check(least); e != api.OK {
		t.Error(e)
	}
	wide := greatestNet()
	for i := range wide.Loops {
		wide.Loops[i].Warm, wide.Loops[i].Fix = sp(1, 1000), sp(0, 72)
		wide.Loops[i].Leak, wide.Loops[i].Wrap = sp(0, 1000), sp(0, 1000)
	}
	for hour := range wide.Frost {
		wide.Frost[hour] = sp(0, 1000)
	}
	if e := Check(wide); e != api.OK {
		t.Error(e)
	}
	same := wrap(net(), 3)
	if e := Check(same); e != api.OK {
		t.Error(e)
	}
	ways := changed(net(), func(n *api.PipeNet) { n.Ways = [][]int{{0, 5, 72}, {0, 0, 0}, {1, 2, 0}} })
	if e := Check(ways); e != api.OK {
		t.Error(e)
	}
}

func TestCheckErrors(t *testing.T) {
	for name, n := range badNets() {
		if e := Check(n); e != api.ErrArg {
			t.Error(name, e)
		}
	}
}

func TestPlayExample(t *testing.T) {
	truth := []api.PipeTruth{{Leak: 120, Frost: 250, Fed: true}, {Leak: 120, Frost: 250}}
	heat, e := Play(net(), 0, 350, truth)
	if want := (api.PipeHeat{Warm: 268, Boiler: 3000, Ground: 1420, Sky: 5680}); e != api.OK || heat != want {
		t.Error(heat, e)
	}
}

// wide returns a net with one loop of which, and of whose hours, anything can be true.
func wide(loop api.PipeLoop, hours int) api.PipeNet {
	loop.Warm, loop.Leak, loop.Wrap = sp(1, 1000), sp(0, 1000), sp(0, 1000)
	return api.PipeNet{
		Loops: []api.PipeLoop{loop},
		Frost: slices.Repeat([]api.Span{sp(0, 1000)}, hours),
		Ways:  equalWays(1, 1),
	}
}

func TestPlayEdges(t *testing.T) {
	fed := func(leak, frost int) api.PipeTruth { return api.PipeTruth{Leak: leak, Frost: frost, Fed: true} }
	not := func(leak, frost int) api.PipeTruth { return api.PipeTruth{Leak: leak, Frost: frost} }
	loop := api.PipeLoop{Mass: 10, Ground: 250, Feed: 40}
	for _, x := range []struct {
		name  string
		loop  api.PipeLoop
		warm  int
		truth []api.PipeTruth
		want  api.PipeHeat
	}{
		{"no hours", loop, 300, nil, api.PipeHeat{Warm: 300}},
		{"no leak", loop, 300, []api.PipeTruth{not(0, 1000)}, api.PipeHeat{Warm: 300}},
		{"no leak, and fed", loop, 300, []api.PipeTruth{fed(0, 1000), fed(0, 0)}, api.PipeHeat{Warm: 380, Boiler: 800}},
		{"all leaks", loop, 300, []api.PipeTruth{not(1000, 0)}, api.PipeHeat{Ground: 750, Sky: 2250}},
		{"no more than all", loop, 300, []api.PipeTruth{not(1000, 1000)}, api.PipeHeat{Ground: 750, Sky: 2250}},
		{"no more than all and the feed", loop, 300, []api.PipeTruth{fed(1000, 1000)}, api.PipeHeat{Boiler: 400, Ground: 850, Sky: 2550}},
		{"just all and the feed", loop, 300, []api.PipeTruth{fed(1000, 40)}, api.PipeHeat{Boiler: 400, Ground: 850, Sky: 2550}},
		{"just less than all and the feed", loop, 300, []api.PipeTruth{fed(1000, 39)}, api.PipeHeat{Warm: 1, Boiler: 400, Ground: 847, Sky: 2543}},
		{"the feed leaks after the hour only", loop, 300, []api.PipeTruth{fed(1000, 0)}, api.PipeHeat{Warm: 40, Boiler: 400, Ground: 750, Sky: 2250}},
		{"frozen", loop, 1, []api.PipeTruth{not(1, 999), not(500, 1000), not(1000, 1000)}, api.PipeHeat{Ground: 2, Sky: 8}},
		{"frozen, and fed again", loop, 1, []api.PipeTruth{not(1, 999), fed(20, 1000), fed(0, 0)}, api.PipeHeat{Warm: 60, Boiler: 800, Ground: 52, Sky: 158}},
		{"frozen, and fed too little", loop, 1, []api.PipeTruth{not(1, 999), fed(40, 1000)}, api.PipeHeat{Boiler: 400, Ground: 102, Sky: 308}},
		{"a loss that is rounded down", loop, 300, []api.PipeTruth{not(1, 699)}, api.PipeHeat{Warm: 300}},
		{"a loss of one", loop, 300, []api.PipeTruth{not(1, 700)}, api.PipeHeat{Warm: 299, Ground: 2, Sky: 8}},
		{"a loss of one that is rounded down", loop, 300, []api.PipeTruth{not(2, 699)}, api.PipeHeat{Warm: 299, Ground: 2, Sky: 8}},
		{"rounded down in each hour", api.PipeLoop{Mass: 1, Ground: 499}, 300, []api.PipeTruth{not(2, 700), not(2, 702)}, api.PipeHeat{Warm: 296, Sky: 4}},
		{"half, hour by hour", api.PipeLoop{Mass: 1, Ground: 500}, 300, []api.PipeTruth{not(3, 700), not(3, 703)}, api.PipeHeat{Warm: 294, Ground: 2, Sky: 4}},
		{"nothing to the ground", api.PipeLoop{Mass: 7}, 300, []api.PipeTruth{not(100, 0)}, api.PipeHeat{Warm: 270, Sky: 210}},
		{"all to the ground", api.PipeLoop{Mass: 7, Ground: 1000}, 300, []api.PipeTruth{not(100, 0)}, api.PipeHeat{Warm: 270, Ground: 210}},
		{"no feed", api.PipeLoop{Mass: 7}, 300, []api.PipeTruth{fed(100, 0)}, api.PipeHeat{Warm: 270, Sky: 210}},
	} {
		n := wide(x.loop, 3)
		if heat, e := Play(n, 0, x.warm, x.truth); e != api.OK || heat != x.want {
			t.Error(x.name, heat, e)
		}
	}
}

func TestPlayTheMost(t *testing.T) {
	loop := api.PipeLoop{Mass: 10000, Ground: 1000, Feed: 1000}
	n := wide(loop, 72)
	truth := slices.Repeat([]api.PipeTruth{{Frost: 1000, Fed: true}}, 72)
	heat, e := Play(n, 0, 1000, truth)
	if want := (api.PipeHeat{Warm: 73000, Boiler: 720000000}); e != api.OK || heat != want {
		t.Error(heat, e)
	}
	truth[71].Leak = 1000
	heat, e = Play(n, 0, 1000, truth)
	if want := (api.PipeHeat{Boiler: 720000000, Ground: 730000000}); e != api.OK || heat != want {
		t.Error(heat, e)
	}
}

func TestPlayOfAnotherLoop(t *testing.T) {
	n := net()
	n.Loops[1].Mass, n.Loops[1].Ground = 7, 300
	truth := []api.PipeTruth{{Leak: 200, Frost: 300}, {Leak: 200, Frost: 200, Fed: true}}
	heat, e := Play(n, 1, 300, truth) // a loss of 120, then one of 76
	if want := (api.PipeHeat{Warm: 184, Boiler: 560, Ground: 252 + 159, Sky: 588 + 373}); e != api.OK || heat != want {
		t.Error(heat, e)
	}
}

// slowPlay plays hour by hour.
func slowPlay(loop api.PipeLoop, warm int, truth []api.PipeTruth) api.PipeHeat {
	var h api.PipeHeat
	for _, x := range truth {
		feed := 0
		if x.Fed {
			feed = loop.Feed
		}
		loss := int(math.Floor(float64(x.Leak) * float64(warm+x.Frost) / 1000))
		if loss > warm+feed {
			loss = warm + feed
		}
		warm = warm + feed - loss
		h.Boiler += feed * loop.Mass
		ground := 0
		for (ground+1)*1000 <= loss*loop.Mass*loop.Ground {
			ground++
		}
		h.Ground += ground
		h.Sky += loss*loop.Mass - ground
	}
	h.Warm = warm
	return h
}

func TestPlayHourByHour(t *testing.T) {
	r := source()
	frozen := 0
	for range 2000 {
		n := some(r, 1+r.IntN(5), 1+r.IntN(30))
		if r.IntN(3) == 0 {
			n = small(r)
		}
		i := r.IntN(len(n.Loops))
		n.Loops[i].Mass = 1 + r.IntN(20)
		loop := n.Loops[i]
		truth := someTruth(r, n, i, r.IntN(len(n.Frost)+1), r.IntN(3) > 0)
		warm := one(r, loop.Warm)
		heat, e := Play(n, i, warm, truth)
		if want := slowPlay(loop, warm, truth); e != api.OK || heat != want {
			t.Fatal(n, i, warm, truth, heat, want, e)
		}
		if heat.Warm == 0 {
			frozen++
		}
	}
	if frozen < 100 || frozen > 1900 {
		t.Error(frozen)
	}
}

func TestHeatIsKept(t *testing.T) {
	r := source()
	for range 3000 {
		n := some(r, 1+r.IntN(5), 1+r.IntN(72))
		if r.IntN(3) == 0 {
			n = wide(someLoop(r), 1+r.IntN(20))
		}
		i := r.IntN(len(n.Loops))
		loop := n.Loops[i]
		warm := one(r, loop.Warm)
		truth := someTruth(r, n, i, r.IntN(len(n.Frost)+1), true)
		h, e := Play(n, i, warm, truth)
		if e != api.OK || h.Warm < 0 || h.Ground < 0 || h.Sky < 0 {
			t.Fatal(n, i, warm, truth, h, e)
		}
		fed := 0
		for _, x := range truth {
			if x.Fed {
				fed++
			}
		}
		if h.Boiler != fed*loop.Feed*loop.Mass || warm*loop.Mass+h.Boiler != h.Warm*loop.Mass+h.Ground+h.Sky {
			t.Fatal(n, i, warm, truth, h)
		}
	}
}

func TestPlayErrors(t *testing.T) {
	good := []api.PipeTruth{{Leak: 120, Frost: 250, Fed: true}, {Leak: 120, Frost: 250}}
	fails := func(name string, n api.PipeNet, loop, warm int, truth []api.PipeTruth, want api.Errno) {
		t.Helper()
		if heat, e := Play(n, loop, warm, truth); heat != (api.PipeHeat{}) || e != want {
			t.Error(name, heat, e)
		}
	}
	for name, n := range badNets() {
		fails(name, n, 0, 350, nil, api.ErrArg)
		fails(name, n, 0, 350, make([]api.PipeTruth, len(n.Frost)), api.ErrArg)
		fails(name, n, 0, 350, make([]api.PipeTruth, len(n.Frost)+1), api.ErrLong)
	}
	eight := slices.Repeat(good[:1], 8)
	if heat, e := Play(net(), 0, 350, eight); e != api.OK || heat.Boiler != 8*60*50 {
		t.Error(heat, e)
	}
	nine := slices.Repeat(good[:1], 9)
	fails("9 hours", net(), 0, 350, nine, api.ErrLong)
	fails("9 hours of a loop that is none", net(), 2, 350, nine, api.ErrLong)
	fails("9 hours of a loop that is too warm", net(), 0, 401, nine, api.ErrLong)
	fails("9 hours that are not as defined", net(), 0, 350, make([]api.PipeTruth, 9), api.ErrLong)
	fails("73 hours", greatestNet(), 0, 1000, slices.Repeat([]api.PipeTruth{{Leak: 1000, Frost: 1000}}, 73), api.ErrLong)
	for _, loop := range []int{-1, 2, math.MinInt, math.MaxInt} {
		fails("loop", net(), loop, 300, nil, api.ErrArg)
	}
	for _, warm := range []int{299, 401, 0, -1, math.MinInt, math.MaxInt} {
		fails("warm", net(), 0, warm, good, api.ErrArg)
	}
	for _, x := range []api.PipeTruth{{Leak: 99, Frost: 250}, {Leak: 151, Frost: 250}, {Leak: 120, Frost: 199}, {Leak: 120, Frost: 301}, {Leak: -1, Frost: 250}, {Leak: 60, Frost: 250}, {}} {
		fails("a first hour", net(), 0, 350, []api.PipeTruth{x, good[1]}, api.ErrArg)
		fails("a last hour", net(), 0, 350, []api.PipeTruth{good[0], x}, api.ErrArg)
	}
	n := net()
	n.Frost[1] = sp(400, 500)
	fails("the frost of another hour", n, 0, 350, good, api.ErrArg)
	if _, e := Play(n, 0, 350, good[:1]); e != api.OK {
		t.Error(e)
	}
	for _, end := range []func(api.Span) int{low, high} {
		n := net()
		if _, e := Play(n, 0, end(n.Loops[0].Warm), endTruth(n, 0, 8, end)); e != api.OK {
			t.Error(e)
		}
	}
}
