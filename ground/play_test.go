package ground

import (
	"slices"
	"testing"

	"talik/api"
)

// P1.1 (Check, Play)

func TestCheck(t *testing.T) {
	if e := Check(place()); e != api.OK {
		t.Error(e)
	}
	least := api.GroundPlace{Layers: []api.GroundLayer{{Thick: 1, Melt: sp(1, 1)}}}
	if e := Check(least); e != api.OK {
		t.Error(e)
	}
	most := api.GroundPlace{Layers: slices.Repeat([]api.GroundLayer{{Thick: 20000, Melt: sp(1, 1000)}}, 6), Warm: sp(0, 1000000)}
	if e := Check(most); e != api.OK {
		t.Error(e)
	}
	most.Layers[5].Melt, most.Warm = sp(1000, 1000), sp(1000000, 1000000)
	if e := Check(most); e != api.OK {
		t.Error(e)
	}
	for name, p := range badPlaces() {
		if e := Check(p); e != api.ErrArg {
			t.Error(name, e)
		}
	}
}

func TestPlayExample(t *testing.T) {
	thaws, ledger, e := Play(place(), years(2), truth())
	if e != api.OK || !slices.Equal(thaws, []int{544, 592}) || ledger != (api.GroundLedger{In: 126000, Out: 120000, Kept: 6000}) {
		t.Error(thaws, ledger, e)
	}
}

func TestPlayNoYears(t *testing.T) {
	for _, l := range [][]api.GroundYear{nil, {}} {
		thaws, ledger, e := Play(place(), l, api.GroundTruth{Melts: []int{100, 300}, Warms: []int{}})
		if e != api.OK || len(thaws) != 0 || ledger != (api.GroundLedger{}) {
			t.Error(thaws, ledger, e)
		}
	}
}

// exact returns years in which all is known, from their summers, winters and snows, and their truth.
func exact(melts, warms []int, numbers ...[3]int) ([]api.GroundYear, api.GroundTruth) {
	var l []api.GroundYear
	t := api.GroundTruth{Melts: melts, Warms: warms}
	for _, n := range numbers {
		l = append(l, api.GroundYear{Summer: sp(n[0], n[0]), Winter: sp(n[1], n[1]), Snow: sp(n[2], n[2])})
		t.Summers = append(t.Summers, n[0])
		t.Winters = append(t.Winters, n[1])
		t.Snows = append(t.Snows, n[2])
	}
	return l, t
}

func TestPlayEdges(t *testing.T) {
	two := api.GroundPlace{Layers: []api.GroundLayer{{Thick: 10, Melt: sp(10, 10)}, {Thick: 5, Melt: sp(100, 100)}}, Warm: sp(0, 1000000)}
	one := api.GroundPlace{Layers: []api.GroundLayer{{Thick: 1, Melt: sp(1, 1)}}, Warm: sp(0, 1000000)}
	for _, x := range []struct {
		name    string
		place   api.GroundPlace
		melts   []int
		warms   []int
		numbers [][3]int
		thaws   []int
		ledger  api.GroundLedger
	}{
		{"a heat short of a millimetre", two, []int{10, 100}, []int{0}, [][3]int{{9, 0, 0}}, []int{0}, api.GroundLedger{In: 9, Kept: 9}},
		{"just a millimetre", two, []int{10, 100}, []int{0}, [][3]int{{10, 0, 0}}, []int{1}, api.GroundLedger{In: 10, Kept: 10}},
		{"just the first layer", two, []int{10, 100}, []int{0}, [][3]int{{100, 0, 0}}, []int{10}, api.GroundLedger{In: 100, Kept: 100}},
		{"nearly into the second layer", two, []int{10, 100}, []int{0}, [][3]int{{199, 0, 0}}, []int{10}, api.GroundLedger{In: 199, Kept: 199}},
		{"into the second layer", two, []int{10, 100}, []int{0}, [][3]int{{200, 0, 0}}, []int{11}, api.GroundLedger{In: 200, Kept: 200}},
		{"below the last layer", two, []int{10, 100}, []int{0}, [][3]int{{1000, 0, 0}}, []int{19}, api.GroundLedger{In: 1000, Kept: 1000}},
		{"heat of buildings", two, []int{10, 100}, []int{60}, [][3]int{{40, 0, 0}}, []int{10}, api.GroundLedger{In: 100, Kept: 100}},
		{"what goes out is rounded down", two, []int{10, 100}, []int{0}, [][3]int{{100, 99, 500}}, []int{10}, api.GroundLedger{In: 100, Out: 49, Kept: 51}},
		{"snow that holds back all but nothing", two, []int{10, 100}, []int{0}, [][3]int{{100, 999, 999}}, []int{10}, api.GroundLedger{In: 100, Kept: 100}},
		{"snow that holds back all", two, []int{10, 100}, []int{0}, [][3]int{{100, 1000000, 1000}}, []int{10}, api.GroundLedger{In: 100, Kept: 100}},
		{"no more goes out than is left", two, []int{10, 100}, []int{0}, [][3]int{{100, 101, 0}}, []int{10}, api.GroundLedger{In: 100, Out: 100}},
		{"a talik", two, []int{10, 100}, []int{0, 0}, [][3]int{{100, 90, 0}, {50, 0, 0}}, []int{10, 10}, api.GroundLedger{In: 150, Out: 90, Kept: 60}},
		{"a talik by the least heat", two, []int{10, 100}, []int{0, 0}, [][3]int{{100, 99, 0}, {50, 0, 0}}, []int{10, 10}, api.GroundLedger{In: 150, Out: 99, Kept: 51}},
		{"frozen as a whole", two, []int{10, 100}, []int{0, 0}, [][3]int{{100, 100, 0}, {50, 0, 0}}, []int{10, 5}, api.GroundLedger{In: 150, Out: 100, Kept: 50}},
		{"deeper after a talik", two, []int{10, 100}, []int{0, 0}, [][3]int{{100, 50, 0}, {150, 0, 0}}, []int{10, 11}, api.GroundLedger{In: 250, Out: 50, Kept: 200}},
		{"no heat after the ground was frozen as a whole", one, []int{1}, []int{0, 0}, [][3]int{{5, 5, 0}, {0, 0, 0}}, []int{5, 0}, api.GroundLedger{In: 5, Out: 5}},
		{"no heat in a talik", one, []int{1}, []int{0, 0}, [][3]int{{5, 4, 0}, {0, 0, 0}}, []int{5, 5}, api.GroundLedger{In: 5, Out: 4, Kept: 1}},
		{"no heat", two, []int{10, 100}, []int{0}, [][3]int{{0, 5, 0}}, []int{0}, api.GroundLedger{}},
		{"the greatest heat", one, []int{1}, slices.Repeat([]int{1000000}, 12), slices.Repeat([][3]int{{1000000, 0, 0}}, 12),
			[]int{2000000, 4000000, 6000000, 8000000, 10000000, 12000000, 14000000, 16000000, 18000000, 20000000, 22000000, 24000000}, api.GroundLedger{In: 24000000, Kept: 24000000}},
	} {
		l, truth := exact(x.melts, x.warms, x.numbers...)
		thaws, ledger, e := Play(x.place, l, truth)
		if e != api.OK || !slices.Equal(thaws, x.thaws) || ledger != x.ledger {
			t.Error(x.name, thaws, ledger, e)
		}
	}
}

func TestPlayAsDefined(t *testing.T) {
	r := source()
	for range 2000 {
		p, l := small(r)
		truth := someTruth(r, p, l)
		wantThaws, _, wantLedger := slowPlay(p, truth, 0)
		thaws, ledger, e := Play(p, l, truth)
		if e != api.OK || !slices.Equal(thaws, wantThaws) || ledger != wantLedger {
			t.Fatal(p, l, truth, thaws, ledger, e)
		}
	}
}

func TestPlayKeepsHeat(t *testing.T) {
	r := source()
	for range 500 {
		p, l := large(r)
		truth := someTruth(r, p, l)
		in := 0
		for i := range l {
			in += truth.Warms[i] + truth.Summers[i]
		}
		_, ledger, e := Play(p, l, truth)
		if e != api.OK || ledger.In != in || ledger.In != ledger.Out+ledger.Kept || ledger.Out < 0 || ledger.Kept < 0 {
			t.Fatal(p, l, truth, ledger, e)
		}
	}
}

func TestPlayErrors(t *testing.T) {
	fails := func(name string, p api.GroundPlace, l []api.GroundYear, truth api.GroundTruth, want api.Errno) {
		thaws, ledger, e := Play(p, l, truth)
		if e != want || thaws != nil || ledger != (api.GroundLedger{}) {
			t.Error(name, thaws, ledger, e)
		}
	}
	fails("13 years", place(), years(13), truth(), api.ErrLong)
	fails("13 years of no place", api.GroundPlace{}, years(13), truth(), api.ErrLong)
	for name, p := range badPlaces() {
		fails(name, p, years(2), truth(), api.ErrArg)
	}
	for name, l := range badYears() {
		long := truth()
		long.Warms, long.Summers, long.Winters, long.Snows = append(long.Warms, 0), append(long.Summers, 60000), append(long.Winters, 60000), append(long.Snows, 200)
		fails(name, place(), l, long, api.ErrArg)
	}
	for name, do := range map[string]func(x *api.GroundTruth){
		"no melts":          func(x *api.GroundTruth) { x.Melts = nil },
		"a melt less":       func(x *api.GroundTruth) { x.Melts = x.Melts[:1] },
		"a melt more":       func(x *api.GroundTruth) { x.Melts = append(x.Melts, 200) },
		"a warm less":       func(x *api.GroundTruth) { x.Warms = x.Warms[:1] },
		"a warm more":       func(x *api.GroundTruth) { x.Warms = append(x.Warms, 0) },
		"a summer less":     func(x *api.GroundTruth) { x.Summers = x.Summers[:1] },
		"a summer more":     func(x *api.GroundTruth) { x.Summers = append(x.Summers, 60000) },
		"a winter less":     func(x *api.GroundTruth) { x.Winters = x.Winters[:1] },
		"a winter more":     func(x *api.GroundTruth) { x.Winters = append(x.Winters, 60000) },
		"a snow less":       func(x *api.GroundTruth) { x.Snows = x.Snows[:1] },
		"a snow more":       func(x *api.GroundTruth) { x.Snows = append(x.Snows, 200) },
		"13 snows":          func(x *api.GroundTruth) { x.Snows = slices.Repeat(x.Snows[:1], 13) },
		"melt 0 too little": func(x *api.GroundTruth) { x.Melts[0] = 99 },
		"melt 1 too much":   func(x *api.GroundTruth) { x.Melts[1] = 301 },
		"warm too little":   func(x *api.GroundTruth) { x.Warms[0] = -1 },
		"warm too much":     func(x *api.GroundTruth) { x.Warms[1] = 2001 },
		"summer too little": func(x *api.GroundTruth) { x.Summers[1] = 59999 },
		"summer too much":   func(x *api.GroundTruth) { x.Summers[0] = 70001 },
		"winter too little": func(x *api.GroundTruth) { x.Winters[0] = 49999 },
		"winter too much":   func(x *api.GroundTruth) { x.Winters[1] = 90001 },
		"snow too little":   func(x *api.GroundTruth) { x.Snows[1] = 99 },
		"snow too much":     func(x *api.GroundTruth) { x.Snows[0] = 301 },
	} {
		x := truth()
		do(&x)
		fails(name, place(), years(2), x, api.ErrArg)
	}
}
