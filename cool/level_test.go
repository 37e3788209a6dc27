package cool

import (
	"slices"
	"testing"

	"talik/api"
)

// P3.1 (Check, Play)

func TestCheck(t *testing.T) {
	if e := Check(town()); e != api.OK {
		t.Error(e)
	}
	for name, bad := range badTowns() {
		if e := Check(bad); e != api.ErrArg {
			t.Error(name, e)
		}
	}
}

func TestCheckLimits(t *testing.T) {
	if e := Check(greatest()); e != api.OK {
		t.Error(e)
	}
	least := api.CoolTown{
		Houses: []api.CoolHouse{{}},
		Sites:  []api.CoolSite{{Weeks: 1, Gives: []api.Span{{}}}},
	}
	if e := Check(least); e != api.OK {
		t.Error(e)
	}
	widest := greatest()
	widest.Houses[0].Need = sp(0, api.CoolCold)
	widest.Sites[0].Gives[0] = sp(0, api.CoolCold)
	if e := Check(widest); e != api.OK {
		t.Error(e)
	}
}

func TestPlayExample(t *testing.T) {
	if more, e := Play(town(), []int{1, 3}, truth()); e != api.OK || !slices.Equal(more, []int{15, 25}) {
		t.Error(more, e)
	}
}

func TestPlayEdges(t *testing.T) {
	ends := func(end func(s api.Span) int) api.CoolTruth {
		var x api.CoolTruth
		for _, h := range town().Houses {
			x.Needs = append(x.Needs, end(h.Need))
		}
		for _, s := range town().Sites {
			x.Gives = append(x.Gives, []int{end(s.Gives[0]), end(s.Gives[1])})
		}
		return x
	}
	lows := ends(func(s api.Span) int { return s.Low })
	highs := ends(func(s api.Span) int { return s.High })
	for _, x := range []struct {
		name    string
		working []int
		truth   api.CoolTruth
		want    []int
	}{
		{"no coolers", nil, truth(), []int{-90, -55}},
		{"an empty list", []int{}, truth(), []int{-90, -55}},
		{"one", []int{2}, truth(), []int{-90, 15}},
		{"all", []int{0, 1, 2, 3}, truth(), []int{80, 95}},
		{"just level, and not", []int{0, 3}, api.CoolTruth{Needs: []int{100, 50}, Gives: [][]int{{60, 0}, {50, 40}, {0, 60}, {50, 30}}}, []int{10, -20}},
		{"low ends", []int{0, 1}, lows, []int{30, -10}},
		{"high ends", []int{0, 1}, highs, []int{30, -10}},
	} {
		if more, e := Play(town(), x.working, x.truth); e != api.OK || !slices.Equal(more, x.want) {
			t.Error(x.name, more, e)
		}
	}
	all := api.CoolTruth{Needs: slices.Repeat([]int{api.CoolCold}, api.CoolHouses)}
	for range api.CoolSites {
		all.Gives = append(all.Gives, all.Needs)
	}
	if more, e := Play(greatest(), numbers(api.CoolSites), all); e != api.OK || !slices.Equal(more, slices.Repeat([]int{9 * api.CoolCold}, api.CoolHouses)) {
		t.Error(more, e)
	}
}

func TestPlayOfAllTruths(t *testing.T) {
	r := source()
	for range 50 {
		c := small(r)
		for x := range truths(c) {
			working := most(r, c)
			var want []int
			for house, need := range x.Needs {
				cold := -need
				for _, site := range working {
					cold += x.Gives[site][house]
				}
				want = append(want, cold)
			}
			if more, e := Play(c, working, x); e != api.OK || !slices.Equal(more, want) {
				t.Fatal(c, working, x, more, want, e)
			}
		}
	}
}

// badTruths returns truths that are not as defined for the chapter's town, each for one reason.
func badTruths() map[string]api.CoolTruth {
	truths := map[string]api.CoolTruth{}
	change := func(name string, do func(x *api.CoolTruth)) {
		x := truth()
		do(&x)
		truths[name] = x
	}
	change("nothing", func(x *api.CoolTruth) { *x = api.CoolTruth{} })
	change("no needs", func(x *api.CoolTruth) { x.Needs = nil })
	change("a need less", func(x *api.CoolTruth) { x.Needs = x.Needs[:1] })
	change("a need more", func(x *api.CoolTruth) { x.Needs = append(x.Needs, 50) })
	change("needs too little", func(x *api.CoolTruth) { x.Needs[0] = 79 })
	change("needs too much", func(x *api.CoolTruth) { x.Needs[1] = 61 })
	change("gives nothing", func(x *api.CoolTruth) { x.Gives = nil })
	change("a site less", func(x *api.CoolTruth) { x.Gives = x.Gives[:3] })
	change("a site more", func(x *api.CoolTruth) { x.Gives = append(x.Gives, []int{0, 0}) })
	change("gives to no house", func(x *api.CoolTruth) { x.Gives[2] = nil })
	change("gives to a house less", func(x *api.CoolTruth) { x.Gives[3] = x.Gives[3][:1] })
	change("gives to a house more", func(x *api.CoolTruth) { x.Gives[0] = append(x.Gives[0], 0) })
	change("gives too little", func(x *api.CoolTruth) { x.Gives[1][0] = 49 })
	change("gives too much", func(x *api.CoolTruth) { x.Gives[3][1] = 36 })
	change("what does not work gives too little", func(x *api.CoolTruth) { x.Gives[0][0] = 59 })
	change("what does not work gives too much", func(x *api.CoolTruth) { x.Gives[2][0] = 1 })
	return truths
}

func TestPlayErrors(t *testing.T) {
	fails := func(name string, c api.CoolTown, working []int, x api.CoolTruth) {
		if more, e := Play(c, working, x); more != nil || e != api.ErrArg {
			t.Error(name, more, e)
		}
	}
	for name, c := range badTowns() {
		fails(name, c, []int{1, 3}, truth())
		fails(name, c, nil, truth())
	}
	for name, working := range badCoolers() {
		fails(name, town(), working, truth())
	}
	for name, x := range badTruths() {
		fails(name, town(), []int{1, 3}, x)
	}
}
