package engineer

import (
	"reflect"
	"slices"
	"testing"

	"talik/api"
)

// P10.1 (Check, Open)

// badTowns returns towns that are not as defined, each for one reason.
func badTowns() map[string]api.EngineerTown {
	all := map[string]api.EngineerTown{"nothing": {}}
	change := func(name string, do func(t *api.EngineerTown)) { all[name] = changed(town(), do) }
	change("no layers", func(t *api.EngineerTown) { t.Place.Layers = nil })
	change("7 layers", func(t *api.EngineerTown) { t.Place.Layers = slices.Repeat(t.Place.Layers[:1], 7) })
	change("a layer without ice", func(t *api.EngineerTown) { t.Place.Layers[1].Melt.Low = 0 })
	change("warm -1", func(t *api.EngineerTown) { t.Place.Warm.Low = -1 })
	change("no years", func(t *api.EngineerTown) { t.Years = nil })
	change("11 years", func(t *api.EngineerTown) { t.Years = slices.Repeat(t.Years[:1], 11) })
	change("12 years", func(t *api.EngineerTown) { t.Years = slices.Repeat(t.Years[:1], 12) })
	change("13 years", func(t *api.EngineerTown) { t.Years = slices.Repeat(t.Years[:1], 13) })
	change("1000 years", func(t *api.EngineerTown) { t.Years = slices.Repeat(t.Years[:1], 1000) })
	change("a summer that ends before it begins", func(t *api.EngineerTown) { t.Years[1].Summer = span(2, 1) })
	change("a winter that is too cold", func(t *api.EngineerTown) { t.Years[0].Winter.High = 1000001 })
	change("too much snow", func(t *api.EngineerTown) { t.Years[1].Snow.High = 1001 })
	change("no piles", func(t *api.EngineerTown) { t.Site.Piles, t.Site.Pairs = nil, nil })
	change("7 piles", func(t *api.EngineerTown) { t.Site.Piles = slices.Repeat(t.Site.Piles[:1], 7) })
	change("a pair of one pile", func(t *api.EngineerTown) { t.Site.Pairs[0].Other = 0 })
	change("11 pairs", func(t *api.EngineerTown) { t.Site.Pairs = slices.Repeat(t.Site.Pairs, 11) })
	change("no rows", func(t *api.EngineerTown) { t.Site.Rows = nil })
	change("tilt -1", func(t *api.EngineerTown) { t.Site.Tilt = -1 })
	change("no houses", func(t *api.EngineerTown) { t.Cool.Houses = nil })
	change("no sites", func(t *api.EngineerTown) { t.Cool.Sites = nil })
	change("11 sites", func(t *api.EngineerTown) { t.Cool.Sites = slices.Repeat(t.Cool.Sites[:1], 11) })
	change("a site that gives to one house", func(t *api.EngineerTown) { t.Cool.Sites[3].Gives = t.Cool.Sites[3].Gives[:1] })
	change("no loops", func(t *api.EngineerTown) { t.Net.Loops, t.Net.Ways = nil, [][]int{{0}} })
	change("no hours", func(t *api.EngineerTown) { t.Net.Frost = nil })
	change("73 hours", func(t *api.EngineerTown) { t.Net.Frost = slices.Repeat(t.Net.Frost[:1], 73) })
	change("a way to itself", func(t *api.EngineerTown) { t.Net.Ways[2][2] = 1 })
	change("too few ways", func(t *api.EngineerTown) { t.Net.Ways = t.Net.Ways[:2] })
	change("no depths", func(t *api.EngineerTown) { t.String.Depths = 0 })
	change("no sensors", func(t *api.EngineerTown) { t.String.At = nil })
	change("7 sensors", func(t *api.EngineerTown) { t.String.At = make([]int, 7) })
	change("a sensor at no depth", func(t *api.EngineerTown) { t.String.At[2] = 2 })
	change("more stock than yard", func(t *api.EngineerTown) { t.Store.Stock[2] = 6 })
	change("7 ships", func(t *api.EngineerTown) { t.Store.Ships = slices.Repeat(t.Store.Ships[:1], 7) })
	change("no ices", func(t *api.EngineerTown) { t.Store.Ices = nil })
	change("a short winter", func(t *api.EngineerTown) { t.Store.Winters[0] = t.Store.Winters[0][:3] })
	change("no members", func(t *api.EngineerTown) { t.Council.Languages = nil })
	change("13 members", func(t *api.EngineerTown) { t.Council.Languages = make([]int, 13) })
	change("1000 members", func(t *api.EngineerTown) { t.Council.Languages = make([]int, 1000) })
	change("a fourth language", func(t *api.EngineerTown) { t.Council.Languages[5] = 3 })
	change("quorum -1", func(t *api.EngineerTown) { t.Council.Quorum = -1 })
	change("quorum 13", func(t *api.EngineerTown) { t.Council.Quorum = 13 })
	change("no rule", func(t *api.EngineerTown) { t.Council.Rule = 0 })
	change("a fourth rule", func(t *api.EngineerTown) { t.Council.Rule = 4 })
	return all
}

func TestBadTowns(t *testing.T) {
	for name, x := range badTowns() {
		if bad := Check(x); bad != api.ErrArg {
			t.Error(name, bad)
		}
		if e, bad := Open(x); bad != api.ErrArg || e != nil {
			t.Error(name, e, bad)
		}
		if e, line, bad := Replay(x, "no line"); bad != api.ErrArg || e != nil || line != -1 {
			t.Error(name, e, line, bad)
		}
		if text, bad := Console(x, "grants"); bad != api.ErrArg || text != "" {
			t.Error(name, text, bad)
		}
	}
}

func TestGoodTowns(t *testing.T) {
	r := source()
	towns := []api.EngineerTown{town(), smallest(), greatest()}
	for range 200 {
		towns = append(towns, some(r))
	}
	for _, x := range towns {
		if bad := Check(x); bad != api.OK {
			t.Fatal(x, bad)
		}
		e, bad := Open(x)
		if bad != api.OK || !reflect.DeepEqual(e.EngineerTown, x) {
			t.Fatal(x, e, bad)
		}
	}
}

// TestNothingWasDoneYet looks at a town that was just opened.
func TestNothingWasDoneYet(t *testing.T) {
	e := opened(t, town())
	for line, want := range map[string]string{
		"thaws": "500 610 500 795", "levels": "-4 -2 -4 -2", "fault": "0 1 0", "uneven": "0 1", "grants": "0",
		"cause 0": "1 1 1 1 1", "cause 5": "2 2 2 2 2", "repairs 0": "8", "repairs 2": "8", "first": "1 1",
	} {
		if text, bad := e.Do(line); text != want || bad != api.OK {
			t.Error(line, text, bad)
		}
	}
	if journal, bad := e.Journal(); journal != "" || bad != api.OK {
		t.Error(journal, bad)
	}
}
