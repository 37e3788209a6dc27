package pile

import (
	"slices"
	"testing"

	"talik/api"
)

// P2.1 (Check, Carries, Lost)

func TestCheck(t *testing.T) {
	if e := Check(site()); e != api.OK {
		t.Error(e)
	}
	for name, s := range badSites() {
		if e := Check(s); e != api.ErrArg {
			t.Error(name, e)
		}
	}
}

func TestCheckLimits(t *testing.T) {
	least := api.PileSite{
		Piles: []api.Pile{{Depth: 1, Load: sp(1, 1)}},
		Rows:  []api.PileRow{{}},
	}
	if e := Check(least); e != api.OK {
		t.Error(e)
	}
	pile := api.Pile{Depth: 50000, Point: 100000, Skin: 10000, Load: sp(100000, 100000), Design: 100000, Cost: 1000000}
	most := api.PileSite{
		Piles: slices.Repeat([]api.Pile{pile}, 6),
		Pairs: slices.Repeat([]api.PilePair{{One: 5, Other: 0}}, 10), // the same ones are allowed
		Rows:  append(rows(5), api.PileRow{Use: 5000, Settle: sp(1000, 1000)}),
		May:   1000,
		Sink:  100000,
		Tilt:  100000,
	}
	if e := Check(most); e != api.OK {
		t.Error(e)
	}
	same := site() // rows whose settling does not increase
	same.Rows[1].Settle, same.Rows[2].Settle = sp(2, 4), sp(4, 4)
	if e := Check(same); e != api.OK {
		t.Error(e)
	}
}

func TestCarriesExample(t *testing.T) {
	want := [][]api.Span{{sp(200, 230), sp(320, 360)}, {sp(200, 230), sp(320, 360)}}
	if l, e := Carries(site(), thaws(2)); e != api.OK || !equalSpans(l, want) {
		t.Error(l, e)
	}
	for _, none := range [][][]api.Span{nil, {}} {
		if l, e := Carries(site(), none); e != api.OK || len(l) != 0 {
			t.Error(l, e)
		}
	}
}

func TestCarriesEdges(t *testing.T) {
	for _, x := range []struct {
		name string
		pile api.Pile
		thaw api.Span
		want api.Span
	}{
		{"all is thawed", api.Pile{Depth: 1000, Skin: 10000}, sp(1000, 1001), sp(0, 0)},
		{"thawed deeper than it stands", api.Pile{Depth: 1000, Skin: 10000}, sp(50000, 50000), sp(0, 0)},
		{"a millimetre is left", api.Pile{Depth: 1000, Skin: 10000}, sp(999, 1000), sp(0, 10)},
		{"only the point is left", api.Pile{Depth: 1, Point: 7, Skin: 10000}, sp(1, 50000), sp(7, 7)},
		{"rounded down", api.Pile{Depth: 1000, Point: 1, Skin: 3}, sp(1, 334), sp(2, 3)},
		{"the greatest", api.Pile{Depth: 50000, Point: 100000, Skin: 10000}, sp(0, 50000), sp(100000, 600000)},
	} {
		s := site()
		x.pile.Load = sp(1, 1)
		s.Piles, s.Pairs = []api.Pile{x.pile}, nil
		if l, e := Carries(s, [][]api.Span{{x.thaw}}); e != api.OK || !equalSpans(l, [][]api.Span{{x.want}}) {
			t.Error(x.name, l, e)
		}
	}
}

// bounds returns the least and the greatest of what all thaws of a span come to.
func bounds(p api.Pile, thaw api.Span) api.Span {
	var all []int
	for deep := thaw.Low; deep <= thaw.High; deep++ {
		all = append(all, slowCarries(p, deep))
	}
	return sp(slices.Min(all), slices.Max(all))
}

func TestCarriesOverAllThaws(t *testing.T) {
	r := source()
	for range 300 {
		s, l := large(r, 1+r.IntN(3), r.IntN(3))
		var want [][]api.Span
		for _, year := range l {
			var row []api.Span
			for pile, thaw := range year {
				row = append(row, bounds(s.Piles[pile], thaw))
			}
			want = append(want, row)
		}
		if got, e := Carries(s, l); e != api.OK || !equalSpans(got, want) {
			t.Fatal(s, l, got, want, e)
		}
	}
}

func TestLostExample(t *testing.T) {
	s := site()
	if l, e := Lost(s, thaws(2)); e != api.OK || !slices.Equal(l, []int{-1, -1}) {
		t.Error(l, e)
	}
	s.May = 100
	if l, e := Lost(s, thaws(2)); e != api.OK || !slices.Equal(l, []int{0, 0}) {
		t.Error(l, e)
	}
	if l, e := Lost(s, nil); e != api.OK || !slices.Equal(l, []int{-1, -1}) {
		t.Error(l, e)
	}
}

func TestLostEdges(t *testing.T) {
	s := site() // 200 of 230 is just less than 870 thousandths, 320 of 360 is less than 889
	for _, x := range []struct {
		may  int
		want []int
	}{{131, []int{-1, -1}}, {130, []int{0, -1}}, {112, []int{0, -1}}, {111, []int{0, 0}}, {0, []int{0, 0}}, {1000, []int{-1, -1}}} {
		s.May = x.may
		if l, e := Lost(s, thaws(1)); e != api.OK || !slices.Equal(l, x.want) {
			t.Error(x.may, l, e)
		}
	}
	// just its part: 800 thousandths of 250
	s.May, s.Piles[0].Design = 200, 250
	if l, e := Lost(s, thaws(1)); e != api.OK || !slices.Equal(l, []int{-1, -1}) {
		t.Error(l, e)
	}
	s.Piles[0].Design = 251
	if l, e := Lost(s, thaws(1)); e != api.OK || !slices.Equal(l, []int{0, -1}) {
		t.Error(l, e)
	}
	// in a later year, and in none that follows
	later := [][]api.Span{{sp(0, 0), sp(0, 2000)}, {sp(0, 2000), sp(0, 2001)}, {sp(0, 0), sp(0, 4000)}, {sp(0, 0), sp(0, 0)}}
	if l, e := Lost(s, later); e != api.OK || !slices.Equal(l, []int{1, 2}) {
		t.Error(l, e)
	}
}

func TestLostOverAllThaws(t *testing.T) {
	r := source()
	for range 500 {
		s, l := small(r)
		want := make([]int, len(s.Piles))
		for pile, p := range s.Piles {
			want[pile] = -1
			for year := len(l) - 1; year >= 0; year-- {
				if bounds(p, l[year][pile]).Low*1000 < p.Design*(1000-s.May) {
					want[pile] = year
				}
			}
		}
		if got, e := Lost(s, l); e != api.OK || !slices.Equal(got, want) {
			t.Fatal(s, l, got, want, e)
		}
	}
}

func TestCarriesAndLostErrors(t *testing.T) {
	fails := func(name string, s api.PileSite, l [][]api.Span, want api.Errno) {
		if got, e := Carries(s, l); got != nil || e != want {
			t.Error(name, got, e)
		}
		if got, e := Lost(s, l); got != nil || e != want {
			t.Error(name, got, e)
		}
	}
	fails("11 years", site(), thaws(11), api.ErrLong)
	fails("11 years of no site", api.PileSite{}, thaws(11), api.ErrLong)
	fails("11 years of no piles", site(), make([][]api.Span, 11), api.ErrLong)
	for name, s := range badSites() {
		fails(name, s, thaws(2), api.ErrArg)
	}
	for name, l := range badThaws() {
		fails(name, site(), l, api.ErrArg)
	}
	fails("thaws of another site", site(), [][]api.Span{{sp(1, 2)}}, api.ErrArg)
	if l, e := Carries(site(), thaws(10)); e != api.OK || len(l) != 10 {
		t.Error(l, e)
	}
}
