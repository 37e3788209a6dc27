package ground

import (
	"math"
	"math/rand/v2"
	"reflect"
	"slices"
	"testing"

	"talik/api"
)

// P0.1 (layer 1): every function terminates and does not panic, for all arguments; and the rules R2, R4 and R8.

var odd = []int{math.MinInt, math.MinInt + 1, -1000001, -1, 0, 1, 2, 7, 1000, 1001, 20000, 1000000, 1000001, math.MaxInt - 1, math.MaxInt}

func oddSpan(r *rand.Rand) api.Span {
	if r.IntN(4) > 0 { // often one that is allowed
		return sp(r.IntN(3), 3+r.IntN(7))
	}
	return sp(odd[r.IntN(len(odd))], odd[r.IntN(len(odd))])
}

func oddList(r *rand.Rand, most int) []int {
	var l []int
	for range r.IntN(most + 1) {
		l = append(l, odd[r.IntN(len(odd))])
	}
	return l
}

func oddPlace(r *rand.Rand) api.GroundPlace {
	p := api.GroundPlace{Warm: oddSpan(r)}
	for range r.IntN(9) {
		p.Layers = append(p.Layers, api.GroundLayer{Thick: odd[r.IntN(len(odd))], Melt: oddSpan(r)})
	}
	if r.IntN(2) == 0 {
		p = place()
	}
	return p
}

func oddYears(r *rand.Rand) []api.GroundYear {
	var l []api.GroundYear
	for range r.IntN(15) {
		l = append(l, api.GroundYear{Summer: oddSpan(r), Winter: oddSpan(r), Snow: oddSpan(r)})
	}
	return l
}

// results are all that the functions return.
type results struct {
	check   api.Errno
	seen    []api.GroundSeen
	years   api.Errno
	thaws   []int
	ledger  api.GroundLedger
	play    api.Errno
	can     int
	surely  int
	exceeds api.Errno
	allow   int
	allowE  api.Errno
	need    int
	needE   api.Errno
	text    string
	print   api.Errno
	read    api.GroundPlace
	readE   api.Errno
}

func callAll(p api.GroundPlace, l []api.GroundYear, truth api.GroundTruth, depth int) results {
	var x results
	x.check = Check(p)
	x.seen, x.years = Years(p, l)
	x.thaws, x.ledger, x.play = Play(p, l, truth)
	x.can, x.surely, x.exceeds = Exceeds(p, l, depth)
	x.allow, x.allowE = Allow(p, l, depth)
	x.need, x.needE = Need(p, l, depth)
	x.text, x.print = Print(p)
	x.read, x.readE = Read(x.text)
	return x
}

func TestAllArguments(t *testing.T) {
	r := source()
	good := map[string]int{}
	for range 20000 {
		p, l := oddPlace(r), oddYears(r)
		truth := api.GroundTruth{Melts: oddList(r, 8), Warms: oddList(r, 14), Summers: oddList(r, 14), Winters: oddList(r, 14), Snows: oddList(r, 14)}
		depth := odd[r.IntN(len(odd))]
		x := callAll(p, l, truth, depth)
		for name, is := range map[string]struct {
			e    api.Errno
			zero bool
		}{
			"Years":   {x.years, x.seen == nil},
			"Play":    {x.play, x.thaws == nil && x.ledger == api.GroundLedger{}},
			"Exceeds": {x.exceeds, x.can == 0 && x.surely == 0},
			"Allow":   {x.allowE, x.allow == 0},
			"Need":    {x.needE, x.need == 0},
			"Print":   {x.print, x.text == ""},
			"Read":    {x.readE, equalPlaces(x.read, api.GroundPlace{})},
		} {
			if is.e != api.OK && !is.zero {
				t.Fatal(name, p, l, truth, depth, x)
			}
			if is.e == api.OK {
				good[name]++
			}
		}
	}
	if good["Years"] == 0 || good["Exceeds"] == 0 || good["Allow"] == 0 || good["Print"] == 0 {
		t.Error(good)
	}
}

func TestReadAnyBytes(t *testing.T) {
	r := source()
	parts := []string{"hole", "layer", "end", " ", "\n", "0", "1", "9", "00", "1f", "ac", "-", "hole 1 0 0\n", "layer 1 1 1\n", "end 00\n", "\x00", "\xff", "\u00e9"}
	for range 20000 {
		text := ""
		for range r.IntN(20) {
			text += parts[r.IntN(len(parts))]
		}
		if p, e := Read(text); e == api.ErrText && !equalPlaces(p, api.GroundPlace{}) || e == api.ErrLong {
			t.Fatalf("%q %v %v", text, p, e)
		}
		if p, e := Read(ended(text)); e == api.OK && Check(p) != api.OK {
			t.Fatalf("%q %v", text, p)
		}
	}
}

func TestNothingIsChangedAndCallsRepeat(t *testing.T) {
	r := source()
	for range 200 {
		p, l := large(r)
		truth := someTruth(r, p, l)
		depth := r.IntN(3000)
		p2, l2, truth2 := api.GroundPlace{Layers: slices.Clone(p.Layers), Warm: p.Warm}, slices.Clone(l), cloneTruth(truth)
		a := callAll(p, l, truth, depth)
		if !equalPlaces(p, p2) || !slices.Equal(l, l2) || !reflect.DeepEqual(cloneTruth(truth), truth2) {
			t.Fatal("an argument was changed")
		}
		// results share no memory with arguments, or with other results
		b := callAll(p, l, truth, depth)
		for i := range b.thaws {
			b.thaws[i] = -1
			b.seen[i] = api.GroundSeen{}
		}
		for i := range b.read.Layers {
			b.read.Layers[i] = api.GroundLayer{}
		}
		if !equalPlaces(p, p2) || !slices.Equal(l, l2) || !reflect.DeepEqual(cloneTruth(truth), truth2) {
			t.Fatal("a result shares memory with an argument")
		}
		if c := callAll(p, l, truth, depth); !reflect.DeepEqual(a, c) {
			t.Fatal(a, c)
		}
	}
}
