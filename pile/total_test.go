package pile

import (
	"math"
	"math/rand/v2"
	"reflect"
	"slices"
	"testing"

	"talik/api"
)

// P0.1 (layer 2): every function terminates and does not panic, for all arguments; and the rules R2, R4 and R8.

var odd = []int{math.MinInt, math.MinInt + 1, -1000001, -1, 0, 1, 2, 7, 63, 1000, 1001, 50001, 100000, 1000000, 1000001, math.MaxInt - 1, math.MaxInt}

// oddInt returns a number that is mostly from low to high.
func oddInt(r *rand.Rand, low, high int) int {
	if r.IntN(60) > 0 {
		return low + r.IntN(high-low+1)
	}
	return odd[r.IntN(len(odd))]
}

func oddSpan(r *rand.Rand, low, high int) api.Span {
	s := someSpan(r, low, high, high-low)
	if r.IntN(60) == 0 {
		s.Low = odd[r.IntN(len(odd))]
	}
	if r.IntN(60) == 0 {
		s.High = odd[r.IntN(len(odd))]
	}
	return s
}

// oddLen returns how long a list is: mostly as it should be.
func oddLen(r *rand.Rand, want int) int {
	if r.IntN(20) > 0 {
		return want
	}
	return r.IntN(13)
}

func oddPile(r *rand.Rand) api.Pile {
	return api.Pile{
		Depth:  oddInt(r, 1, 1000),
		Point:  oddInt(r, 0, 100),
		Skin:   oddInt(r, 0, 100),
		Load:   oddSpan(r, 1, 100),
		Design: oddInt(r, 0, 100),
		Cost:   oddInt(r, 0, 100),
	}
}

func oddSite(r *rand.Rand) api.PileSite {
	s := api.PileSite{May: oddInt(r, 0, 1000), Sink: oddInt(r, 0, 1000), Tilt: oddInt(r, 0, 1000)}
	for range oddLen(r, 1+r.IntN(4)) {
		s.Piles = append(s.Piles, oddPile(r))
	}
	for range oddLen(r, r.IntN(3)) {
		s.Pairs = append(s.Pairs, api.PilePair{One: oddInt(r, 0, len(s.Piles)), Other: oddInt(r, 0, len(s.Piles))})
	}
	for i := range oddLen(r, 1+r.IntN(3)) {
		s.Rows = append(s.Rows, api.PileRow{Use: oddInt(r, 1000*i, 1000*i+500), Settle: sp(oddInt(r, i, i), oddInt(r, 10*i, 10*i+10))})
	}
	return s
}

// arguments are those of all functions.
type arguments struct {
	site   api.PileSite
	thaws  [][]api.Span
	plan   []int
	truth  [][]api.PileTruth
	pile   api.Pile
	thaw   api.Span
	cure   []api.PileCure
	levels [][]int
	text   string
}

func oddArguments(r *rand.Rand) arguments {
	a := arguments{site: oddSite(r), pile: oddPile(r), thaw: oddSpan(r, 0, 1000)}
	years := r.IntN(4)
	for range oddLen(r, years) {
		var year []api.Span
		for range oddLen(r, len(a.site.Piles)) {
			year = append(year, oddSpan(r, 0, 100))
		}
		a.thaws = append(a.thaws, year)
	}
	for range oddLen(r, len(a.thaws)) {
		a.plan = append(a.plan, oddInt(r, 0, 1<<len(a.site.Piles)-1))
		var year []api.PileTruth
		for range oddLen(r, len(a.site.Piles)) {
			year = append(year, api.PileTruth{Thaw: oddInt(r, 0, 100), Load: oddInt(r, 1, 100), Settle: oddInt(r, 0, 20)})
		}
		a.truth = append(a.truth, year)
	}
	for i := range oddLen(r, 1+r.IntN(3)) {
		a.cure = append(a.cure, api.PileCure{Week: oddInt(r, 10*i, 10*i+5), Part: oddInt(r, 300*i, 300*i+100)})
	}
	for range oddLen(r, years) {
		var row []int
		for range oddLen(r, 3) {
			row = append(row, oddInt(r, -1000, 1000))
		}
		a.levels = append(a.levels, row)
	}
	a.text = book(a.levels)
	return a
}

// results are all that the functions return.
type results struct {
	check    api.Errno
	carries  [][]api.Span
	carriesE api.Errno
	lost     []int
	lostE    api.Errno
	levels   [][]api.Span
	levelsE  api.Errno
	play     [][]int
	playE    api.Errno
	fault    api.PileFault
	faultE   api.Errno
	best     []int
	cost     int
	bestE    api.Errno
	ready    int
	readyE   api.Errno
	print    string
	printE   api.Errno
	read     [][]int
	readE    api.Errno
}

func callAll(a arguments) results {
	var x results
	x.check = Check(a.site)
	x.carries, x.carriesE = Carries(a.site, a.thaws)
	x.lost, x.lostE = Lost(a.site, a.thaws)
	x.levels, x.levelsE = Levels(a.site, a.thaws, a.plan)
	x.play, x.playE = Play(a.site, a.thaws, a.plan, a.truth)
	x.fault, x.faultE = Fault(a.site, a.thaws, a.plan)
	x.best, x.cost, x.bestE = Best(a.site, a.thaws)
	x.ready, x.readyE = Ready(a.pile, a.thaw, a.cure)
	x.print, x.printE = Print(a.levels)
	x.read, x.readE = Read(a.text)
	return x
}

func TestAllArguments(t *testing.T) {
	r := source()
	good := map[string]int{}
	for range 20000 {
		a := oddArguments(r)
		x := callAll(a)
		for name, is := range map[string]struct {
			e    api.Errno
			zero bool
		}{
			"Check":   {x.check, true},
			"Carries": {x.carriesE, x.carries == nil},
			"Lost":    {x.lostE, x.lost == nil},
			"Levels":  {x.levelsE, x.levels == nil},
			"Play":    {x.playE, x.play == nil},
			"Fault":   {x.faultE, x.fault == api.PileFault{}},
			"Best":    {x.bestE, x.best == nil && x.cost == 0},
			"Ready":   {x.readyE, x.ready == 0},
			"Print":   {x.printE, x.print == ""},
			"Read":    {x.readE, x.read == nil},
		} {
			if is.e != api.OK && !is.zero {
				t.Fatal(name, a, x)
			}
			if is.e == api.OK {
				good[name]++
			}
		}
		if x.check != api.OK && (x.carriesE == api.OK || x.levelsE == api.OK || x.bestE == api.OK) {
			t.Fatal(a, x)
		}
	}
	for _, name := range []string{"Check", "Carries", "Lost", "Levels", "Play", "Fault", "Best", "Ready", "Print", "Read"} {
		if good[name] < 20 || good[name] > 19000 {
			t.Error(name, good[name])
		}
	}
}

func TestReadAnyBytes(t *testing.T) {
	r := source()
	parts := []string{"levels", "year", "end", " ", "\n", "0", "1", "9", "00", "000", "-", "levels 1 1\n", "year 0 0\n", "end 000\n", "levels 0 0\n", "\x00", "\xff", "\u00e9"}
	for range 50000 {
		text := ""
		for range r.IntN(12) {
			text += parts[r.IntN(len(parts))]
		}
		l, e := Read(text)
		if e == api.ErrLong || e != api.OK && l != nil {
			t.Fatalf("%q %v %v", text, l, e)
		}
		if e == api.OK {
			if s, e := Print(l); e != api.OK || s != text {
				t.Fatalf("%q %q %v", text, s, e)
			}
		}
	}
}

// valid returns arguments without an error, with something in all lists.
func valid(r *rand.Rand) arguments {
	var a arguments
	years := 1 + r.IntN(4)
	a.site, a.thaws = jackable(r, 2+r.IntN(2), years)
	a.site.Pairs = []api.PilePair{{One: 0, Other: 1}}
	a.plan = somePlan(r, a.site, years)
	a.truth = someTruth(r, a.site, a.thaws)
	a.pile, a.thaw, a.cure = a.site.Piles[0], sp(0, 1), cure()
	a.levels = someLevels(r)
	a.text = book(a.levels)
	return a
}

func cloneLists[T any](l [][]T) [][]T {
	var all [][]T
	for _, x := range l {
		all = append(all, slices.Clone(x))
	}
	return all
}

func (a arguments) clone() arguments {
	a.site = cloneSite(a.site)
	a.thaws, a.truth, a.levels = cloneLists(a.thaws), cloneLists(a.truth), cloneLists(a.levels)
	a.plan, a.cure = slices.Clone(a.plan), slices.Clone(a.cure)
	return a
}

// spoil changes all that results share memory with, and notices lists that share memory with each other.
func spoil[T comparable](t *testing.T, lists [][]T, with T) {
	for i, l := range lists {
		for j := range l {
			if l[j] == with {
				t.Fatal("two lists share memory", i)
			}
			l[j] = with
		}
		_ = append(l, with)
	}
}

func TestNothingIsChangedAndCallsRepeat(t *testing.T) {
	r := source()
	for range 300 {
		a := valid(r)
		before := a.clone()
		x := callAll(a)
		if x.carriesE != api.OK || x.playE != api.OK || x.readE != api.OK || !reflect.DeepEqual(a, before) {
			t.Fatal("an argument was changed", a, before, x)
		}
		y := callAll(a)
		spoil(t, y.carries, sp(-1, -9))
		spoil(t, y.levels, sp(1, -9))
		spoil(t, y.play, 1)
		spoil(t, y.read, math.MinInt)
		spoil(t, [][]int{y.lost}, math.MinInt)
		spoil(t, [][]int{y.best}, math.MinInt)
		if !reflect.DeepEqual(a, before) {
			t.Fatal("a result shares memory with an argument", a, before)
		}
		if z := callAll(a); !reflect.DeepEqual(x, z) {
			t.Fatal(a, x, z)
		}
	}
}
