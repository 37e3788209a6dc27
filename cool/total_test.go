package cool

import (
	"math"
	"math/rand/v2"
	"reflect"
	"slices"
	"testing"

	"talik/api"
)

// P0.1 (layer 3): every function terminates and does not panic, for all arguments; and the rules R2, R3, R4 and R8.

var odd = []int{math.MinInt, math.MinInt + 1, -1000001, -1, 0, 1, 2, 4, 7, 10, 11, 63, 64, 100, 101, 1000000, 1000001, math.MaxInt - 1, math.MaxInt}

// oddInt returns a number that is mostly from low to high.
func oddInt(r *rand.Rand, low, high int) int {
	if r.IntN(80) > 0 {
		return low + r.IntN(high-low+1)
	}
	return odd[r.IntN(len(odd))]
}

func oddSpan(r *rand.Rand, low, high int) api.Span {
	s := someSpan(r, low, high, high-low)
	if r.IntN(80) == 0 {
		s.Low = odd[r.IntN(len(odd))]
	}
	if r.IntN(80) == 0 {
		s.High = odd[r.IntN(len(odd))]
	}
	return s
}

// oddLen returns how long a list is: mostly as it should be.
func oddLen(r *rand.Rand, want int) int {
	if r.IntN(30) > 0 {
		return want
	}
	return r.IntN(15)
}

func oddTown(r *rand.Rand) api.CoolTown {
	var t api.CoolTown
	for range oddLen(r, 1+r.IntN(3)) {
		t.Houses = append(t.Houses, api.CoolHouse{Need: oddSpan(r, 0, 100), Grace: oddInt(r, 0, 100)})
	}
	for range oddLen(r, 1+r.IntN(5)) {
		s := api.CoolSite{Cost: oddInt(r, 0, 10), Weeks: oddInt(r, 1, 100)}
		for range oddLen(r, len(t.Houses)) {
			s.Gives = append(s.Gives, oddSpan(r, 0, 100))
		}
		t.Sites = append(t.Sites, s)
	}
	return t
}

// oddList returns a list of numbers, mostly of some of those that it should be of.
func oddList(r *rand.Rand, list []int) []int {
	some := someOf(r, list, 2)
	for i := range some {
		if r.IntN(80) == 0 {
			some[i] = odd[r.IntN(len(odd))]
		}
	}
	if r.IntN(40) == 0 {
		some = append(some, oddInt(r, 0, 12))
	}
	return some
}

// arguments are those of all functions.
type arguments struct {
	town   api.CoolTown
	bought []int
	fails  int
	truth  api.CoolTruth
	order  []int
	failed []int
}

func oddArguments(r *rand.Rand) arguments {
	a := arguments{town: oddTown(r), fails: oddInt(r, 0, api.CoolFails)}
	a.bought = oddList(r, numbers(len(a.town.Sites)))
	a.failed = oddList(r, a.bought)
	a.order = shuffled(r, a.failed)
	for _, h := range a.town.Houses[:min(len(a.town.Houses), oddLen(r, 10))] {
		a.truth.Needs = append(a.truth.Needs, oddInt(r, h.Need.Low, h.Need.Low))
	}
	for _, s := range a.town.Sites {
		var gives []int
		for _, span := range s.Gives[:min(len(s.Gives), oddLen(r, 10))] {
			gives = append(gives, oddInt(r, span.High, span.High))
		}
		a.truth.Gives = append(a.truth.Gives, gives)
	}
	return a
}

// results are all that the functions return.
type results struct {
	check   api.Errno
	play    []int
	playE   api.Errno
	keeps   bool
	keepsE  api.Errno
	house   int
	broken  []int
	breakE  api.Errno
	bears   int
	bearsE  api.Errno
	best    []int
	cost    int
	bestE   api.Errno
	floor   int
	floorE  api.Errno
	again   []int
	againE  api.Errno
	repair  []int
	repairE api.Errno
}

func callAll(a arguments) results {
	var x results
	x.check = Check(a.town)
	x.play, x.playE = Play(a.town, a.bought, a.truth)
	x.keeps, x.keepsE = Keeps(a.town, a.bought, a.fails)
	x.house, x.broken, x.breakE = Break(a.town, a.bought, a.fails)
	x.bears, x.bearsE = Bears(a.town, a.bought)
	x.best, x.cost, x.bestE = Best(a.town, a.fails)
	x.floor, x.floorE = Floor(a.town, a.fails)
	x.again, x.againE = Again(a.town, a.bought, a.order)
	x.repair, x.repairE = Repair(a.town, a.bought, a.failed)
	return x
}

func TestAllArguments(t *testing.T) {
	r := source()
	good := map[string]int{}
	const many = 20000
	for range many {
		a := oddArguments(r)
		x := callAll(a)
		for name, is := range map[string]struct {
			e    api.Errno
			zero bool
		}{
			"Check":  {x.check, true},
			"Play":   {x.playE, x.play == nil},
			"Keeps":  {x.keepsE, !x.keeps},
			"Break":  {x.breakE, x.house == 0 && x.broken == nil},
			"Bears":  {x.bearsE, x.bears == 0},
			"Best":   {x.bestE, x.best == nil && x.cost == 0},
			"Floor":  {x.floorE, x.floor == 0},
			"Again":  {x.againE, x.again == nil},
			"Repair": {x.repairE, x.repair == nil},
		} {
			if is.e != api.OK && !is.zero {
				t.Fatal(name, a, x)
			}
			if is.e == api.OK {
				good[name]++
			}
		}
		for _, e := range []api.Errno{x.playE, x.keepsE, x.breakE, x.bearsE, x.bestE, x.floorE} {
			if x.check != api.OK && e != api.ErrArg {
				t.Fatal(a, x)
			}
		}
	}
	for _, name := range []string{"Check", "Play", "Keeps", "Break", "Bears", "Best", "Floor", "Again", "Repair"} {
		if good[name] < many/50 || good[name] > many*19/20 {
			t.Error(name, good[name])
		}
	}
}

func TestNothingAtAll(t *testing.T) {
	x := callAll(arguments{})
	want := results{check: 2, playE: 2, keepsE: 2, breakE: 2, bearsE: 2, bestE: 2, floorE: 2, againE: 2, repairE: 2}
	if !reflect.DeepEqual(x, want) {
		t.Error(x)
	}
}

func TestNilAndEmptyAreTheSame(t *testing.T) {
	a := arguments{town: even(0, 5), truth: api.CoolTruth{Needs: []int{0}, Gives: [][]int{{5}}}}
	x := callAll(a)
	a.bought, a.order, a.failed = []int{}, []int{}, []int{}
	if y := callAll(a); !reflect.DeepEqual(x, y) || x.playE != api.OK || x.repairE != api.OK {
		t.Error(x, y)
	}
}

// valid returns arguments that are as defined, with something in all lists.
func valid(r *rand.Rand) arguments {
	a := arguments{town: repairable(r, 1+r.IntN(4), 3+r.IntN(api.CoolSites-2))}
	for i := range a.town.Houses { // so that some are kept
		a.town.Houses[i] = api.CoolHouse{Need: sp(0, a.town.Houses[i].Need.High/2), Grace: api.CoolWeeks}
	}
	a.bought = numbers(len(a.town.Sites) - r.IntN(2))
	a.order = shuffled(r, a.bought)[:min(len(a.bought)-1, api.CoolRepairs)]
	a.failed = slices.Clone(a.order)
	slices.Sort(a.failed)
	a.truth = someTruth(r, a.town)
	a.fails = r.IntN(api.CoolFails + 1)
	return a
}

func (a arguments) clone() arguments {
	a.town = cloneTown(a.town)
	a.bought, a.order, a.failed = slices.Clone(a.bought), slices.Clone(a.order), slices.Clone(a.failed)
	a.truth.Needs, a.truth.Gives = slices.Clone(a.truth.Needs), slices.Clone(a.truth.Gives)
	for i := range a.truth.Gives {
		a.truth.Gives[i] = slices.Clone(a.truth.Gives[i])
	}
	return a
}

// spoil changes all that a result may share memory with.
func spoil(list []int) {
	list = list[:cap(list)]
	for i := range list {
		list[i] = math.MinInt
	}
}

func TestNothingIsChangedAndCallsRepeat(t *testing.T) {
	r := source()
	var repaired, best, broken int
	for range 300 {
		a := valid(r)
		before := a.clone()
		x := callAll(a)
		if x.playE != api.OK || x.againE != api.OK || !reflect.DeepEqual(a, before) {
			t.Fatal("an argument was changed", a, before, x)
		}
		if x.repairE == api.OK {
			repaired++
		}
		if len(x.best) > 0 {
			best++
		}
		if len(x.broken) > 0 {
			broken++
		}
		y := callAll(a)
		if !reflect.DeepEqual(x, y) {
			t.Fatal("the calls do not repeat", a, x, y)
		}
		for _, list := range [][]int{y.play, y.broken, y.best, y.again, y.repair} {
			spoil(list)
		}
		if !reflect.DeepEqual(a, before) {
			t.Fatal("a result shares memory with an argument", a, before)
		}
		if z := callAll(a); !reflect.DeepEqual(x, z) {
			t.Fatal(a, x, z)
		}
	}
	if repaired < 50 || best < 50 || broken < 50 {
		t.Error(repaired, best, broken)
	}
}

func TestTheLargestTowns(t *testing.T) {
	r := source()
	for range 20 {
		a := arguments{
			town:   repairable(r, api.CoolHouses, api.CoolSites),
			bought: numbers(api.CoolSites),
			fails:  api.CoolFails,
			failed: numbers(api.CoolRepairs),
		}
		a.order = shuffled(r, a.failed)
		a.truth = someTruth(r, a.town)
		if x := callAll(a); x.check != api.OK || x.playE != api.OK || x.againE != api.OK {
			t.Fatal(a, x)
		}
	}
}
