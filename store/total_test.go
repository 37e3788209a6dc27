package store

import (
	"math"
	"math/rand/v2"
	"reflect"
	"slices"
	"testing"

	"talik/api"
)

// P0.1 (layer 6): every function terminates and does not panic, for all arguments; and the rules R2, R3, R4 and R8.

var odd = []int{math.MinInt, math.MinInt + 1, -1000001, -1, 0, 1, 3, 4, 6, 7, 8, 9, 29, 30, 31, 63, 64, 1000, 1001, 3000, 3001, 1000000, 1000001, math.MaxInt - 1, math.MaxInt}

// oddInt returns a number that is mostly from low to high.
func oddInt(r *rand.Rand, low, high int) int {
	if r.IntN(300) > 0 {
		return low + r.IntN(high-low+1)
	}
	return odd[r.IntN(len(odd))]
}

// oddLen returns how long a list is: mostly as it should be.
func oddLen(r *rand.Rand, want int) int {
	if r.IntN(60) > 0 {
		return want
	}
	return r.IntN(40)
}

func oddGoods(r *rand.Rand, low, high int) goods {
	return goods{oddInt(r, low, high), oddInt(r, low, high), oddInt(r, low, high)}
}

// arguments are those of all functions.
type arguments struct {
	store  api.Store
	plan   int
	ice    int
	winter int
	prices goods
	ships  []api.StoreShip
	text   string
}

func oddArguments(r *rand.Rand) arguments {
	weeks := 1 + r.IntN(5)
	land := 1 + r.IntN(weeks)
	s := api.Store{Stock: oddGoods(r, 0, 9), Yard: oddGoods(r, 9, 20), Rate: oddInt(r, 0, 20), Weeks: oddInt(r, weeks, weeks), Land: oddInt(r, land, land)}
	for range oddLen(r, r.IntN(7)) {
		s.Ships = append(s.Ships, api.StoreShip{Week: oddInt(r, 0, 4), Cargo: oddGoods(r, 0, 9), Cost: oddInt(r, 0, 99)})
	}
	for range oddLen(r, 1+r.IntN(4)) {
		s.Ices = append(s.Ices, someIce(r, oddLen(r, land)))
	}
	for range oddLen(r, 1+r.IntN(4)) {
		var winter []goods
		for range oddLen(r, weeks) {
			winter = append(winter, oddGoods(r, 0, 3))
		}
		s.Winters = append(s.Winters, winter)
	}
	a := arguments{store: s, plan: oddInt(r, 0, 1<<min(7, len(s.Ships))-1)}
	a.ice, a.winter = oddInt(r, 0, max(0, len(s.Ices)-1)), oddInt(r, 0, max(0, len(s.Winters)-1))
	a.prices = oddGoods(r, 0, 3)
	a.ships = s.Ships
	a.text = oddText(r, a.ships)
	return a
}

// oddText returns the manifest of ships, with a byte changed now and then.
func oddText(r *rand.Rand, ships []api.StoreShip) string {
	text := []byte(exampleManifest)
	if len(badNumbers(ships)) == 0 {
		text = []byte(manifest(ships))
	}
	if r.IntN(3) == 0 {
		text[r.IntN(len(text))] = byte(r.IntN(256))
	}
	return string(text)
}

// badNumbers returns the numbers of ships with which no manifest can be made.
func badNumbers(ships []api.StoreShip) []int {
	var all []int
	for _, s := range ships {
		all = append(all, s.Week, s.Cost, s.Cargo[0], s.Cargo[1], s.Cargo[2])
	}
	return slices.DeleteFunc(all, func(n int) bool { return 0 <= n && n <= 999999999 })
}

// results are all that the functions return.
type results struct {
	check  api.Errno
	run    api.StoreTrace
	runE   api.Errno
	fault  api.StoreFault
	faultE api.Errno
	week   int
	kind   int
	firstE api.Errno
	plan   int
	cost   int
	bestE  api.Errno
	floor  int
	floorE api.Errno
	print  string
	printE api.Errno
	read   []api.StoreShip
	readE  api.Errno
}

func callAll(a arguments) results {
	var x results
	x.check = Check(a.store)
	x.run, x.runE = Run(a.store, a.plan, a.ice, a.winter)
	x.fault, x.faultE = Fault(a.store, a.plan)
	x.week, x.kind, x.firstE = First(a.store, a.plan)
	x.plan, x.cost, x.bestE = Best(a.store)
	x.floor, x.floorE = Floor(a.store, a.winter, a.prices)
	x.print, x.printE = Print(a.ships)
	x.read, x.readE = Read(a.text)
	return x
}

// toldError is an error, and whether the other results are zero values.
type toldError struct {
	e    api.Errno
	zero bool
}

func (x results) errors() map[string]toldError {
	return map[string]toldError{
		"Check": {x.check, true},
		"Run":   {x.runE, x.run.Landed == nil && x.run.Stocks == nil && x.run.Lacks == nil},
		"Fault": {x.faultE, x.fault == api.StoreFault{}},
		"First": {x.firstE, x.week == 0 && x.kind == 0},
		"Best":  {x.bestE, x.plan == 0 && x.cost == 0},
		"Floor": {x.floorE, x.floor == 0},
		"Print": {x.printE, x.print == ""},
		"Read":  {x.readE, x.read == nil},
	}
}

func TestAllArguments(t *testing.T) {
	r := source()
	good := map[string]int{}
	const many = 5000
	for range many {
		a := oddArguments(r)
		x := callAll(a)
		for name, is := range x.errors() {
			if is.e != api.OK && !is.zero {
				t.Fatal(name, a, x)
			}
			if is.e == api.OK {
				good[name]++
			}
			if name != "Print" && name != "Read" && x.check != api.OK && is.e != api.ErrArg {
				t.Fatal(name, a, x)
			}
		}
		if (x.printE == api.ErrLong) != (len(a.ships) > api.StoreShips) {
			t.Fatal(a, x)
		}
	}
	for name := range (results{}).errors() {
		if good[name] < many/10 || good[name] > many*39/40 {
			t.Error(name, good[name])
		}
	}
}

// TestAnyNumbers has no number that was chosen to be one that is allowed.
func TestAnyNumbers(t *testing.T) {
	r := source()
	any := func() int { return odd[r.IntN(len(odd))] }
	all := func() goods { return goods{any(), any(), any()} }
	for range 3000 {
		s := api.Store{Stock: all(), Yard: all(), Rate: any(), Weeks: any(), Land: any()}
		for range r.IntN(70) {
			s.Ships = append(s.Ships, api.StoreShip{Week: any(), Cargo: all(), Cost: any()})
		}
		for range r.IntN(6) {
			s.Ices = append(s.Ices, someIce(r, r.IntN(40)))
		}
		for range r.IntN(6) {
			s.Winters = append(s.Winters, slices.Repeat([]goods{all()}, r.IntN(40)))
		}
		x := callAll(arguments{store: s, plan: any(), ice: any(), winter: any(), prices: all(), ships: s.Ships})
		for name, is := range x.errors() {
			if is.e != api.OK && !is.zero {
				t.Fatal(name, s, x)
			}
		}
	}
}

func TestReadAnyBytes(t *testing.T) {
	r := source()
	parts := [2][]string{
		{"ship", "end", " ", "\n", "0", "1", "9", "00", "-", "a", "\x00", "\xff", "é"},
		{"ship 0 0 0 0 0 0\n", "ship 1 0 0 0 0 0\n", "end 0 00\n", "end 1 00\n", "end 2 01\n"},
	}
	read := 0
	for range 50000 {
		text := ""
		these := parts[r.IntN(2)]
		for range r.IntN(6) {
			text += these[r.IntN(len(these))]
		}
		ships, e := Read(text)
		if e == api.ErrLong || e != api.OK && ships != nil {
			t.Fatalf("%q %v %v", text, ships, e)
		}
		if e == api.OK {
			testReads(t, text, ships)
			read++
		}
	}
	if read < 30 {
		t.Error(read)
	}
}

func TestNothingAtAll(t *testing.T) {
	x := callAll(arguments{})
	want := results{check: 2, runE: 2, faultE: 2, firstE: 2, bestE: 2, floorE: 2, print: "end 0 00\n", readE: 4}
	if !reflect.DeepEqual(x, want) {
		t.Error(x)
	}
}

func TestNilAndEmptyAreTheSame(t *testing.T) {
	a := arguments{store: smallest()}
	x := callAll(a)
	a.store.Ships, a.ships = []api.StoreShip{}, []api.StoreShip{}
	y := callAll(a)
	if !equalTrace(x.run, y.run) || x.runE != api.OK || x.bestE != api.OK {
		t.Error(x, y)
	}
	x.run, y.run = api.StoreTrace{}, api.StoreTrace{}
	if !reflect.DeepEqual(x, y) {
		t.Error(x, y)
	}
	a.store.Ices, a.store.Winters = nil, nil
	y = callAll(a)
	a.store.Ices, a.store.Winters = [][]bool{}, [][]goods{}
	if z := callAll(a); !reflect.DeepEqual(y, z) || y.check != api.ErrArg {
		t.Error(y, z)
	}
}

// valid returns arguments that are as defined, with something in all lists.
func valid(r *rand.Rand) arguments {
	s := small(r)
	for len(s.Ships) == 0 {
		s = small(r)
	}
	return arguments{store: s, plan: r.IntN(1 << len(s.Ships)), ice: r.IntN(len(s.Ices)), winter: r.IntN(len(s.Winters)), ships: slices.Clone(s.Ships), text: manifest(s.Ships)}
}

func (a arguments) clone() arguments {
	a.store, a.ships = cloneStore(a.store), slices.Clone(a.ships)
	return a
}

// spoil changes all that lists share memory with, and notices lists that share memory with each other.
func spoil[T comparable](t *testing.T, with T, lists ...[]T) {
	t.Helper()
	for i, l := range lists {
		l = l[:cap(l)]
		for j := range l {
			if l[j] == with {
				t.Fatal("two lists share memory", i)
			}
			l[j] = with
		}
	}
}

func TestNothingIsChangedAndCallsRepeat(t *testing.T) {
	r := source()
	found := 0
	for range 500 {
		a := valid(r)
		before := a.clone()
		x := callAll(a)
		if x.runE != api.OK || x.faultE != api.OK || x.floorE != api.OK || x.printE != api.OK || x.readE != api.OK || !reflect.DeepEqual(a, before) {
			t.Fatal("an argument was changed", a, before, x)
		}
		if x.bestE == api.OK && x.firstE == api.OK {
			found++
		}
		y := callAll(a)
		if !reflect.DeepEqual(x, y) {
			t.Fatal("the calls do not repeat", a, x, y)
		}
		spoil(t, goods{math.MinInt}, y.run.Landed, y.run.Stocks, y.run.Lacks)
		spoil(t, api.StoreShip{Week: math.MinInt}, y.read)
		if !reflect.DeepEqual(a, before) {
			t.Fatal("a result shares memory with an argument", a, before)
		}
		if z := callAll(a); !reflect.DeepEqual(x, z) {
			t.Fatal(a, x, z)
		}
	}
	if found < 20 {
		t.Error(found)
	}
}

// TestTheLargestStores has as many ships, ices, winters and weeks as are allowed, of which nothing is lacking with any plan.
func TestTheLargestStores(t *testing.T) {
	s := greatest()
	s.Winters = slices.Repeat([][]goods{needs(30, goods{33, 33, 33})}, 4)
	x := callAll(arguments{store: s, plan: 63, ice: 3, winter: 3, ships: s.Ships, text: manifest(s.Ships)})
	for name, is := range x.errors() {
		if is.e != api.OK && name != "First" {
			t.Fatal(name, x)
		}
	}
	if x.firstE != api.ErrNone || x.plan != 0 || x.run.Landed[0] != (goods{231, 231, 231}) {
		t.Error(x)
	}
}
