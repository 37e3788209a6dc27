package seep

import (
	"math"
	"math/rand/v2"
	"reflect"
	"slices"
	"testing"

	"talik/api"
)

// P0.1 (layer 7): every function terminates and does not panic, for all arguments; and the rules R2, R3, R4 and R8.

var odd = []int{math.MinInt, math.MinInt + 1, -1000001, -2, -1, 0, 1, 2, 5, 6, 7, 9, 10, 11, 12, 13, 63, 64, 65, 20000, 20001, 1000000, 1000001, math.MaxInt - 1, math.MaxInt}

// oddInt returns a number that is mostly from low to high.
func oddInt(r *rand.Rand, low, high int) int {
	if r.IntN(300) > 0 {
		return upTo(r, low, high)
	}
	return odd[r.IntN(len(odd))]
}

// spoiled returns a list that is mostly as it was.
func spoiled[T any](r *rand.Rand, list []T) []T {
	switch n := r.IntN(100); {
	case n == 0 && len(list) > 0:
		return list[:len(list)-1]
	case n == 1 && len(list) > 0:
		return slices.Repeat(list, 13)
	default:
		return list
	}
}

func oddSpan(r *rand.Rand, s api.Span) api.Span {
	return span(oddInt(r, s.Low, s.Low), oddInt(r, s.High, s.High))
}

func oddList(r *rand.Rand, list []int) []int {
	var odd []int
	for _, n := range spoiled(r, list) {
		odd = append(odd, oddInt(r, n, n))
	}
	return odd
}

// oddMap returns a map of which something is not as defined now and then.
func oddMap(r *rand.Rand, m api.SeepMap) api.SeepMap {
	m = api.SeepMap{
		Points: oddInt(r, m.Points, m.Points),
		Edges:  slices.Clone(spoiled(r, m.Edges)),
		Wastes: oddList(r, m.Wastes),
		Wells:  oddList(r, m.Wells),
		Thaws:  slices.Clone(spoiled(r, m.Thaws)),
		Lakes:  slices.Clone(spoiled(r, m.Lakes)),
	}
	for i, e := range m.Edges {
		m.Edges[i] = api.SeepEdge{From: oddInt(r, e.From, e.From), To: oddInt(r, e.To, e.To), Depth: oddInt(r, e.Depth, e.Depth), Cost: oddInt(r, e.Cost, e.Cost)}
	}
	for i, s := range m.Thaws {
		m.Thaws[i] = oddSpan(r, s)
	}
	for i, l := range m.Lakes {
		m.Lakes[i] = api.SeepLake{Into: oddInt(r, l.Into, l.Into), Rim: oddInt(r, l.Rim, l.Rim), Volume: oddSpan(r, l.Volume), Room: oddSpan(r, l.Room)}
	}
	return m
}

// arguments are those of all functions.
type arguments struct {
	m      api.SeepMap
	dykes  []int
	thaws  []int
	point  int
	routes [][]int
	prices []int
	truth  api.SeepTruth
}

// valid returns arguments that are as defined.
func valid(r *rand.Rand) arguments {
	m := small(r)
	a := arguments{m: m, dykes: someDykes(r, m), thaws: someTruth(r, m).Thaws, point: r.IntN(m.Points), truth: someTruth(r, m)}
	for range r.IntN(4) {
		a.routes, a.prices = append(a.routes, someRoute(r, m)), append(a.prices, r.IntN(3))
	}
	return a
}

func oddArguments(r *rand.Rand) arguments {
	a := valid(r)
	a.m = oddMap(r, a.m)
	a.dykes, a.thaws, a.prices = oddList(r, a.dykes), oddList(r, a.thaws), oddList(r, a.prices)
	a.point = oddInt(r, a.point, a.point)
	a.routes = spoiled(r, a.routes)
	for i, route := range a.routes {
		a.routes[i] = oddList(r, route)
	}
	a.truth = api.SeepTruth{Thaws: oddList(r, a.truth.Thaws), Volumes: oddList(r, a.truth.Volumes), Rooms: oddList(r, a.truth.Rooms)}
	return a
}

// results are all that the functions return.
type results struct {
	check   api.Errno
	play    []int
	playE   api.Errno
	years   []api.Span
	yearsE  api.Errno
	route   []int
	routeE  api.Errno
	dykes   []int
	cost    int
	dykesE  api.Errno
	floor   int
	floorE  api.Errno
	drained []int
	ledger  api.SeepLedger
	pourE   api.Errno
	drain   []api.Span
	drainE  api.Errno
}

func callAll(a arguments) results {
	var x results
	x.check = Check(a.m)
	x.play, x.playE = Play(a.m, a.dykes, a.thaws)
	x.years, x.yearsE = Years(a.m, a.dykes)
	x.route, x.routeE = Route(a.m, a.dykes, a.point)
	x.dykes, x.cost, x.dykesE = Dykes(a.m)
	x.floor, x.floorE = Floor(a.m, a.routes, a.prices)
	x.drained, x.ledger, x.pourE = Pour(a.m, a.truth)
	x.drain, x.drainE = Drain(a.m)
	return x
}

// toldError is an error, and whether the other results are zero values.
type toldError struct {
	e    api.Errno
	zero bool
}

func (x results) errors() map[string]toldError {
	return map[string]toldError{
		"Check": {x.check, true},
		"Play":  {x.playE, x.play == nil},
		"Years": {x.yearsE, x.years == nil},
		"Route": {x.routeE, x.route == nil},
		"Dykes": {x.dykesE, x.dykes == nil && x.cost == 0},
		"Floor": {x.floorE, x.floor == 0},
		"Pour":  {x.pourE, x.drained == nil && x.ledger == api.SeepLedger{}},
		"Drain": {x.drainE, x.drain == nil},
	}
}

func TestAllArguments(t *testing.T) {
	r := source()
	good := map[string]int{}
	const many = 5000
	for range many {
		a := oddArguments(r)
		x := callAll(a)
		for name, is := range x.errors() {
			if is.e != api.OK && !is.zero {
				t.Fatal(name, a, x)
			}
			if is.e == api.OK {
				good[name]++
			}
			if x.check != api.OK && is.e != api.ErrArg && !(name == "Floor" && is.e == api.ErrLong) {
				t.Fatal(name, a, x)
			}
		}
		if (x.floorE == api.ErrLong) != (len(a.routes) > api.SeepRoutes || len(a.prices) > api.SeepRoutes) {
			t.Fatal(a, x)
		}
	}
	for name := range (results{}).errors() {
		if good[name] < many/10 || good[name] > many*39/40 {
			t.Error(name, good[name])
		}
	}
}

// TestAnyNumbers has no number that was chosen to be one that is allowed.
func TestAnyNumbers(t *testing.T) {
	r := source()
	any := func() int { return odd[r.IntN(len(odd))] }
	list := func() []int {
		var l []int
		for range r.IntN(20) {
			l = append(l, any())
		}
		return l
	}
	for range 3000 {
		a := arguments{m: api.SeepMap{Points: any(), Wastes: list(), Wells: list()}, dykes: list(), thaws: list(), point: any(), prices: list()}
		for range r.IntN(20) {
			a.m.Edges = append(a.m.Edges, api.SeepEdge{From: any(), To: any(), Depth: any(), Cost: any()})
		}
		for range r.IntN(20) {
			a.m.Thaws = append(a.m.Thaws, span(any(), any()))
		}
		for range r.IntN(20) {
			a.m.Lakes = append(a.m.Lakes, api.SeepLake{Into: any(), Rim: any(), Volume: span(any(), any()), Room: span(any(), any())})
		}
		for range r.IntN(20) {
			a.routes = append(a.routes, list())
		}
		a.truth = api.SeepTruth{Thaws: list(), Volumes: list(), Rooms: list()}
		for name, is := range callAll(a).errors() {
			if is.e != api.OK && !is.zero {
				t.Fatal(name, a, is)
			}
		}
	}
}

func TestNothingAtAll(t *testing.T) {
	want := results{check: 2, playE: 2, yearsE: 2, routeE: 2, dykesE: 2, floorE: 2, pourE: 2, drainE: 2}
	if x := callAll(arguments{}); !reflect.DeepEqual(x, want) {
		t.Error(x)
	}
}

// alike makes empty lists nil, as they are the same.
func (x results) alike() results {
	for _, list := range []*[]int{&x.play, &x.route, &x.dykes, &x.drained} {
		if len(*list) == 0 {
			*list = nil
		}
	}
	for _, list := range []*[]api.Span{&x.years, &x.drain} {
		if len(*list) == 0 {
			*list = nil
		}
	}
	return x
}

func TestNilAndEmptyAreTheSame(t *testing.T) {
	some := arguments{m: smallest(), thaws: []int{0}, truth: api.SeepTruth{Thaws: []int{0}}}
	waste := arguments{m: changed(smallest(), func(m *api.SeepMap) { m.Wastes, m.Wells = []int{0}, []int{0} }), routes: [][]int{nil}, prices: []int{3}}
	for _, a := range []arguments{some, waste, {}} {
		x := callAll(a)
		for _, list := range []*[]int{&a.m.Wastes, &a.m.Wells, &a.dykes, &a.thaws, &a.prices, &a.truth.Thaws, &a.truth.Volumes, &a.truth.Rooms} {
			if *list == nil {
				*list = []int{}
			}
		}
		a.m.Edges, a.m.Lakes = []api.SeepEdge{}, []api.SeepLake{}
		if a.m.Thaws == nil {
			a.m.Thaws = []api.Span{}
		}
		if a.routes == nil {
			a.routes = [][]int{}
		}
		for i := range a.routes {
			a.routes[i] = []int{}
		}
		if y := callAll(a); !reflect.DeepEqual(x.alike(), y.alike()) {
			t.Error(a, x, y)
		}
	}
	if x := callAll(some); x.playE != api.OK || x.dykesE != api.OK || x.floorE != api.OK || x.pourE != api.OK || x.routeE != api.ErrNone {
		t.Error(x)
	}
	if x := callAll(waste); x.routeE != api.OK || x.floor != 3 || x.dykesE != api.ErrNone {
		t.Error(x)
	}
}

func (a arguments) clone() arguments {
	a.m, a.dykes, a.thaws, a.prices = cloneMap(a.m), slices.Clone(a.dykes), slices.Clone(a.thaws), slices.Clone(a.prices)
	a.routes = slices.Clone(a.routes)
	for i, route := range a.routes {
		a.routes[i] = slices.Clone(route)
	}
	a.truth = api.SeepTruth{Thaws: slices.Clone(a.truth.Thaws), Volumes: slices.Clone(a.truth.Volumes), Rooms: slices.Clone(a.truth.Rooms)}
	return a
}

// spoil changes all that lists share memory with, and notices lists that share memory with each other.
func spoil[T comparable](t *testing.T, with T, lists ...[]T) {
	t.Helper()
	for i, l := range lists {
		l = l[:cap(l)]
		for j := range l {
			if l[j] == with {
				t.Fatal("two lists share memory", i)
			}
			l[j] = with
		}
	}
}

func TestNothingIsChangedAndCallsRepeat(t *testing.T) {
	r := source()
	routes, dykes := 0, 0
	for range 500 {
		a := valid(r)
		before := a.clone()
		x := callAll(a)
		if x.playE != api.OK || x.yearsE != api.OK || x.pourE != api.OK || x.drainE != api.OK || !reflect.DeepEqual(a, before) {
			t.Fatal("an argument was changed", a, before, x)
		}
		if len(x.route) > 0 {
			routes++
		}
		if len(x.dykes) > 0 {
			dykes++
		}
		y := callAll(a)
		if !reflect.DeepEqual(x, y) {
			t.Fatal("the calls do not repeat", a, x, y)
		}
		spoil(t, math.MinInt, y.play, y.route, y.dykes, y.drained)
		spoil(t, span(math.MinInt, 0), y.years, y.drain)
		if !reflect.DeepEqual(a, before) {
			t.Fatal("a result shares memory with an argument", a, before)
		}
		if z := callAll(a); !reflect.DeepEqual(x, z) {
			t.Fatal(a, x, z)
		}
	}
	if routes < 30 || dykes < 30 {
		t.Error(routes, dykes)
	}
}

// TestTheLargestMaps has as many of all as are allowed, and lists of edges that go round and round.
func TestTheLargestMaps(t *testing.T) {
	m := greatest()
	m.Wastes, m.Wells = []int{0}, []int{1, 2, 3, 4, 5, 6, 7, 8, 9}
	m.Edges[1] = api.SeepEdge{From: 1, To: 0, Depth: 20000, Cost: 1000000}
	thaws := slices.Repeat([]int{20000}, 10)
	full := slices.Repeat([]int{1000000}, 6)
	round := append(slices.Repeat([]int{0, 1}, 50000), 0)
	a := arguments{m: m, thaws: thaws, point: 1, routes: slices.Repeat([][]int{round}, 10), prices: slices.Repeat([]int{100000}, 10), truth: api.SeepTruth{Thaws: thaws, Volumes: full, Rooms: full}}
	x := callAll(a)
	for name, is := range x.errors() {
		if is.e != api.OK {
			t.Fatal(name, x)
		}
	}
	if !slices.Equal(x.dykes, []int{0, 9}) || x.cost != 2000000 || x.floor != 1000000 || x.ledger != (api.SeepLedger{All: 6000000, Out: 6000000}) {
		t.Error(x)
	}
}
