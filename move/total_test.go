package move

import (
	"math"
	"math/rand/v2"
	"reflect"
	"slices"
	"testing"

	"talik/api"
)

// P0.1 (layer 8): every function terminates and does not panic, for all arguments; and the rules R2, R3, R4 and R8.

var odd = []int{math.MinInt, math.MinInt + 1, -1001, -2, -1, 0, 1, 2, 5, 6, 7, 8, 9, 10, 11, 63, 64, 65, 1000, 1001, math.MaxInt - 1, math.MaxInt}

// oddInt returns mostly the number itself.
func oddInt(r *rand.Rand, n int) int {
	if r.IntN(300) > 0 {
		return n
	}
	return odd[r.IntN(len(odd))]
}

// spoiled returns a list that is mostly as it was.
func spoiled[T any](r *rand.Rand, list []T) []T {
	switch n := r.IntN(100); {
	case n == 0 && len(list) > 0:
		return list[:len(list)-1]
	case n == 1 && len(list) > 0:
		return slices.Repeat(list, 11)
	default:
		return list
	}
}

func oddList(r *rand.Rand, list []int) []int {
	var odd []int
	for _, n := range spoiled(r, list) {
		odd = append(odd, oddInt(r, n))
	}
	return odd
}

// oddTown returns a town of which something is not as defined now and then.
func oddTown(r *rand.Rand, t api.MoveTown) api.MoveTown {
	var o api.MoveTown
	for _, row := range spoiled(r, t.Walk) {
		o.Walk = append(o.Walk, slices.Clone(row))
	}
	if i := r.IntN(len(t.Walk)); r.IntN(20) == 0 && i < len(o.Walk) {
		o.Walk[i] = oddList(r, o.Walk[i])
	}
	o.Reach, o.Schools = oddInt(r, t.Reach), oddList(r, t.Schools)
	o.Gone = slices.Clone(spoiled(r, t.Gone))
	for _, h := range spoiled(r, t.Houses) {
		o.Houses = append(o.Houses, api.MoveHouse{Lot: oddInt(r, h.Lot), Wishes: oddList(r, h.Wishes), School: h.School})
	}
	for _, p := range spoiled(r, t.Kin) {
		o.Kin = append(o.Kin, pair(oddInt(r, p.One), oddInt(r, p.Other)))
	}
	return o
}

// arguments are those of all functions.
type arguments struct {
	town api.MoveTown
	plan []int
}

// valid returns arguments that are as defined, with a plan that is often allowed.
func valid(r *rand.Rand) arguments {
	x := small(r)
	a := arguments{town: x, plan: r.Perm(len(x.Walk))[:len(x.Houses)]}
	for plan := range look(x).allowed() {
		if r.IntN(4) > 0 {
			a.plan = plan
		}
		if r.IntN(4) == 0 {
			break
		}
	}
	return a
}

func oddArguments(r *rand.Rand) arguments {
	a := valid(r)
	return arguments{town: oddTown(r, a.town), plan: oddList(r, a.plan)}
}

// results are all that the functions return.
type results struct {
	check     api.Errno
	fault     api.MoveFault
	faultE    api.Errno
	ranks     []int
	ranksE    api.Errno
	exchange  []int
	exchangeE api.Errno
	best      []int
	sum       int
	bestE     api.Errno
	fairest   []int
	worst     int
	fairestE  api.Errno
	steps     []api.MoveStep
	stepsE    api.Errno
}

func callAll(a arguments) results {
	var x results
	x.check = Check(a.town)
	x.fault, x.faultE = Fault(a.town, a.plan)
	x.ranks, x.ranksE = Ranks(a.town, a.plan)
	x.exchange, x.exchangeE = Exchange(a.town, a.plan)
	x.best, x.sum, x.bestE = Best(a.town)
	x.fairest, x.worst, x.fairestE = Fairest(a.town)
	x.steps, x.stepsE = Steps(a.town, a.plan)
	return x
}

// toldError is an error, and whether the other results are zero values.
type toldError struct {
	e    api.Errno
	zero bool
}

func (x results) errors() map[string]toldError {
	return map[string]toldError{
		"Check":    {x.check, true},
		"Fault":    {x.faultE, x.fault == api.MoveFault{}},
		"Ranks":    {x.ranksE, x.ranks == nil},
		"Exchange": {x.exchangeE, x.exchange == nil},
		"Best":     {x.bestE, x.best == nil && x.sum == 0},
		"Fairest":  {x.fairestE, x.fairest == nil && x.worst == 0},
		"Steps":    {x.stepsE, x.steps == nil},
	}
}

func TestAllArguments(t *testing.T) {
	r := source()
	good := map[string]int{}
	const many = 5000
	for range many {
		a := oddArguments(r)
		x := callAll(a)
		for name, is := range x.errors() {
			if is.e != api.OK && !is.zero || x.check != api.OK && is.e != api.ErrArg {
				t.Fatal(name, a, x)
			}
			if is.e == api.OK {
				good[name]++
			}
		}
		if x.faultE == api.OK && (x.fault.Rule == api.MoveFine) != (x.ranksE == api.OK) || x.ranksE != x.faultE && x.ranksE != api.ErrRule {
			t.Fatal(a, x)
		}
	}
	for name := range (results{}).errors() {
		if good[name] < many/10 || good[name] > many*39/40 {
			t.Error(name, good[name])
		}
	}
}

// TestAnyNumbers has no number that was chosen to be one that is allowed.
func TestAnyNumbers(t *testing.T) {
	r := source()
	any := func() int { return odd[r.IntN(len(odd))] }
	list := func() []int {
		var l []int
		for range r.IntN(12) {
			l = append(l, any())
		}
		return l
	}
	for range 3000 {
		a := arguments{town: api.MoveTown{Reach: any(), Schools: list()}, plan: list()}
		for range r.IntN(12) {
			a.town.Walk, a.town.Gone = append(a.town.Walk, list()), append(a.town.Gone, r.IntN(2) == 0)
		}
		if r.IntN(2) == 0 { // so that what comes after the walk is looked at, too
			a.town.Walk = row(r.IntN(8)).Walk
			a.town.Gone, a.town.Schools, a.town.Reach = make([]bool, len(a.town.Walk)), nil, 10
		}
		for range r.IntN(12) {
			a.town.Houses = append(a.town.Houses, api.MoveHouse{Lot: any(), Wishes: list(), School: r.IntN(2) == 0})
		}
		for range r.IntN(12) {
			a.town.Kin = append(a.town.Kin, pair(any(), any()))
		}
		for name, is := range callAll(a).errors() {
			if is.e != api.OK && !is.zero {
				t.Fatal(name, a, is)
			}
		}
	}
}

func TestNothingAtAll(t *testing.T) {
	want := results{check: 2, faultE: 2, ranksE: 2, exchangeE: 2, bestE: 2, fairestE: 2, stepsE: 2}
	if x := callAll(arguments{}); !reflect.DeepEqual(x, want) {
		t.Error(x)
	}
}

// alike makes empty lists nil, as they are the same.
func (x results) alike() results {
	for _, list := range []*[]int{&x.ranks, &x.exchange, &x.best, &x.fairest} {
		if len(*list) == 0 {
			*list = nil
		}
	}
	if len(x.steps) == 0 {
		x.steps = nil
	}
	return x
}

func TestNilAndEmptyAreTheSame(t *testing.T) {
	some := arguments{town: smallestTown(), plan: []int{0}}
	need := arguments{town: row(2, pupil(1)), plan: []int{1}}
	for _, a := range []arguments{some, need, {}} {
		x := callAll(a)
		b := arguments{town: cloneTown(a.town), plan: append([]int{}, a.plan...)}
		b.town.Walk, b.town.Gone = append([][]int{}, b.town.Walk...), append([]bool{}, b.town.Gone...)
		b.town.Houses = append([]api.MoveHouse{}, b.town.Houses...)
		b.town.Schools, b.town.Kin = []int{}, []api.MovePair{}
		for i := range b.town.Houses {
			b.town.Houses[i].Wishes = []int{}
		}
		if y := callAll(b); !reflect.DeepEqual(x.alike(), y.alike()) {
			t.Error(a, x, y)
		}
	}
	if x := callAll(some); x.fault.Rule != api.MoveFine || x.ranksE != api.OK || x.bestE != api.OK || x.stepsE != api.OK || x.exchangeE != api.ErrNone {
		t.Error(x)
	}
	if x := callAll(need); x.fault.Rule != api.MoveSchool || x.ranksE != api.ErrRule || x.bestE != api.ErrNone || x.stepsE != api.ErrRule {
		t.Error(x)
	}
}

func (a arguments) clone() arguments {
	return arguments{town: cloneTown(a.town), plan: slices.Clone(a.plan)}
}

// spoil changes all that lists share memory with, and notices lists that share memory with each other.
func spoil[T comparable](t *testing.T, with T, lists ...[]T) {
	t.Helper()
	for i, l := range lists {
		l = l[:cap(l)]
		for j := range l {
			if l[j] == with {
				t.Fatal("two lists share memory", i)
			}
			l[j] = with
		}
	}
}

func TestNothingIsChangedAndCallsRepeat(t *testing.T) {
	r := source()
	good := map[string]int{}
	for range 1000 {
		a := valid(r)
		before := a.clone()
		x := callAll(a)
		if x.faultE != api.OK || !reflect.DeepEqual(a, before) {
			t.Fatal("an argument was changed", a, before, x)
		}
		for name, is := range x.errors() {
			if is.e == api.OK {
				good[name]++
			}
		}
		y := callAll(a)
		if !reflect.DeepEqual(x, y) {
			t.Fatal("the calls do not repeat", a, x, y)
		}
		spoil(t, math.MinInt, y.ranks, y.exchange, y.best, y.fairest)
		spoil(t, api.MoveStep{House: math.MinInt}, y.steps)
		if !reflect.DeepEqual(a, before) {
			t.Fatal("a result shares memory with an argument", a, before)
		}
		if z := callAll(a); !reflect.DeepEqual(x, z) {
			t.Fatal(a, x, z)
		}
	}
	for name := range (results{}).errors() {
		if good[name] < 200 {
			t.Error(name, good[name])
		}
	}
}

// TestTheLargestTowns has as many of all as are allowed.
func TestTheLargestTowns(t *testing.T) {
	x := callAll(arguments{town: greatestTown(), plan: []int{1, 0, 3, 2, 5, 4}})
	for name, is := range x.errors() {
		if is.e != api.OK {
			t.Fatal(name, x)
		}
	}
	if !slices.Equal(x.exchange, []int{1, 0, 3, 2, 5, 6}) || x.sum != 15 || x.worst != 5 || len(x.steps) != 9 {
		t.Error(x)
	}
}

// TestLongLists has lists that are much longer than any that are allowed.
func TestLongLists(t *testing.T) {
	long := make([]int, 1000000)
	for name, do := range map[string]func(t *api.MoveTown){
		"walk":    func(t *api.MoveTown) { t.Walk = slices.Repeat([][]int{long}, 100000) },
		"rows":    func(t *api.MoveTown) { t.Walk[0] = long },
		"schools": func(t *api.MoveTown) { t.Schools = long },
		"gone":    func(t *api.MoveTown) { t.Gone = make([]bool, 1000000) },
		"houses":  func(t *api.MoveTown) { t.Houses = slices.Repeat(t.Houses, 100000) },
		"wishes":  func(t *api.MoveTown) { t.Houses[0].Wishes = long },
		"kin":     func(t *api.MoveTown) { t.Kin = slices.Repeat(t.Kin, 100000) },
	} {
		want := results{check: 2, faultE: 2, ranksE: 2, exchangeE: 2, bestE: 2, fairestE: 2, stepsE: 2}
		if x := callAll(arguments{town: changed(town(), do), plan: []int{1, 2, 3}}); !reflect.DeepEqual(x, want) {
			t.Error(name, x)
		}
	}
	if x := callAll(arguments{town: town(), plan: long}); x.faultE != api.ErrArg || x.stepsE != api.ErrArg || x.bestE != api.OK {
		t.Error(x)
	}
}
