package sense

import (
	"math"
	"math/rand/v2"
	"reflect"
	"slices"
	"testing"

	"talik/api"
)

// P0.1 (layer 5): every function terminates and does not panic, for all arguments; and the rules R2, R3, R4 and R8.

var odd = []int{math.MinInt, math.MinInt + 1, -6400, -1, 0, 1, 4, 6, 7, 20, 21, 25, 63, 64, 100, 101, 200, 201, 1999, 3201, 6400, 6401, math.MaxInt - 1, math.MaxInt}

// oddInt returns a number that is mostly from low to high.
func oddInt(r *rand.Rand, low, high int) int {
	if r.IntN(100) > 0 {
		return low + r.IntN(high-low+1)
	}
	return odd[r.IntN(len(odd))]
}

// oddLen returns how long a list is: mostly as it should be.
func oddLen(r *rand.Rand, want int) int {
	if r.IntN(30) > 0 {
		return want
	}
	return r.IntN(40)
}

// oddList returns a list of strictly increasing numbers from 0 on, mostly.
func oddList(r *rand.Rand, many int) []int {
	var l []int
	for n := range many {
		if r.IntN(2) == 0 {
			l = append(l, oddInt(r, n, n))
		}
	}
	return l
}

// arguments are those of all functions.
type arguments struct {
	hung     api.SenseString
	readings []api.SenseReading
	truth    api.SenseTruth
	cause    api.SenseCause
	most     int
	depth    int
	week     int
	text     string
}

func oddArguments(r *rand.Rand) arguments {
	depths := 1 + r.IntN(api.SenseDepths)
	a := arguments{hung: api.SenseString{Error: oddInt(r, 0, 9), Drift: oddInt(r, 0, 20), Warm: oddInt(r, 0, 20), Depths: oddInt(r, depths, depths)}}
	for range oddLen(r, 1+r.IntN(api.SenseSensors)) {
		a.hung.At = append(a.hung.At, oddInt(r, 0, depths-1))
	}
	sensors := len(a.hung.At)
	for range oddLen(r, r.IntN(6)) {
		a.readings = append(a.readings, api.SenseReading{Sensor: oddInt(r, 0, max(0, sensors-1)), Week: oddInt(r, 0, 20), Temp: oddInt(r, 2495, 2505)})
	}
	for range oddLen(r, depths) {
		a.truth.Temps = append(a.truth.Temps, oddInt(r, 2490, 2510))
		a.truth.Rates = append(a.truth.Rates, oddInt(r, 0, 0))
	}
	for range oddLen(r, sensors) {
		a.truth.Drifts = append(a.truth.Drifts, oddInt(r, 0, 0))
	}
	a.cause = api.SenseCause{Sensors: oddList(r, sensors), Depths: oddList(r, depths)}
	a.most, a.depth, a.week = oddInt(r, 0, depths+sensors), oddInt(r, 0, depths-1), oddInt(r, 0, 200)
	a.text = oddText(r, a)
	return a
}

// oddText returns the file of some arguments, with a byte changed now and then.
func oddText(r *rand.Rand, a arguments) string {
	text := []byte(file(a.hung, a.readings))
	if r.IntN(4) == 0 {
		text[r.IntN(len(text))] = byte(r.IntN(256))
	}
	return string(text)
}

// results are all that the functions return.
type results struct {
	check     api.Errno
	agrees    bool
	agreesE   api.Errno
	explains  bool
	explainsE api.Errno
	witness   api.SenseTruth
	witnessE  api.Errno
	least     []api.SenseCause
	leastE    api.Errno
	known     []api.SenseWord
	knownE    api.Errno
	where     api.Span
	whereE    api.Errno
	print     string
	printE    api.Errno
	hung      api.SenseString
	readings  []api.SenseReading
	readE     api.Errno
}

func callAll(a arguments) results {
	var x results
	x.check = Check(a.hung)
	x.agrees, x.agreesE = Agrees(a.hung, a.readings, a.truth)
	x.explains, x.explainsE = Explains(a.hung, a.readings, a.cause)
	x.witness, x.witnessE = Witness(a.hung, a.readings, a.cause)
	x.least, x.leastE = Least(a.hung, a.readings)
	x.known, x.knownE = Known(a.hung, a.readings, a.most)
	x.where, x.whereE = Where(a.hung, a.readings, a.most, a.depth, a.week)
	x.print, x.printE = PrintFile(a.hung, a.readings)
	x.hung, x.readings, x.readE = ReadFile(a.text)
	return x
}

// toldError is an error, and whether the other results are zero values.
type toldError struct {
	e    api.Errno
	zero bool
}

func (x results) errors() map[string]toldError {
	return map[string]toldError{
		"Check":     {x.check, true},
		"Agrees":    {x.agreesE, !x.agrees},
		"Explains":  {x.explainsE, !x.explains},
		"Witness":   {x.witnessE, equalTruth(x.witness, api.SenseTruth{})},
		"Least":     {x.leastE, x.least == nil},
		"Known":     {x.knownE, x.known == nil},
		"Where":     {x.whereE, x.where == api.Span{}},
		"PrintFile": {x.printE, x.print == ""},
		"ReadFile":  {x.readE, equalString(x.hung, api.SenseString{}) && x.readings == nil},
	}
}

func TestAllArguments(t *testing.T) {
	r := source()
	good := map[string]int{}
	const many = 1000
	for range many {
		a := oddArguments(r)
		x := callAll(a)
		for name, is := range x.errors() {
			if is.e != api.OK && !is.zero {
				t.Fatal(name, a, x)
			}
			if is.e == api.OK {
				good[name]++
			}
			long := len(a.readings) > api.SenseReadings
			if name == "Check" || name == "ReadFile" {
				continue
			}
			if long != (is.e == api.ErrLong) || !long && x.check != api.OK && is.e != api.ErrArg {
				t.Fatal(name, a, x)
			}
		}
	}
	for name := range (results{}).errors() {
		if good[name] < many/10 || good[name] > many*19/20 {
			t.Error(name, good[name])
		}
	}
}

func TestReadAnyBytes(t *testing.T) {
	r := source()
	parts := [2][]string{
		{"string", "sensor", "read", "end", " ", "\n", "0", "1", "9", "00", "-", "a", "w", "\x00", "\xff", "é"},
		{"string 0 0 0 1 1 j\n", "sensor 0 a\n", "read 0 0 3000 j\n", "end 0 a\n", "end 1 b\n"},
	}
	read := 0
	for range 50000 {
		text := ""
		these := parts[r.IntN(2)]
		for range r.IntN(6) {
			text += these[r.IntN(len(these))]
		}
		s, l, e := ReadFile(text)
		if e == api.ErrLong || e != api.OK && (l != nil || !equalString(s, api.SenseString{})) {
			t.Fatalf("%q %v %v %v", text, s, l, e)
		}
		if e == api.OK {
			testReads(t, text, s, l)
			read++
		}
	}
	if read < 3 {
		t.Error(read)
	}
}

func TestNothingAtAll(t *testing.T) {
	x := callAll(arguments{})
	want := results{check: 2, agreesE: 2, explainsE: 2, witnessE: 2, leastE: 2, knownE: 2, whereE: 2, printE: 2, readE: 4}
	if !reflect.DeepEqual(x, want) {
		t.Error(x)
	}
}

func TestNilAndEmptyAreTheSame(t *testing.T) {
	a := arguments{hung: hung(), truth: trueOf()}
	x := callAll(a)
	a.readings, a.cause = []api.SenseReading{}, api.SenseCause{Sensors: []int{}, Depths: []int{}}
	if y := callAll(a); !reflect.DeepEqual(x, y) || x.agreesE != api.OK || x.witnessE != api.OK || x.printE != api.OK {
		t.Error(x, y)
	}
	a.hung.At, a.truth.Temps, a.truth.Rates, a.truth.Drifts = []int{}, []int{}, []int{}, []int{}
	y := callAll(a)
	a.hung.At, a.truth = nil, api.SenseTruth{}
	if z := callAll(a); !reflect.DeepEqual(y, z) || y.check != api.ErrArg {
		t.Error(y, z)
	}
}

// valid returns arguments that are as defined, with something in all lists.
func valid(r *rand.Rand) arguments {
	s := small(r)
	a := arguments{hung: s.SenseString, readings: append(s.readings, read(r, s.SenseString, s.truth, 12)), truth: s.truth}
	all := allCauses(s.SenseString)
	a.cause = all[len(all)-1]
	a.most, a.depth, a.week = count(a.cause), r.IntN(s.Depths), r.IntN(201)
	a.text = file(a.hung, a.readings)
	return a
}

func (a arguments) clone() arguments {
	a.hung, a.readings = cloneString(a.hung), slices.Clone(a.readings)
	a.truth = api.SenseTruth{Temps: slices.Clone(a.truth.Temps), Rates: slices.Clone(a.truth.Rates), Drifts: slices.Clone(a.truth.Drifts)}
	a.cause = api.SenseCause{Sensors: slices.Clone(a.cause.Sensors), Depths: slices.Clone(a.cause.Depths)}
	return a
}

// spoil changes all that lists share memory with, and notices lists that share memory with each other.
func spoil[T comparable](t *testing.T, with T, lists ...[]T) {
	t.Helper()
	for i, l := range lists {
		l = l[:cap(l)]
		for j := range l {
			if l[j] == with {
				t.Fatal("two lists share memory", i)
			}
			l[j] = with
		}
	}
}

func TestNothingIsChangedAndCallsRepeat(t *testing.T) {
	r := source()
	found := 0
	for range 300 {
		a := valid(r)
		before := a.clone()
		x := callAll(a)
		if x.agreesE != api.OK || x.explainsE != api.OK || x.printE != api.OK || x.readE != api.OK || !reflect.DeepEqual(a, before) {
			t.Fatal("an argument was changed", a, before, x)
		}
		if x.leastE == api.OK && x.witnessE == api.OK && x.knownE == api.OK {
			found++
		}
		y := callAll(a)
		if !reflect.DeepEqual(x, y) {
			t.Fatal("the calls do not repeat", a, x, y)
		}
		numbers := [][]int{y.witness.Temps, y.witness.Rates, y.witness.Drifts, y.hung.At}
		for _, c := range y.least {
			numbers = append(numbers, c.Sensors, c.Depths)
		}
		spoil(t, math.MinInt, numbers...)
		spoil(t, api.SenseWord(-1), y.known)
		spoil(t, api.SenseReading{Sensor: -1}, y.readings)
		if !reflect.DeepEqual(a, before) {
			t.Fatal("a result shares memory with an argument", a, before)
		}
		if z := callAll(a); !reflect.DeepEqual(x, z) {
			t.Fatal(a, x, z)
		}
	}
	if found < 200 {
		t.Error(found)
	}
}

// TestTheLargestStrings has all sensors at one depth, where most explanations matter.
func TestTheLargestStrings(t *testing.T) {
	r := source()
	for _, at := range [][]int{{0, 0, 0, 0, 0, 0}, {3, 2, 1, 0, 3, 3}} {
		for _, many := range []int{0, api.SenseReadings} {
			s := some{SenseString: api.SenseString{Error: 100, Drift: 20, Warm: 20, Depths: 4, At: at}}
			s.truth = someTruth(r, s.SenseString)
			s.readings = someReadings(r, s.SenseString, s.truth, many, 3)
			x := callAll(arguments{hung: s.SenseString, readings: s.readings, truth: s.truth, cause: allCauses(s.SenseString)[1023], most: 10, depth: 3, week: 200, text: file(s.SenseString, s.readings)})
			for name, is := range x.errors() {
				if is.e != api.OK {
					t.Fatal(name, s, x)
				}
			}
		}
	}
}
