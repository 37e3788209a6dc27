package engineer

import (
	"math"
	"math/rand/v2"
	"reflect"
	"slices"
	"strings"
	"testing"

	"talik/api"
)

// P0.1 (layer 10): every function terminates and does not panic, for all arguments; and the rules R2, R3 and R8.

var odd = []int{math.MinInt, math.MinInt + 1, -1000001, -1, 0, 1, 2, 3, 5, 6, 10, 24, 25, 63, 64, 120, 200, 201, 1000, 1001, 6400, 6401, 1000000, 1000001, 1 << 40, math.MaxInt - 1, math.MaxInt}

func oddInt(r *rand.Rand) int { return odd[r.IntN(len(odd))] }

var oddWords = []string{"", "*", "-", "yes", "joo", "um", "abcdefgh", "abcdefghi", "A", "1", " ", "\n", "\x00", "\xff", "\u00e9", strings.Repeat("a", 1000)}

func someWords(r *rand.Rand, many int) []string {
	var words []string
	for range many {
		words = append(words, oddWords[r.IntN(len(oddWords))])
	}
	return words
}

// told is the error of a call, and whether all its other results are zero values.
type told struct {
	bad  api.Errno
	zero bool
}

// callAll calls all methods with the same number, and returns what they tell.
func callAll(e *Engineer, n, m, k int, words []string, line string) map[string]told {
	all := map[string]told{
		"Summer": {e.Summer(n, m, k), true},
		"Jack":   {e.Jack(n), true},
		"Buy":    {e.Buy(n), true},
		"Break":  {e.Break(n), true},
		"Mend":   {e.Mend(n), true},
		"Read":   {e.Read(api.SenseReading{Sensor: n, Week: m, Temp: k}), true},
		"Fail":   {e.Fail(n), true},
		"Fix":    {e.Fix(n), true},
		"Order":  {e.Order(n), true},
	}
	result, bad := e.Vote(words)
	all["Vote"] = told{bad, result == api.SpeakResult{}}
	thaws, bad := e.Thaws()
	all["Thaws"] = told{bad, thaws == nil}
	levels, bad := e.Levels()
	all["Levels"] = told{bad, levels == nil}
	fault, bad := e.Fault()
	all["Fault"] = told{bad, fault == api.PileFault{}}
	uneven, bad := e.Uneven()
	all["Uneven"] = told{bad, uneven == nil}
	causes, bad := e.Cause(n)
	all["Cause"] = told{bad, causes == nil}
	order, slack, bad := e.Repairs(n)
	all["Repairs"] = told{bad, order == nil && slack == 0}
	week, kind, bad := e.First()
	all["First"] = told{bad, week == 0 && kind == 0}
	grants, bad := e.Grants()
	all["Grants"] = told{bad, grants == 0}
	text, bad := e.Do(line)
	all["Do"] = told{bad, text == ""}
	journal, bad := e.Journal()
	all["Journal"] = told{bad, journal == ""}
	return all
}

func mustBeZero(t *testing.T, all map[string]told) {
	t.Helper()
	for name, is := range all {
		if is.bad != api.OK && !is.zero {
			t.Fatal(name, is)
		}
	}
}

// TestNoEngineer has engineers that were not opened: that is the first error of all.
func TestNoEngineer(t *testing.T) {
	r := source()
	for name, e := range map[string]*Engineer{"nil": nil, "new": new(Engineer), "empty": {}} {
		for range 50 {
			line := []string{"", "thaws", "nothing", "jack 0", strings.Repeat("x", 501), "jack 99"}[r.IntN(6)]
			for method, is := range callAll(e, oddInt(r), oddInt(r), oddInt(r), someWords(r, r.IntN(14)), line) {
				if is.bad != api.ErrNil || !is.zero {
					t.Fatal(name, method, is)
				}
			}
		}
		if e != nil && !reflect.DeepEqual(e, new(Engineer)) {
			t.Error(name, e)
		}
	}
}

// TestAnyNumbers calls all methods of all kinds of towns with all kinds of numbers.
func TestAnyNumbers(t *testing.T) {
	r := source()
	good := map[string]int{}
	for i := range 150 {
		x := []api.EngineerTown{town(), smallest(), some(r)}[i%3]
		e := opened(t, x)
		for range 40 {
			n := []int{oddInt(r), r.IntN(7)}[r.IntN(2)]
			all := callAll(e, n, oddInt(r), oddInt(r), someWords(r, len(x.Council.Languages)-r.IntN(5)/4), string(rune(r.IntN(300))))
			mustBeZero(t, all)
			for name, is := range all {
				if is.bad == api.OK {
					good[name]++
				}
			}
		}
		if journal, _ := e.Journal(); !slices.Equal(seen(t, e), seen(t, replayed(t, x, journal))) {
			t.Fatal(x, journal)
		}
	}
	for _, name := range []string{"Jack", "Vote", "Fail", "Fix", "Order", "Thaws", "Levels", "Fault", "Uneven", "Cause", "Repairs", "First", "Grants", "Journal"} {
		if good[name] == 0 {
			t.Error(name)
		}
	}
}

// oddTown returns a town of which some numbers and lists are not as defined.
func oddTown(r *rand.Rand) api.EngineerTown {
	x := copyOfTown(some(r))
	for range r.IntN(4) {
		twist(r, reflect.ValueOf(&x).Elem())
	}
	return x
}

// twist changes a number, or how long a list is, somewhere in a value.
func twist(r *rand.Rand, v reflect.Value) {
	switch v.Kind() {
	case reflect.Struct:
		twist(r, v.Field(r.IntN(v.NumField())))
	case reflect.Array:
		twist(r, v.Index(r.IntN(v.Len())))
	case reflect.Slice:
		switch {
		case v.Len() == 0 || r.IntN(8) == 0:
			v.Set(reflect.Append(v, reflect.Zero(v.Type().Elem())))
		case r.IntN(8) == 0:
			v.Set(v.Slice(0, r.IntN(v.Len())))
		default:
			twist(r, v.Index(r.IntN(v.Len())))
		}
	case reflect.Int:
		v.SetInt(int64(oddInt(r)))
	case reflect.Bool:
		v.SetBool(!v.Bool())
	}
}

func TestAnyTowns(t *testing.T) {
	r := source()
	good := 0
	const many = 4000
	for range many {
		x := oddTown(r)
		before := copyOfTown(x)
		bad := Check(x)
		e, badOpen := Open(x)
		text, badConsole := Console(x, "grants")
		again, line, badReplay := Replay(x, "")
		if badOpen != bad || badConsole != bad || badReplay != bad || line != -1 || (e != nil) != (bad == api.OK) || (again != nil) != (bad == api.OK) || (text != "") != (bad == api.OK) {
			t.Fatal(x, bad, e, badOpen, text, badConsole, again, line, badReplay)
		}
		if !reflect.DeepEqual(x, before) {
			t.Fatal("a town was changed", x, before)
		}
		if bad == api.OK {
			good++
			mustBeZero(t, callAll(e, r.IntN(3), oddInt(r), oddInt(r), someWords(r, len(x.Council.Languages)), "thaws"))
		} else if bad != api.ErrArg {
			t.Fatal(x, bad)
		}
	}
	if good < many/10 || good > many*9/10 {
		t.Error(good)
	}
}

// TestAnyBytes has lines, journals and scripts of all kinds.
func TestAnyBytes(t *testing.T) {
	r := source()
	parts := []string{
		"summer", "jack", "vote", "buy", "break", "mend", "read", "fail", "fix", "order", "thaws", "levels", "fault", "uneven", "cause", "repairs", "first", "grants",
		" ", " ", " ", " ", " ", " ", "\n", "\n", "0", "1", "2", "00", "-1", "65000", "999999999", "1234567890", "*", "yes", "-", "A", "\x00", "\xff", "\u00e9", "\r",
		"summer 65000 60000 200", "jack 0", allFor, tooFew, "buy 1", "read 0 0 2700", "fail 0",
	}
	e, s := opened(t, town()), &slow{EngineerTown: town()}
	done := map[api.Errno]int{}
	for i := range 30000 {
		line := ""
		for range r.IntN(6) {
			line += parts[r.IntN(len(parts))]
		}
		text, bad := e.Do(line)
		want, wantBad := s.do(line)
		if text != want || bad != wantBad {
			t.Fatalf("%q %q %v %q %v", line, text, bad, want, wantBad)
		}
		done[bad]++
		if len(s.done) > 100 {
			e, s = opened(t, town()), &slow{EngineerTown: town()}
		}
		if i%50 == 0 {
			script := strings.Repeat(line, r.IntN(4))
			_, number, bad := Replay(town(), script)
			if bad == api.OK && number != -1 || bad != api.OK && (number < 0 || number > strings.Count(script, "\n")) {
				t.Fatalf("%q %v %v", script, number, bad)
			}
			if _, bad := Console(town(), script); bad != api.OK {
				t.Fatalf("%q %v", script, bad)
			}
		}
	}
	for _, bad := range []api.Errno{api.OK, api.ErrArg, api.ErrText, api.ErrState} {
		if done[bad] < 20 {
			t.Error(done)
		}
	}
}

// TestNilAndEmptyAreTheSame opens towns of which some lists are nil, or empty.
func TestNilAndEmptyAreTheSame(t *testing.T) {
	x := smallest()
	y := copyOfTown(x)
	y.Site.Pairs, y.Store.Ships = []api.PilePair{}, []api.StoreShip{}
	e, other := opened(t, x, "vote yes", "jack 0"), opened(t, y, "vote yes", "jack 0")
	if !slices.Equal(seen(t, e), seen(t, other)) {
		t.Error(e, other)
	}
	if _, bad := e.Vote(nil); bad != api.ErrArg {
		t.Error(bad)
	}
	if _, bad := e.Vote([]string{}); bad != api.ErrArg {
		t.Error(bad)
	}
	z := copyOfTown(x)
	z.Years, z.Council.Languages = []api.GroundYear{}, []int{}
	if bad := Check(z); bad != api.ErrArg {
		t.Error(bad)
	}
}

// TestCallsRepeat asks for everything several times, of towns in equal states.
func TestCallsRepeat(t *testing.T) {
	r := source()
	for range 10 {
		x := some(r)
		s := &slow{EngineerTown: x}
		for range 40 {
			s.do(someLine(r, s))
		}
		e, other := opened(t, x, s.done...), opened(t, x, s.done...)
		first := seen(t, e)
		if !slices.Equal(seen(t, e), first) || !slices.Equal(seen(t, other), first) {
			t.Fatal(x, s.done)
		}
	}
}

// TestTheGreatestTown does as much as is allowed where there is the most of all.
func TestTheGreatestTown(t *testing.T) {
	x := greatest()
	e := opened(t, x)
	for year := range x.Years {
		for pile := range x.Site.Piles {
			mustStep(t, e, step{with((*Engineer).Jack, pile), api.OK})
		}
		mustStep(t, e, step{summer(api.GroundHeat, year, api.GroundSnow), api.OK})
	}
	for week := range api.SenseReadings {
		mustStep(t, e, step{reading(week%len(x.String.At), 200-week, 2500), api.OK})
	}
	for loop := range x.Net.Loops {
		mustStep(t, e, step{with((*Engineer).Fail, loop), api.OK})
	}
	for ship := range x.Store.Ships {
		mustStep(t, e, step{with((*Engineer).Order, ship), api.OK})
	}
	for _, line := range asks(x) {
		text, bad := e.Do(line)
		if (bad == api.ErrArg) != (line == "cause 11" || line == "repairs 6") {
			t.Error(line, text, bad)
		}
	}
	// Buildings can give as much as the summers, nothing goes out through the snow, and ice melts at 1 at least.
	thaws, _ := e.Thaws()
	if thaws[9].Thaw.High != 20000000 || thaws[9].Left.High != 20000000 {
		t.Error(thaws[9])
	}
}
