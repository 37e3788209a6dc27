package engineer

import (
	"slices"
	"strconv"
	"strings"
	"testing"

	"talik/api"
)

// P10.1 (all acts)

// TestAgainstLines compares towns after random lines with the second implementation.
func TestAgainstLines(t *testing.T) {
	r := source()
	errors := map[string]map[api.Errno]int{}
	for range 150 {
		x := some(r)
		e, s := opened(t, x), &slow{EngineerTown: x}
		for range []int{5, 40, 300}[r.IntN(3)] {
			line := someLine(r, s)
			text, bad := e.Do(line)
			wantText, wantBad := s.do(line)
			if text != wantText || bad != wantBad {
				t.Fatal(x, s.done, line, text, bad, wantText, wantBad)
			}
			word, _, _ := strings.Cut(line, " ")
			if errors[word] == nil {
				errors[word] = map[api.Errno]int{}
			}
			errors[word][bad]++
			if r.IntN(30) == 0 {
				mustTell(t, e, s)
			}
		}
		mustTell(t, e, s)
	}
	// All errors of all acts must have come.
	for word, those := range map[string][]api.Errno{
		"summer": {api.OK, api.ErrArg, api.ErrState, api.ErrRule}, "jack": {api.OK, api.ErrArg, api.ErrState},
		"vote": {api.OK, api.ErrArg, api.ErrState}, "buy": {api.OK, api.ErrArg, api.ErrState, api.ErrRule},
		"break": {api.OK, api.ErrArg, api.ErrState}, "mend": {api.OK, api.ErrArg, api.ErrState},
		"read": {api.OK, api.ErrArg, api.ErrState, api.ErrRule}, "fail": {api.OK, api.ErrArg, api.ErrState},
		"fix": {api.OK, api.ErrArg, api.ErrState}, "order": {api.OK, api.ErrArg, api.ErrState},
	} {
		for _, bad := range those {
			if errors[word][bad] < 10 {
				t.Error(word, bad, errors[word][bad])
			}
		}
		if len(errors[word]) != len(those) {
			t.Error(word, errors[word])
		}
	}
}

// mustTell asks for all that a town tells, and compares it with what the lines that were done say.
func mustTell(t *testing.T, e *Engineer, s *slow) {
	t.Helper()
	for _, line := range asks(s.EngineerTown) {
		text, bad := e.Do(line)
		want, wantBad := s.do(line)
		if text != want || bad != wantBad {
			t.Fatal(s.EngineerTown, s.done, line, text, bad, want, wantBad)
		}
	}
	if journal, bad := e.Journal(); journal != s.journal() || bad != api.OK {
		t.Fatal(journal, bad, s.done)
	}
}

// step is a call of a method, and the error that it must return.
type step struct {
	call func(e *Engineer) api.Errno
	want api.Errno
}

func summer(a, b, c int) func(*Engineer) api.Errno {
	return func(e *Engineer) api.Errno { return e.Summer(a, b, c) }
}

func reading(sensor, week, temp int) func(*Engineer) api.Errno {
	return func(e *Engineer) api.Errno {
		return e.Read(api.SenseReading{Sensor: sensor, Week: week, Temp: temp})
	}
}

// voted votes by words with a blank between two of them, and * for an absent member.
func voted(words string) func(*Engineer) api.Errno {
	return func(e *Engineer) api.Errno {
		_, bad := e.Vote(votes(words))
		return bad
	}
}

func votes(words string) []string {
	return strings.Split(strings.ReplaceAll(words, "*", ""), " ")
}

// with calls a method that has one number.
func with(method func(*Engineer, int) api.Errno, n int) func(*Engineer) api.Errno {
	return func(e *Engineer) api.Errno { return method(e, n) }
}

// mustStep goes through steps. Where one returns an error, nothing may change.
func mustStep(t *testing.T, e *Engineer, steps ...step) {
	t.Helper()
	for i, s := range steps {
		var before []string
		if s.want != api.OK {
			before = seen(t, e)
		}
		if bad := s.call(e); bad != s.want {
			t.Fatal(i, bad, s.want)
		}
		if s.want != api.OK && !slices.Equal(seen(t, e), before) {
			t.Fatal(i, "an error has changed something")
		}
	}
}

func TestSummer(t *testing.T) {
	for _, x := range []struct {
		year [3]int
		want api.Errno
	}{
		{[3]int{60000, 50000, 100}, api.OK}, {[3]int{70000, 90000, 300}, api.OK},
		{[3]int{59999, 60000, 200}, api.ErrRule}, {[3]int{70001, 60000, 200}, api.ErrRule},
		{[3]int{65000, 49999, 200}, api.ErrRule}, {[3]int{65000, 90001, 200}, api.ErrRule},
		{[3]int{65000, 60000, 99}, api.ErrRule}, {[3]int{65000, 60000, 301}, api.ErrRule},
		{[3]int{0, 0, 0}, api.ErrRule}, {[3]int{1000000, 1000000, 1000}, api.ErrRule},
		{[3]int{-1, 60000, 200}, api.ErrArg}, {[3]int{1000001, 60000, 200}, api.ErrArg},
		{[3]int{65000, -1, 200}, api.ErrArg}, {[3]int{65000, 1000001, 200}, api.ErrArg},
		{[3]int{65000, 60000, -1}, api.ErrArg}, {[3]int{65000, 60000, 1001}, api.ErrArg},
		{[3]int{0, 60000, 1001}, api.ErrArg}, {[3]int{1000000, 1000001, 200}, api.ErrArg},
	} {
		mustStep(t, opened(t, town()), step{summer(x.year[0], x.year[1], x.year[2]), x.want})
	}
}

// TestSummerOfItsYear has years that differ, each of which has spans of its own.
func TestSummerOfItsYear(t *testing.T) {
	x := changed(town(), func(x *api.EngineerTown) {
		x.Years = []api.GroundYear{{Summer: span(1, 1)}, {Summer: span(2, 3), Winter: span(5, 6), Snow: span(8, 9)}}
	})
	e := opened(t, x)
	mustStep(t, e,
		step{summer(2, 5, 8), api.ErrRule}, step{summer(1, 0, 0), api.OK}, step{summer(1, 0, 0), api.ErrRule},
		step{summer(3, 6, 9), api.OK}, step{summer(3, 6, 9), api.ErrState}, step{summer(0, 0, 0), api.ErrState}, step{summer(-1, 6, 9), api.ErrArg},
	)
	want := []api.GroundYear{{Summer: span(1, 1)}, {Summer: span(3, 3), Winter: span(6, 6), Snow: span(9, 9)}}
	if !slices.Equal(e.Years, want) {
		t.Error(e.Years)
	}
}

func TestJack(t *testing.T) {
	year := step{summer(65000, 60000, 200), api.OK}
	mustStep(t, opened(t, town()),
		step{with((*Engineer).Jack, -1), api.ErrArg}, step{with((*Engineer).Jack, 2), api.ErrArg},
		step{with((*Engineer).Jack, 0), api.OK}, step{with((*Engineer).Jack, 0), api.ErrState}, step{with((*Engineer).Jack, 1), api.OK}, step{with((*Engineer).Jack, 1), api.ErrState},
		year,
		step{with((*Engineer).Jack, 1), api.OK}, step{with((*Engineer).Jack, 1), api.ErrState},
		year,
		step{with((*Engineer).Jack, 0), api.ErrState}, step{with((*Engineer).Jack, 1), api.ErrState}, step{with((*Engineer).Jack, 2), api.ErrArg},
	)
}

func TestCoolers(t *testing.T) {
	mustStep(t, opened(t, town()),
		step{with((*Engineer).Buy, -1), api.ErrArg}, step{with((*Engineer).Buy, 4), api.ErrArg}, step{with((*Engineer).Buy, 0), api.ErrRule},
		step{with((*Engineer).Break, -1), api.ErrArg}, step{with((*Engineer).Break, 4), api.ErrArg}, step{with((*Engineer).Break, 0), api.ErrState},
		step{with((*Engineer).Mend, -1), api.ErrArg}, step{with((*Engineer).Mend, 4), api.ErrArg}, step{with((*Engineer).Mend, 0), api.ErrState},
		step{voted("yes yes en en um um"), api.OK},
		step{with((*Engineer).Buy, 3), api.OK}, step{with((*Engineer).Buy, 3), api.ErrState}, step{with((*Engineer).Buy, 0), api.ErrRule},
		step{with((*Engineer).Mend, 3), api.ErrState}, step{with((*Engineer).Break, 3), api.OK}, step{with((*Engineer).Break, 3), api.ErrState},
		// Coolers that have failed were bought still, and have taken their grants.
		step{with((*Engineer).Buy, 3), api.ErrState}, step{with((*Engineer).Buy, 0), api.ErrRule},
		step{voted("yes yes en en um um"), api.OK},
		step{with((*Engineer).Buy, 3), api.ErrState}, step{with((*Engineer).Mend, 0), api.ErrState}, step{with((*Engineer).Buy, 0), api.OK},
		step{with((*Engineer).Mend, 3), api.OK}, step{with((*Engineer).Mend, 3), api.ErrState}, step{with((*Engineer).Break, 0), api.OK}, step{with((*Engineer).Break, 3), api.OK},
	)
}

func TestLoopsAndShips(t *testing.T) {
	mustStep(t, opened(t, town()),
		step{with((*Engineer).Fail, -1), api.ErrArg}, step{with((*Engineer).Fail, 2), api.ErrArg}, step{with((*Engineer).Fix, -1), api.ErrArg}, step{with((*Engineer).Fix, 2), api.ErrArg},
		step{with((*Engineer).Fix, 0), api.ErrState}, step{with((*Engineer).Fail, 0), api.OK}, step{with((*Engineer).Fail, 0), api.ErrState}, step{with((*Engineer).Fix, 1), api.ErrState},
		step{with((*Engineer).Fail, 1), api.OK}, step{with((*Engineer).Fix, 0), api.OK}, step{with((*Engineer).Fix, 0), api.ErrState}, step{with((*Engineer).Fail, 0), api.OK},
		step{with((*Engineer).Order, -1), api.ErrArg}, step{with((*Engineer).Order, 3), api.ErrArg},
		step{with((*Engineer).Order, 2), api.OK}, step{with((*Engineer).Order, 2), api.ErrState}, step{with((*Engineer).Order, 0), api.OK}, step{with((*Engineer).Order, 0), api.ErrState}, step{with((*Engineer).Order, 1), api.OK},
	)
	none := changed(town(), func(x *api.EngineerTown) { x.Store.Ships = nil })
	mustStep(t, opened(t, none), step{with((*Engineer).Order, 0), api.ErrArg})
}

func TestReadings(t *testing.T) {
	steps := []step{
		{reading(-1, 0, 2700), api.ErrArg}, {reading(3, 0, 2700), api.ErrArg}, {reading(0, -1, 2700), api.ErrArg},
		{reading(0, 201, 2700), api.ErrArg}, {reading(0, 0, -1), api.ErrArg}, {reading(0, 0, 6401), api.ErrArg},
		{reading(0, 0, 6400), api.ErrRule}, {reading(0, 0, 0), api.ErrRule}, {reading(0, 0, 3203), api.ErrRule}, {reading(0, 0, 1997), api.ErrRule},
		{reading(0, 0, 3202), api.OK}, {reading(0, 0, 3197), api.ErrRule}, {reading(2, 0, 1998), api.OK}, {reading(1, 200, 3200), api.OK},
	}
	e := opened(t, town())
	mustStep(t, e, steps...)
	for range api.SenseReadings - 3 {
		mustStep(t, e, step{reading(2, 200, 2000), api.OK})
	}
	// There are as many as are allowed: a wrong one is ErrArg still, all others are ErrState, whether they are explained or not.
	mustStep(t, e, step{reading(2, 200, 2000), api.ErrState}, step{reading(0, 0, 6400), api.ErrState}, step{reading(3, 0, 2000), api.ErrArg})
}

func TestVotes(t *testing.T) {
	longest := "abcdefgh -------- z- a *"
	mustStep(t, opened(t, town()),
		step{voted("yes no en joo um"), api.ErrArg}, step{voted("yes no en joo um em *"), api.ErrArg}, step{voted(longest + " abcdefghi"), api.ErrArg},
		step{voted(longest + " A"), api.ErrArg}, step{voted(longest + " a1"), api.ErrArg}, step{voted(longest + " {"), api.ErrArg}, step{voted(longest + " `"), api.ErrArg},
		step{voted(longest + " \u00e9"), api.ErrArg}, step{voted(longest + " \xff"), api.ErrArg}, step{voted(longest + " \n"), api.ErrArg}, step{voted(longest + " \x00"), api.ErrArg},
		step{func(e *Engineer) api.Errno {
			_, bad := e.Vote([]string{"yes", "*", "en", "joo", "um", "em"})
			return bad
		}, api.ErrArg},
		step{func(e *Engineer) api.Errno {
			_, bad := e.Vote([]string{"yes", "a b", "en", "joo", "um", "em"})
			return bad
		}, api.ErrArg},
		step{func(e *Engineer) api.Errno {
			_, bad := e.Vote(nil)
			return bad
		}, api.ErrArg},
		step{voted(longest + " q"), api.OK}, step{voted("* * * * * *"), api.OK}, step{voted("yes no en joo um em"), api.OK},
	)
}

// TestAllActsWereDone does as many acts as are allowed: after that all are ErrState, but those with wrong arguments.
func TestAllActsWereDone(t *testing.T) {
	e := opened(t, town(), allFor, "buy 1", "fail 0", "order 0")
	for range api.EngineerActs - 5 {
		mustStep(t, e, step{voted("no no joo joo om om"), api.OK})
	}
	mustStep(t, e, step{with((*Engineer).Break, 1), api.OK})
	mustStep(t, e,
		step{summer(65000, 60000, 200), api.ErrState}, step{summer(0, 0, 0), api.ErrState}, step{summer(-1, 0, 0), api.ErrArg},
		step{with((*Engineer).Jack, 0), api.ErrState}, step{with((*Engineer).Jack, 2), api.ErrArg},
		step{voted("yes yes en en um um"), api.ErrState}, step{voted("yes"), api.ErrArg},
		step{with((*Engineer).Buy, 0), api.ErrState}, step{with((*Engineer).Buy, 1), api.ErrState}, step{with((*Engineer).Buy, 4), api.ErrArg},
		step{with((*Engineer).Break, 0), api.ErrState}, step{with((*Engineer).Break, 4), api.ErrArg},
		step{with((*Engineer).Mend, 1), api.ErrState}, step{with((*Engineer).Mend, 4), api.ErrArg},
		step{reading(0, 0, 2700), api.ErrState}, step{reading(0, 0, 6400), api.ErrState}, step{reading(0, 0, 6401), api.ErrArg},
		step{with((*Engineer).Fail, 1), api.ErrState}, step{with((*Engineer).Fail, 2), api.ErrArg},
		step{with((*Engineer).Fix, 0), api.ErrState}, step{with((*Engineer).Fix, 2), api.ErrArg},
		step{with((*Engineer).Order, 1), api.ErrState}, step{with((*Engineer).Order, 3), api.ErrArg},
	)
	if result, bad := e.Vote(votes("yes yes en en um um")); bad != api.ErrState || result != (api.SpeakResult{}) {
		t.Error(result, bad)
	}
	if journal, _ := e.Journal(); strings.Count(journal, "\n") != api.EngineerActs {
		t.Error(journal)
	}
}

// TestErrorsAreNoActs does more lines that return errors than acts are allowed.
func TestErrorsAreNoActs(t *testing.T) {
	e := opened(t, town())
	for i := range 3 * api.EngineerActs {
		if _, bad := e.Do("buy " + strconv.Itoa(i%5)); bad == api.OK {
			t.Fatal(i)
		}
		if _, bad := e.Do("thaws"); bad != api.OK {
			t.Fatal(i, bad)
		}
	}
	mustStep(t, e, step{with((*Engineer).Fail, 0), api.OK})
}
