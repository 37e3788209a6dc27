package engineer

import (
	"math"
	"reflect"
	"slices"
	"testing"

	"talik/api"
)

// P10.9 (memory), and the rule R4

// spoil changes all memory that a value leads to, up to the capacity of each list.
func spoil(v reflect.Value) {
	switch v.Kind() {
	case reflect.Pointer:
		spoil(v.Elem())
	case reflect.Struct:
		for i := range v.NumField() {
			spoil(v.Field(i))
		}
	case reflect.Array:
		for i := range v.Len() {
			spoil(v.Index(i))
		}
	case reflect.Slice:
		v = v.Slice3(0, v.Cap(), v.Cap())
		for i := range v.Len() {
			spoil(v.Index(i))
		}
	case reflect.Int:
		v.SetInt(math.MinInt)
	case reflect.Bool:
		v.SetBool(!v.Bool())
	case reflect.String:
		v.SetString("spoiled")
	default:
		panic(v.Kind().String())
	}
}

// deepCopy returns a copy of a value that shares no memory with it.
func deepCopy(v reflect.Value) reflect.Value {
	c := reflect.New(v.Type()).Elem()
	switch v.Kind() {
	case reflect.Struct:
		for i := range v.NumField() {
			c.Field(i).Set(deepCopy(v.Field(i)))
		}
	case reflect.Slice:
		if !v.IsNil() {
			c.Set(reflect.MakeSlice(v.Type(), v.Len(), v.Len()))
		}
		for i := range v.Len() {
			c.Index(i).Set(deepCopy(v.Index(i)))
		}
	case reflect.Array:
		for i := range v.Len() {
			c.Index(i).Set(deepCopy(v.Index(i)))
		}
	default:
		c.Set(v)
	}
	return c
}

func copyOfTown(x api.EngineerTown) api.EngineerTown {
	return deepCopy(reflect.ValueOf(x)).Interface().(api.EngineerTown)
}

// TestTownsAreCopied changes all of a town that was opened, and of one that was replayed.
func TestTownsAreCopied(t *testing.T) {
	r := source()
	for range 30 {
		x := some(r)
		s := &slow{EngineerTown: copyOfTown(x)}
		for range 30 {
			s.do(someLine(r, s))
		}
		given, again := copyOfTown(x), copyOfTown(x)
		e := opened(t, given, s.done...)
		other := replayed(t, again, s.journal())
		if !reflect.DeepEqual(given, x) || !reflect.DeepEqual(again, x) {
			t.Fatal("a town was changed", given, x)
		}
		spoil(reflect.ValueOf(&given))
		spoil(reflect.ValueOf(&again))
		mustTell(t, e, s)
		mustTell(t, other, s)
		for range 20 {
			line := someLine(r, s)
			_, want := s.do(line)
			if _, bad := e.Do(line); bad != want {
				t.Fatal(line, bad, want)
			}
			if _, bad := other.Do(line); bad != want {
				t.Fatal(line, bad, want)
			}
		}
		mustTell(t, e, s)
		mustTell(t, other, s)
	}
}

// TestActsDoNotChangeTowns has the years of a town known better, which those of the argument must not be.
func TestActsDoNotChangeTowns(t *testing.T) {
	x := town()
	e := opened(t, x, oneOfEach...)
	if !reflect.DeepEqual(x, town()) {
		t.Error(x)
	}
	spoil(reflect.ValueOf(&e.EngineerTown))
	if !reflect.DeepEqual(x, town()) {
		t.Error("shared", x)
	}
}

// TestResultsAreCopies changes all that was returned.
func TestResultsAreCopies(t *testing.T) {
	e := opened(t, town(), oneOfEach...)
	mustStep(t, e, step{with((*Engineer).Fail, 0), api.OK}, step{with((*Engineer).Fix, 1), api.OK}, step{with((*Engineer).Break, 1), api.OK})
	before := seen(t, e)
	results := func() []any {
		thaws, _ := e.Thaws()
		levels, _ := e.Levels()
		uneven, _ := e.Uneven()
		words, _ := e.Cause(2)
		order, _, _ := e.Repairs(0)
		return []any{&thaws, &levels, &uneven, &words, &order}
	}
	first := results()
	copies := make([]any, len(first))
	for i, result := range first {
		v := reflect.ValueOf(result).Elem()
		if v.Len() == 0 {
			t.Fatal(i)
		}
		copies[i] = deepCopy(v).Interface()
	}
	second := results()
	for i := range second {
		spoil(reflect.ValueOf(second[i]))
	}
	for i, result := range first {
		if !reflect.DeepEqual(reflect.ValueOf(result).Elem().Interface(), copies[i]) {
			t.Error(i)
		}
	}
	if !slices.Equal(seen(t, e), before) {
		t.Error("a town was changed")
	}
}

// TestWordsAreCopied changes words that were voted with.
func TestWordsAreCopied(t *testing.T) {
	e := opened(t, town())
	words := votes("yes * en joo um em")
	if _, bad := e.Vote(words); bad != api.OK || !slices.Equal(words, votes("yes * en joo um em")) {
		t.Fatal(words, bad)
	}
	for i := range words {
		words[i] = "no"
	}
	if journal, _ := e.Journal(); journal != "vote yes * en joo um em\n" {
		t.Error(journal)
	}
}

// TestTownsAreApart does something in one of two towns that were opened with the same argument, and in one of two that were replayed.
func TestTownsAreApart(t *testing.T) {
	x := town()
	journal := "summer 65000 60000 200\n" + allFor + "\nread 0 0 2700\nfail 0\n"
	one, other := replayed(t, x, journal), replayed(t, x, journal)
	before := seen(t, other)
	for _, line := range []string{"summer 65000 60000 200", "buy 0", "read 0 1 2700", "fail 1", "order 0"} {
		if _, bad := one.Do(line); bad != api.OK {
			t.Fatal(line, bad)
		}
	}
	if !slices.Equal(seen(t, other), before) {
		t.Error("another town was changed")
	}
}
