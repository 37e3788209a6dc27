package sense

import (
	"math/rand/v2"
	"slices"
	"testing"

	"talik/api"
)

// P5.6 (consequences)

// explained returns which of all explanations agree with readings.
func explained(t *testing.T, s api.SenseString, l []api.SenseReading) []bool {
	t.Helper()
	var all []bool
	for _, c := range allCauses(s) {
		all = append(all, explains(t, s, l, c))
	}
	return all
}

func TestMoreCausesStillAgree(t *testing.T) {
	r := source()
	more := 0
	for range 100 {
		s := small(r)
		all := allCauses(s.SenseString)
		agree := explained(t, s.SenseString, s.readings)
		for i, c := range all {
			for j, other := range all {
				if !contains(s.SenseString, other, c) {
					continue
				}
				if agree[i] && !agree[j] {
					t.Fatal("more causes do not agree", s, c, other)
				}
				if !agree[i] && agree[j] {
					more++
				}
			}
		}
	}
	if more < 100 {
		t.Error(more)
	}
}

// another returns a reading more for a string: mostly one that agrees with its truth.
func another(r *rand.Rand, s some) api.SenseReading {
	x := read(r, s.SenseString, s.truth, 12)
	if r.IntN(3) == 0 {
		x.Temp = min(6400, max(0, x.Temp+r.IntN(21)-10))
	}
	return x
}

func TestAReadingMoreMakesNothingAgree(t *testing.T) {
	r := source()
	less, fewest := 0, 0
	for range 80 {
		s := small(r)
		if len(s.readings) == api.SenseReadings {
			continue
		}
		at := r.IntN(len(s.readings) + 1)
		more := slices.Insert(slices.Clone(s.readings), at, another(r, s))
		before, after := explained(t, s.SenseString, s.readings), explained(t, s.SenseString, more)
		for i := range before {
			if after[i] && !before[i] {
				t.Fatal("a reading more makes an explanation agree", s, more, i)
			}
			if before[i] && !after[i] {
				less++
			}
		}
		a, e := Least(s.SenseString, s.readings)
		if e != api.OK {
			continue
		}
		if b, e := Least(s.SenseString, more); e == api.OK && count(b[0]) < count(a[0]) {
			t.Fatal("fewer causes explain more", s, more, a, b)
		} else if e == api.OK && count(b[0]) > count(a[0]) {
			fewest++
		}
	}
	if less < 100 || fewest < 3 {
		t.Error(less, fewest)
	}
}

func TestAReadingMoreWidensNoBounds(t *testing.T) {
	r := source()
	narrower, none := 0, 0
	for range 400 {
		s := small(r)
		more := append(slices.Clone(s.readings), another(r, s))
		most, depth, week := r.IntN(len(s.At)+s.Depths+1), r.IntN(s.Depths), r.IntN(30)
		a, e := Where(s.SenseString, s.readings, most, depth, week)
		b, late := Where(s.SenseString, more, most, depth, week)
		if e != api.OK {
			if late != e {
				t.Fatal(s, more, most, depth, week, b, late)
			}
			continue
		}
		if late != api.OK {
			none++
			continue
		}
		if whole(a, b) != a {
			t.Fatal("the bounds are wider", s, more, most, depth, week, a, b)
		}
		if a != b {
			narrower++
		}
	}
	if narrower < 30 || none < 5 {
		t.Error(narrower, none)
	}
}

func TestMoreCausesNarrowNoBounds(t *testing.T) {
	r := source()
	wider := 0
	for range 200 {
		s := small(r)
		depth, week := r.IntN(s.Depths), r.IntN(30)
		var before api.Span
		known := false
		for most := range len(s.At) + s.Depths + 1 {
			now, e := Where(s.SenseString, s.readings, most, depth, week)
			if known && (e != api.OK || whole(before, now) != now) {
				t.Fatal(s, most, depth, week, before, now, e)
			}
			if known && before != now {
				wider++
			}
			before, known = now, e == api.OK
		}
	}
	if wider < 100 {
		t.Error(wider)
	}
}

// TestTheOrderOfReadingsDoesNotMatter also has readings that are made twice.
func TestTheOrderOfReadingsDoesNotMatter(t *testing.T) {
	r := source()
	for range 50 {
		s := small(r)
		other := slices.Concat(s.readings, s.readings)
		r.Shuffle(len(other), func(i, j int) { other[i], other[j] = other[j], other[i] })
		if !slices.Equal(explained(t, s.SenseString, s.readings), explained(t, s.SenseString, other)) {
			t.Fatal(s, other)
		}
	}
}
