package speak

import (
	"slices"
	"testing"

	"talik/api"
)

// P9.2 (Apart)

func TestApartExamples(t *testing.T) {
	want := []api.SpeakDeed{done(build, 3, houses)}
	if got, e := Apart(do(build, 3, houses), do(build, 4, houses)); e != api.OK || !slices.Equal(got, want) {
		t.Error(got, e)
	}
	other := either(do(pay, 5, lakes), both(do(build, 3, houses), deny(do(shut, 2, roads))))
	if got, e := Apart(motionM(), other); e != api.ErrNone || got != nil {
		t.Error(got, e)
	}
}

func TestApartEdges(t *testing.T) {
	a, b, c := do(build, 3, houses), do(build, 5, houses), do(build, 2, roads)
	d := do(move, 1, houses)
	never := both(a, deny(a))
	for _, x := range []struct {
		name string
		m, n []api.SpeakPart
		want []api.SpeakDeed
		e    api.Errno
	}{
		{"the same", a, a, nil, api.ErrNone},
		{"denied", a, deny(a), nil, api.OK},
		{"denied, and both are denied", deny(a), deny(deny(a)), nil, api.OK},
		{"denied, with others", both(deny(b), deny(c)), never, nil, api.OK},
		{"never", never, both(b, deny(b)), nil, api.ErrNone},
		{"never and always", never, either(c, deny(c)), nil, api.OK},
		{"hardly ever and never", both(a, deny(b)), never, []api.SpeakDeed{done(build, 3, houses)}, api.OK},
		{"more is asked for", a, b, []api.SpeakDeed{done(build, 3, houses)}, api.OK},
		{"less is asked for", b, a, []api.SpeakDeed{done(build, 3, houses)}, api.OK},
		{"what holds anyway", a, either(a, b), nil, api.ErrNone},
		{"what holds anyway, too", b, both(a, b), nil, api.ErrNone},
		{"a greater number", either(a, c), either(b, either(a, c)), nil, api.ErrNone},
		{"only with the greater number", both(c, b), both(c, both(a, deny(a))), []api.SpeakDeed{done(build, 5, houses), done(build, 2, roads)}, api.OK},
		{"the later pair alone", either(a, c), a, []api.SpeakDeed{done(build, 2, roads)}, api.OK},
		{"the later pair first", either(c, b), never, []api.SpeakDeed{done(build, 2, roads)}, api.OK},
		{"acts before things", either(c, d), never, []api.SpeakDeed{done(move, 1, houses)}, api.OK},
		{"things after acts", either(d, c), d, []api.SpeakDeed{done(build, 2, roads)}, api.OK},
		{"no deed comes before a lesser number", either(both(a, deny(b)), both(b, c)), never, []api.SpeakDeed{done(build, 3, houses)}, api.OK},
		{"the lesser number with more deeds", either(both(a, both(deny(b), c)), b), never, []api.SpeakDeed{done(build, 3, houses), done(build, 2, roads)}, api.OK},
		{"all pairs", both(d, both(c, a)), never, []api.SpeakDeed{done(build, 3, houses), done(build, 2, roads), done(move, 1, houses)}, api.OK},
		{"10 clauses, backwards", chain(api.SpeakAnd, 10, false), backwards(10), nil, api.ErrNone},
		{"10 clauses, of which one is left out", chain(api.SpeakAnd, 10, false), backwards(9), firstPairs(9), api.OK},
		{"11 clauses", chain(api.SpeakAnd, 11, false), chain(api.SpeakAnd, 11, false), nil, api.ErrOpen},
		{"11 clauses of both", chain(api.SpeakAnd, 10, false), do(4, 99, 4), nil, api.ErrOpen},
		{"11 clauses with one pair", either(chain(api.SpeakOr, 10, false), do(build, 2, houses)), a, nil, api.ErrOpen},
		{"a clause many times", slices.Concat(slices.Repeat(both(nil, nil), 15), slices.Repeat(a, 16)), a, nil, api.ErrNone},
	} {
		if got, e := Apart(x.m, x.n); e != x.e || !slices.Equal(got, x.want) {
			t.Error(x.name, got, e)
		}
	}
}

// backwards returns a chain of so many clauses by SpeakAnd, the last one of which comes first.
func backwards(clauses int) []api.SpeakPart {
	var all []api.SpeakPart
	for _, d := range clausesOf(chain(api.SpeakAnd, clauses, false)) {
		all = slices.Concat(do(d.Act, d.Number, d.Thing), all)
	}
	return slices.Concat(slices.Repeat(both(nil, nil), clauses-1), all)
}

// firstPairs returns a deed for each of the first pairs of an act and a thing.
func firstPairs(many int) []api.SpeakDeed {
	var all []api.SpeakDeed
	for i := range many {
		all = append(all, done(1+i/4, 1, 1+i%4))
	}
	return all
}

func TestApartErrors(t *testing.T) {
	bad, long := badMotions(), tooLong()
	a := do(1, 1, 1)
	for _, name := range namesIn(bad) {
		for _, x := range [][2][]api.SpeakPart{{bad[name], a}, {a, bad[name]}, {bad[name], bad[name]}} {
			if got, e := Apart(x[0], x[1]); e != api.ErrArg || got != nil {
				t.Error(name, got, e)
			}
		}
		for _, x := range [][2][]api.SpeakPart{{bad[name], deny(longest())}, {deny(longest()), bad[name]}} {
			if got, e := Apart(x[0], x[1]); e != api.ErrLong || got != nil {
				t.Error(name, got, e)
			}
		}
	}
	for _, name := range namesIn(long) {
		for _, x := range [][2][]api.SpeakPart{{long[name], a}, {a, long[name]}} {
			if got, e := Apart(x[0], x[1]); e != api.ErrLong || got != nil {
				t.Error(name, got, e)
			}
		}
	}
	if got, e := Apart(chain(api.SpeakOr, 11, true), nil); e != api.ErrArg || got != nil {
		t.Error(got, e)
	}
}

func TestApartSlowly(t *testing.T) {
	r := source()
	seen, many := map[api.Errno]int{}, 0
	for i := range 2000 {
		parts, acts, numbers := upTo(r, 1, 15), upTo(r, 1, 2), upTo(r, 1, 4)
		if i%20 == 0 {
			parts, acts, numbers = 31, 4, 3
		}
		m := someMotion(r, parts, acts, 2, numbers)
		n := someMotion(r, parts, acts, 2, numbers)
		if i%4 == 0 { // so that few deeds tell them apart
			n = exchanged(r, m)
			n[len(n)-1].Number = upTo(r, 1, numbers)
		}
		want, e := slowApart(m, n)
		if got, gotE := Apart(m, n); gotE != e || !slices.Equal(got, want) {
			t.Fatal(m, n, got, gotE, want, e)
		}
		seen[e]++
		if len(want) > 2 {
			many++
		}
	}
	if seen[api.OK] < 1000 || seen[api.ErrNone] < 200 || seen[api.ErrOpen] < 10 || many < 20 {
		t.Error(seen, many)
	}
}

// tellsApart reports whether one of two motions holds for deeds, and the other one does not.
func tellsApart(t *testing.T, m, n []api.SpeakPart, deeds []api.SpeakDeed) bool {
	t.Helper()
	one, e := Holds(m, deeds)
	other, otherE := Holds(n, deeds)
	if e != api.OK || otherE != api.OK {
		t.Fatal(m, n, deeds, e, otherE)
	}
	return one != other
}

// TestNoDeedsTellTheSameApart proposes deeds for motions that mean the same, and asks for those that are told of others.
func TestNoDeedsTellTheSameApart(t *testing.T) {
	r := source()
	same, others := 0, 0
	for range 1500 {
		m := someMotion(r, 9, 2, 1, 3)
		n := someMotion(r, 9, 2, 1, 3)
		if r.IntN(4) == 0 {
			n = exchanged(r, m)
		}
		deeds, e := Apart(m, n)
		if e == api.OK {
			others++
			if !tellsApart(t, m, n, deeds) {
				t.Fatal(m, n, deeds)
			}
			continue
		}
		if e != api.ErrNone {
			t.Fatal(m, n, e)
		}
		same++
		for range 50 {
			if proposed := someDeeds(r, 6, 2, 2, 5); tellsApart(t, m, n, proposed) {
				t.Fatal(m, n, proposed)
			}
		}
		for first := range 5 {
			for second := range 5 {
				proposed := []api.SpeakDeed{done(1, first, 1), done(2, second, 1)}
				proposed = slices.DeleteFunc(proposed, func(d api.SpeakDeed) bool { return d.Number == 0 })
				if tellsApart(t, m, n, proposed) {
					t.Fatal(m, n, proposed)
				}
			}
		}
	}
	if same < 300 || others < 500 {
		t.Error(same, others)
	}
}
