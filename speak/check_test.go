package speak

import (
	"slices"
	"testing"

	"talik/api"
)

// P9.1 (Check, Holds)

func TestCheckEdges(t *testing.T) {
	for name, m := range map[string][]api.SpeakPart{
		"the chapter's":         motionM(),
		"a clause":              do(build, 3, houses),
		"the least of all":      do(1, 1, 1),
		"the greatest of all":   do(4, 99, 4),
		"not":                   deny(do(1, 1, 1)),
		"30 times not":          slices.Concat(slices.Repeat(deny(nil), 30), do(1, 1, 1)),
		"16 clauses":            chain(api.SpeakAnd, 16, false),
		"16 clauses, backwards": chain(api.SpeakOr, 16, true),
		"the longest text":      longest(),
	} {
		if e := Check(m); e != api.OK {
			t.Error(name, e)
		}
	}
}

// tooLong returns lists of more parts than are allowed.
func tooLong() map[string][]api.SpeakPart {
	return map[string][]api.SpeakPart{
		"32 parts":           deny(longest()),
		"33 parts":           both(longest(), do(1, 1, 1)),
		"32 clauses":         slices.Repeat(do(1, 1, 1), 32),
		"32 parts of no use": make([]api.SpeakPart, 32),
		"a million parts":    make([]api.SpeakPart, 1000000),
		"a million links":    slices.Repeat(either(nil, nil), 1000000),
	}
}

func TestCheckErrors(t *testing.T) {
	bad, long := badMotions(), tooLong()
	for _, name := range namesIn(bad) {
		if e := Check(bad[name]); e != api.ErrArg {
			t.Error(name, e)
		}
	}
	for _, name := range namesIn(long) {
		if e := Check(long[name]); e != api.ErrLong {
			t.Error(name, e)
		}
	}
	if e := Check(slices.Repeat(do(1, 1, 1), 31)); e != api.ErrArg {
		t.Error(e)
	}
}

// lists returns all lists of so many of some parts.
func lists(of []api.SpeakPart, many int) [][]api.SpeakPart {
	all := [][]api.SpeakPart{nil}
	for range many {
		var longer [][]api.SpeakPart
		for _, list := range all {
			for _, part := range of {
				longer = append(longer, append(slices.Clone(list), part))
			}
		}
		all = longer
	}
	return all
}

func TestCheckOfAllLists(t *testing.T) {
	parts := slices.Concat(do(1, 1, 1), deny(nil), both(nil, nil), either(nil, nil))
	motions, others := 0, 0
	for many := range 8 {
		for _, list := range lists(parts, many) {
			_, is := slowOf(list)
			if e := Check(list); (e == api.OK) != is || !is && e != api.ErrArg {
				t.Fatal(list, is, e)
			}
			if is {
				motions++
			} else {
				others++
			}
		}
	}
	if motions < 200 || others < 20000 {
		t.Error(motions, others)
	}
}

func TestCheckOfChangedMotions(t *testing.T) {
	r := source()
	motions, others := 0, 0
	for range 3000 {
		m := large(r)
		i := r.IntN(len(m))
		switch r.IntN(5) {
		case 0:
			m[i].Kind = api.SpeakKind(upTo(r, -1, 6))
		case 1:
			m[i].Act = upTo(r, -1, 6)
		case 2:
			m[i].Number = upTo(r, -1, 100)
		case 3:
			m[i].Thing = upTo(r, -1, 6)
		default:
			m[i] = m[r.IntN(len(m))]
		}
		_, is := slowOf(m)
		if e := Check(m); (e == api.OK) != is || !is && e != api.ErrArg {
			t.Fatal(m, is, e)
		}
		if is {
			motions++
		} else {
			others++
		}
	}
	if motions < 500 || others < 500 {
		t.Error(motions, others)
	}
}

func TestHoldsExamples(t *testing.T) {
	for _, x := range []struct {
		deeds []api.SpeakDeed
		want  bool
	}{
		{[]api.SpeakDeed{done(build, 4, houses)}, true},
		{[]api.SpeakDeed{done(build, 4, houses), done(shut, 2, roads)}, false},
		{[]api.SpeakDeed{done(shut, 9, roads), done(pay, 5, lakes)}, true},
	} {
		if got, e := Holds(motionM(), x.deeds); e != api.OK || got != x.want {
			t.Error(x.deeds, got, e)
		}
	}
}

func TestHoldsEdges(t *testing.T) {
	a, b := do(build, 3, houses), do(shut, 2, roads)
	just, other := done(build, 3, houses), done(shut, 2, roads)
	for _, x := range []struct {
		name  string
		m     []api.SpeakPart
		deeds []api.SpeakDeed
		want  bool
	}{
		{"no deeds", a, nil, false},
		{"not, and no deeds", deny(a), nil, true},
		{"just as many", a, []api.SpeakDeed{just}, true},
		{"one less", a, []api.SpeakDeed{done(build, 2, houses)}, false},
		{"one more", a, []api.SpeakDeed{done(build, 4, houses)}, true},
		{"many more", a, []api.SpeakDeed{done(build, 99, houses)}, true},
		{"twice one less", a, []api.SpeakDeed{done(build, 2, houses), done(build, 2, houses)}, false},
		{"one less, and more than enough", a, []api.SpeakDeed{done(build, 2, houses), done(build, 4, houses)}, true},
		{"more than enough, and one less", a, []api.SpeakDeed{done(build, 4, houses), done(build, 2, houses)}, true},
		{"another act", a, []api.SpeakDeed{done(move, 3, houses)}, false},
		{"another thing", a, []api.SpeakDeed{done(build, 3, roads)}, false},
		{"act and thing of two deeds", a, []api.SpeakDeed{done(build, 3, roads), done(move, 3, houses)}, false},
		{"the second deed", a, []api.SpeakDeed{other, just}, true},
		{"not", deny(a), []api.SpeakDeed{just}, false},
		{"twice not", deny(deny(a)), []api.SpeakDeed{just}, true},
		{"and: neither", both(a, b), nil, false},
		{"and: the first one", both(a, b), []api.SpeakDeed{just}, false},
		{"and: the second one", both(a, b), []api.SpeakDeed{other}, false},
		{"and: both", both(a, b), []api.SpeakDeed{other, just}, true},
		{"or: neither", either(a, b), nil, false},
		{"or: the first one", either(a, b), []api.SpeakDeed{just}, true},
		{"or: the second one", either(a, b), []api.SpeakDeed{other}, true},
		{"or: both", either(a, b), []api.SpeakDeed{just, other}, true},
		{"never", both(a, deny(a)), []api.SpeakDeed{just}, false},
		{"always", either(a, deny(a)), nil, true},
		{"20 deeds", a, append(slices.Repeat([]api.SpeakDeed{other}, 19), just), true},
	} {
		if got, e := Holds(x.m, x.deeds); e != api.OK || got != x.want {
			t.Error(x.name, got, e)
		}
	}
}

func TestHoldsErrors(t *testing.T) {
	bad, long, deeds := badMotions(), tooLong(), badDeeds()
	always := either(do(1, 1, 1), deny(do(1, 1, 1)))
	for _, name := range namesIn(bad) {
		if got, e := Holds(bad[name], nil); e != api.ErrArg || got {
			t.Error(name, got, e)
		}
		if got, e := Holds(bad[name], make([]api.SpeakDeed, 21)); e != api.ErrLong || got {
			t.Error(name, got, e)
		}
	}
	for _, name := range namesIn(long) {
		if got, e := Holds(long[name], make([]api.SpeakDeed, 1)); e != api.ErrLong || got {
			t.Error(name, got, e)
		}
	}
	for _, name := range namesIn(deeds) {
		for _, list := range [][]api.SpeakDeed{{deeds[name]}, {deeds[name], done(1, 1, 1)}, {done(1, 1, 1), deeds[name]}} {
			if got, e := Holds(always, list); e != api.ErrArg || got {
				t.Error(name, got, e)
			}
		}
	}
	if got, e := Holds(always, slices.Repeat([]api.SpeakDeed{done(1, 1, 1)}, 21)); e != api.ErrLong || got {
		t.Error(got, e)
	}
}

func TestHoldsSlowly(t *testing.T) {
	r := source()
	seen := map[bool]int{}
	for range 3000 {
		m := someMotion(r, 31, 2, 2, 5)
		deeds := someDeeds(r, 8, 2, 2, 6)
		want := mustSlow(m).holds(deeds)
		if got, e := Holds(m, deeds); e != api.OK || got != want {
			t.Fatal(m, deeds, got, e)
		}
		seen[want]++
	}
	if seen[true] < 500 || seen[false] < 500 {
		t.Error(seen)
	}
}
