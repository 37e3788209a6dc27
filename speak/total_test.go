package speak

import (
	"math"
	"math/rand/v2"
	"reflect"
	"slices"
	"strings"
	"testing"

	"talik/api"
)

// P0.1 (layer 9): every function terminates and does not panic, for all arguments; and the rules R2, R3, R4 and R8.

var odd = []int{math.MinInt, math.MinInt + 1, -2, -1, 0, 1, 2, 3, 4, 5, 6, 9, 10, 12, 13, 63, 64, 65, 99, 100, math.MaxInt - 1, math.MaxInt}

// oddInt returns mostly the number itself.
func oddInt[N ~int](r *rand.Rand, n N) N {
	if r.IntN(400) > 0 {
		return n
	}
	return N(odd[r.IntN(len(odd))])
}

// oddList returns a list that is mostly as it was.
func oddList[T any](r *rand.Rand, list []T) []T {
	switch n := r.IntN(60); {
	case n == 0 && len(list) > 0:
		return slices.Clone(list[:len(list)-1])
	case n == 1 && len(list) > 0:
		return slices.Repeat(list, 32)
	default:
		return slices.Clone(list)
	}
}

func oddMotion(r *rand.Rand, m []api.SpeakPart) []api.SpeakPart {
	o := oddList(r, m)
	for i, p := range o {
		o[i] = api.SpeakPart{Kind: oddInt(r, p.Kind), Act: oddInt(r, p.Act), Number: oddInt(r, p.Number), Thing: oddInt(r, p.Thing)}
	}
	return o
}

// arguments are those of all functions.
type arguments struct {
	m, n     []api.SpeakPart
	deeds    []api.SpeakDeed
	language int
	to       int
	text     string
	negative bool
	vote     api.SpeakVote
	council  api.SpeakCouncil
	words    []string
	river    []api.SpeakSpot
	kind     int
	steps    []api.SpeakStep
}

// valid returns arguments that are as defined.
func valid(r *rand.Rand) arguments {
	a := arguments{
		m:        someMotion(r, 31, 2, 2, 3),
		n:        someMotion(r, 15, 2, 2, 3),
		deeds:    someDeeds(r, 20, 2, 2, 4),
		language: upTo(r, 0, 2),
		to:       upTo(r, 0, 2),
		negative: r.IntN(2) == 0,
		vote:     api.SpeakVote(upTo(r, 1, 3)),
		council:  someCouncil(r),
		river:    someRiver(r),
		kind:     upTo(r, 1, 4),
		steps:    someSteps(r),
	}
	a.text = mustSlow(a.m).text(a.language)
	a.words = someWords(r, a.council)
	return a
}

// oddArguments returns arguments of which some are not as defined now and then.
func oddArguments(r *rand.Rand) arguments {
	a := valid(r)
	a.m, a.n, a.deeds = oddMotion(r, a.m), oddMotion(r, a.n), oddList(r, a.deeds)
	for i, d := range a.deeds {
		a.deeds[i] = api.SpeakDeed{Act: oddInt(r, d.Act), Number: oddInt(r, d.Number), Thing: oddInt(r, d.Thing)}
	}
	a.language, a.to = oddInt(r, a.language), oddInt(r, a.to)
	if i := r.IntN(len(a.text) + 1); r.IntN(4) == 0 {
		a.text = a.text[:i] + string(byte(r.IntN(256))) + a.text[i:]
	}
	if r.IntN(100) == 0 {
		a.text = strings.Repeat(a.text, 100)
	}
	a.vote, a.kind = oddInt(r, a.vote), oddInt(r, a.kind)
	a.council.Languages, a.words = oddList(r, a.council.Languages), oddList(r, a.words)
	for i, language := range a.council.Languages {
		a.council.Languages[i] = oddInt(r, language)
	}
	a.council.Quorum, a.council.Rule = oddInt(r, a.council.Quorum), oddInt(r, a.council.Rule)
	a.river, a.steps = oddList(r, a.river), oddList(r, a.steps)
	for i := range a.river {
		a.river[i].Kind = oddInt(r, a.river[i].Kind)
	}
	for i, s := range a.steps {
		a.steps[i] = api.SpeakStep{Count: oddInt(r, s.Count), Kind: oddInt(r, s.Kind), Up: s.Up, Bank: oddInt(r, s.Bank)}
	}
	return a
}

func (a arguments) clone() arguments {
	a.m, a.n, a.deeds = slices.Clone(a.m), slices.Clone(a.n), slices.Clone(a.deeds)
	a.council.Languages, a.words = slices.Clone(a.council.Languages), slices.Clone(a.words)
	a.river, a.steps = slices.Clone(a.river), slices.Clone(a.steps)
	return a
}

// results are all that the functions return.
type results struct {
	check      api.Errno
	holds      bool
	holdsE     api.Errno
	apart      []api.SpeakDeed
	apartE     api.Errno
	print      string
	printE     api.Errno
	read       []api.SpeakPart
	readE      api.Errno
	translate  string
	translateE api.Errno
	word       string
	wordE      api.Errno
	count      api.SpeakResult
	countE     api.Errno
	find       []int
	findE      api.Errno
}

func callAll(a arguments) results {
	var x results
	x.check = Check(a.m)
	x.holds, x.holdsE = Holds(a.m, a.deeds)
	x.apart, x.apartE = Apart(a.m, a.n)
	x.print, x.printE = Print(a.m, a.language)
	x.read, x.readE = Read(a.text, a.language)
	x.translate, x.translateE = Translate(a.text, a.language, a.to)
	x.word, x.wordE = Word(a.language, a.negative, a.vote)
	x.count, x.countE = Count(a.council, a.words)
	x.find, x.findE = Find(a.river, a.kind, a.steps)
	return x
}

// toldError is an error, and whether the other results are zero values.
type toldError struct {
	e    api.Errno
	zero bool
}

func (x results) errors() map[string]toldError {
	return map[string]toldError{
		"Check":     {x.check, true},
		"Holds":     {x.holdsE, !x.holds},
		"Apart":     {x.apartE, x.apart == nil},
		"Print":     {x.printE, x.print == ""},
		"Read":      {x.readE, x.read == nil},
		"Translate": {x.translateE, x.translate == ""},
		"Word":      {x.wordE, x.word == ""},
		"Count":     {x.countE, x.count == api.SpeakResult{}},
		"Find":      {x.findE, x.find == nil},
	}
}

// mayReturn are the errors that each function may return.
var mayReturn = map[string][]api.Errno{
	"Check":     {api.OK, api.ErrLong, api.ErrArg},
	"Holds":     {api.OK, api.ErrLong, api.ErrArg},
	"Apart":     {api.OK, api.ErrLong, api.ErrArg, api.ErrOpen, api.ErrNone},
	"Print":     {api.OK, api.ErrLong, api.ErrArg},
	"Read":      {api.OK, api.ErrLong, api.ErrArg, api.ErrText},
	"Translate": {api.OK, api.ErrLong, api.ErrArg, api.ErrText},
	"Word":      {api.OK, api.ErrArg},
	"Count":     {api.OK, api.ErrArg},
	"Find":      {api.OK, api.ErrLong, api.ErrArg, api.ErrNone},
}

// mustBeTotal calls all functions, and fails if a result with an error is no zero value, or an error is none of the function's. It returns the errors.
func mustBeTotal(t *testing.T, a arguments) map[string]toldError {
	t.Helper()
	all := callAll(a).errors()
	for name, is := range all {
		if is.e != api.OK && !is.zero || !slices.Contains(mayReturn[name], is.e) {
			t.Fatal(name, a, is)
		}
	}
	return all
}

func TestAllArguments(t *testing.T) {
	r := source()
	seen := map[string]map[api.Errno]int{}
	for name := range mayReturn {
		seen[name] = map[api.Errno]int{}
	}
	for range 8000 {
		for name, is := range mustBeTotal(t, oddArguments(r)) {
			seen[name][is.e]++
		}
	}
	for name, all := range mayReturn {
		for _, e := range all {
			if seen[name][e] < 10 {
				t.Error(name, e, seen[name])
			}
		}
	}
}

// TestAnyNumbers has no number that was chosen to be one that is allowed.
func TestAnyNumbers(t *testing.T) {
	r := source()
	any := func() int { return odd[r.IntN(len(odd))] }
	list := func() []int {
		var l []int
		for range r.IntN(40) {
			l = append(l, any())
		}
		return l
	}
	for range 3000 {
		a := arguments{language: any(), to: any(), vote: api.SpeakVote(any()), kind: any()}
		for _, n := range list() {
			a.m = append(a.m, api.SpeakPart{Kind: api.SpeakKind(n), Act: any(), Number: any(), Thing: any()})
			a.n = append(a.n, api.SpeakPart{Kind: api.SpeakKind(any())})
			a.deeds = append(a.deeds, done(any(), any(), any()))
			a.words = append(a.words, string(rune(any())))
			a.river = append(a.river, api.SpeakSpot{Kind: any()})
			a.steps = append(a.steps, api.SpeakStep{Count: any(), Kind: any(), Up: n > 2, Bank: any()})
			a.text += string([]byte{byte(any()), byte(r.IntN(256))})
		}
		a.council = api.SpeakCouncil{Languages: list(), Quorum: any(), Rule: api.SpeakRule(any())}
		mustBeTotal(t, a)
	}
}

// TestAnyBytes reads texts of any bytes, and of any words.
func TestAnyBytes(t *testing.T) {
	r := source()
	words := strings.Fields("build 3 houses not and or ( ) tupa 4 rako ei ja vai kir5a pan6o ku le no")
	for range 5000 {
		var text strings.Builder
		for range r.IntN(620) {
			text.WriteByte(byte(r.IntN(256)))
		}
		a := arguments{text: text.String(), language: upTo(r, 0, 2), to: upTo(r, 0, 2)}
		mustBeTotal(t, a)
		text.Reset()
		for range r.IntN(150) {
			text.WriteString(words[r.IntN(len(words))])
			text.WriteByte(' ')
		}
		a.text = strings.TrimSuffix(text.String(), " ")
		mustBeTotal(t, a)
	}
}

func TestNothingAtAll(t *testing.T) {
	want := results{check: 2, holdsE: 2, apartE: 2, printE: 2, readE: 4, translateE: 4, wordE: 2, countE: 2, findE: 2}
	if x := callAll(arguments{}); !reflect.DeepEqual(x, want) {
		t.Error(x)
	}
}

func TestNilAndEmptyAreTheSame(t *testing.T) {
	full := arguments{m: deny(do(1, 1, 1)), n: do(1, 1, 1), vote: 1, council: council(1, 0, 0), words: []string{"yes"}, kind: 1}
	for _, a := range []arguments{full, {kind: 1}, {}} {
		b := a
		if len(a.m) == 0 {
			b.m, b.n, b.council.Languages, b.words = []api.SpeakPart{}, []api.SpeakPart{}, []int{}, []string{}
		}
		b.deeds, b.river, b.steps = []api.SpeakDeed{}, []api.SpeakSpot{}, []api.SpeakStep{}
		if x, y := callAll(a), callAll(b); !reflect.DeepEqual(x, y) {
			t.Error(a, x, y)
		}
	}
	if x := callAll(full); !x.holds || x.apartE != api.OK || len(x.apart) > 0 || x.findE != api.ErrNone {
		t.Error(x)
	}
}

// spoil changes all that a list shares memory with.
func spoil[T any](list []T, with T) {
	list = list[:cap(list)]
	for i := range list {
		list[i] = with
	}
}

func TestNothingIsChangedAndCallsRepeat(t *testing.T) {
	r := source()
	good := map[string]int{}
	for range 2000 {
		a := valid(r)
		before := a.clone()
		x := callAll(a)
		if !reflect.DeepEqual(a, before) {
			t.Fatal("an argument was changed", a, before, x)
		}
		for name, is := range x.errors() {
			if is.e == api.OK {
				good[name]++
			}
		}
		y := callAll(a)
		if !reflect.DeepEqual(x, y) {
			t.Fatal("the calls do not repeat", a, x, y)
		}
		spoil(y.apart, done(-1, -1, -1))
		spoil(y.read, api.SpeakPart{Kind: -1})
		spoil(y.find, -1)
		if !reflect.DeepEqual(a, before) {
			t.Fatal("a result shares memory with an argument", a, before)
		}
		if z := callAll(a); !reflect.DeepEqual(x, z) {
			t.Fatal(a, x, z)
		}
	}
	for name := range mayReturn {
		if good[name] < 300 {
			t.Error(name, good[name])
		}
	}
}
