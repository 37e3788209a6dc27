package sense

import (
	"math"
	"math/rand/v2"
	"slices"
	"testing"

	"talik/api"
)

// P5.4 (Known, Where)

// words returns a list of words: n for not, m for may, s for surely.
func words(letters string) []api.SenseWord {
	var l []api.SenseWord
	for _, c := range letters {
		switch c {
		case 'n':
			l = append(l, api.SenseNot)
		case 'm':
			l = append(l, api.SenseMay)
		case 's':
			l = append(l, api.SenseSurely)
		}
	}
	return l
}

func TestKnownExample(t *testing.T) {
	for i, x := range []struct {
		l    []api.SenseReading
		most int
		want string
		e    api.Errno
	}{
		{longer(), 1, "snnnn", api.OK},
		{longer(), 2, "mmmmm", api.OK},
		{longer(), 3, "mmmmm", api.OK},
		{longer(), 5, "mmmmm", api.OK},
		{longer(), 0, "", api.ErrNone},
		{shorter(), 1, "mnnmn", api.OK},
		{shorter(), 0, "", api.ErrNone},
		{nil, 0, "nnnnn", api.OK},
		{nil, 1, "mmmmm", api.OK},
	} {
		if got, e := Known(hung(), x.l, x.most); e != x.e || !slices.Equal(got, words(x.want)) {
			t.Error(i, got, e)
		}
	}
}

func TestKnownOfSurelyWarmGround(t *testing.T) {
	s := api.SenseString{Drift: 1, Warm: 2, Depths: 2, At: []int{1, 0}}
	l := []api.SenseReading{{Temp: 2500}, {Week: 1, Temp: 2502}}
	for most, want := range []string{"", "nnns", "mmms", "mmms", "mmms"} {
		if got, e := Known(s, l, most); (e == api.OK) != (most > 0) || !slices.Equal(got, words(want)) {
			t.Error(most, got, e)
		}
	}
	s.Warm = 1
	for most, want := range []string{"", "", "snns", "smms", "smms"} {
		if got, e := Known(s, l, most); (e == api.OK) != (most > 1) || !slices.Equal(got, words(want)) {
			t.Error(most, got, e)
		}
	}
	s.Drift = 0
	for most := range 5 {
		if got, e := Known(s, l, most); e != api.ErrNone || got != nil {
			t.Error(most, got, e)
		}
	}
}

func TestWhereExample(t *testing.T) {
	for i, x := range []struct {
		l                 []api.SenseReading
		most, depth, week int
		want              api.Span
		e                 api.Errno
	}{
		{longer(), 1, 0, 10, sp(2700, 2702), api.OK},
		{longer(), 1, 0, 0, sp(2700, 2702), api.OK},
		{longer(), 1, 1, 20, sp(2649, 2652), api.OK},
		{shorter(), 1, 0, 20, sp(2699, 2742), api.OK},
		{longer(), 0, 0, 0, api.Span{}, api.ErrNone},
		// the sensor 2 can drift by 2 downward, and the depth warm by as much
		{longer(), 2, 1, 10, sp(2649, 2652), api.OK},
		{longer(), 3, 1, 10, sp(2629, 2672), api.OK},
		{nil, 0, 0, 200, sp(2000, 3200), api.OK},
		{nil, 1, 0, 0, sp(2000, 3200), api.OK},
		{nil, 1, 1, 200, sp(1600, 3600), api.OK},
	} {
		if got, e := Where(hung(), x.l, x.most, x.depth, x.week); got != x.want || e != x.e {
			t.Error(i, got, e)
		}
	}
}

// TestWhereIsBoundedInTheWeekNoughtOnly has ground that can be colder and warmer later than it can be in the week 0.
func TestWhereIsBoundedInTheWeekNoughtOnly(t *testing.T) {
	s := api.SenseString{Error: 100, Drift: 20, Warm: 20, Depths: 2, At: []int{0}}
	for i, x := range []struct {
		l                 []api.SenseReading
		most, depth, week int
		want              api.Span
	}{
		{nil, 0, 0, 200, sp(2000, 3200)},
		{nil, 3, 0, 200, sp(-2000, 7200)},
		{nil, 3, 1, 1, sp(1980, 3220)},
		{[]api.SenseReading{{Temp: 1900}}, 0, 0, 7, sp(2000, 2000)},
		{[]api.SenseReading{{Temp: 1900}}, 1, 0, 7, sp(1860, 2140)},
		{[]api.SenseReading{{Temp: 3299}}, 1, 0, 0, sp(3199, 3200)},
		{[]api.SenseReading{{Week: 200, Temp: 6400}}, 1, 0, 200, sp(2300, 6500)}, // the sensor drifts, or the depth warms
		{[]api.SenseReading{{Week: 200, Temp: 6400}}, 1, 0, 0, sp(2300, 3200)},
		{[]api.SenseReading{{Week: 200, Temp: 6400}}, 2, 0, 200, sp(2300, 7200)},
	} {
		if got, e := Where(s, x.l, x.most, x.depth, x.week); got != x.want || e != api.OK {
			t.Error(i, got, e)
		}
	}
}

func TestKnownErrors(t *testing.T) {
	testErrors(t, func(s api.SenseString, l []api.SenseReading) (bool, api.Errno) {
		words, e := Known(s, l, 1)
		bounds, same := Where(s, l, 1, 0, 0)
		if e != same {
			t.Error(s, l, e, same)
		}
		return words == nil && bounds == api.Span{}, e
	})
	for _, l := range [][]api.SenseReading{nil, longer(), longer()[:2], make([]api.SenseReading, 25)} {
		want := api.ErrArg
		if len(l) == 25 {
			want = api.ErrLong
		}
		for _, most := range []int{math.MinInt, -1, 6, 7, 64, math.MaxInt} {
			if got, e := Known(hung(), l, most); got != nil || e != want {
				t.Error(most, got, e)
			}
			if got, e := Where(hung(), l, most, 0, 0); got != (api.Span{}) || e != want {
				t.Error(most, got, e)
			}
		}
		for _, x := range [][2]int{{-1, 0}, {2, 0}, {math.MaxInt, 0}, {math.MinInt, 0}, {0, -1}, {0, 201}, {1, math.MinInt}, {1, math.MaxInt}} {
			for _, most := range []int{0, 5} { // nothing agrees with the first number of causes
				if got, e := Where(hung(), l, most, x[0], x[1]); got != (api.Span{}) || e != want {
					t.Error(most, x, got, e)
				}
			}
		}
	}
	if got, e := Where(hung(), longer(), 5, 1, 200); got == (api.Span{}) || e != api.OK {
		t.Error(got, e)
	}
}

func TestKnownSlowly(t *testing.T) {
	r := source()
	many := map[api.SenseWord]int{}
	none := 0
	for range 150 {
		s := small(r)
		causes := len(s.At) + s.Depths
		all := s.slow().agreeing(causes)
		for most := range causes + 1 {
			these := slices.DeleteFunc(slices.Clone(all), func(c api.SenseCause) bool { return count(c) > most })
			got, e := Known(s.SenseString, s.readings, most)
			if len(these) == 0 {
				if got != nil || e != api.ErrNone {
					t.Fatal(s, most, got, e)
				}
				none++
				continue
			}
			if e != api.OK || !slices.Equal(got, wordsOf(s.SenseString, these)) {
				t.Fatal(s, most, got, e)
			}
			for _, word := range got {
				many[word]++
			}
		}
	}
	if len(many) != 3 || many[api.SenseNot] < 50 || many[api.SenseMay] < 50 || many[api.SenseSurely] < 50 || none < 50 {
		t.Error(many, none)
	}
}

func TestWhereSlowly(t *testing.T) {
	r := source()
	found, none := 0, 0
	for range 100 {
		s := small(r)
		most, depth, week := r.IntN(len(s.At)+s.Depths+1), r.IntN(s.Depths), []int{0, 1, r.IntN(201), 200}[r.IntN(4)]
		got, e := Where(s.SenseString, s.readings, most, depth, week)
		all := s.slow().agreeing(most)
		if len(all) == 0 {
			if got != (api.Span{}) || e != api.ErrNone {
				t.Fatal(s, most, depth, week, got, e)
			}
			none++
			continue
		}
		want := s.slow().span(all[0], depth, week)
		for _, c := range all {
			want = whole(want, s.slow().span(c, depth, week))
		}
		if e != api.OK || got != want {
			t.Fatal(s, most, depth, week, got, e, want)
		}
		found++
	}
	if found < 40 || none < 10 {
		t.Error(found, none)
	}
}

// TestWhereOfLargeStrings compares the bounds with those of one explanation, with all causes.
func TestWhereOfLargeStrings(t *testing.T) {
	r := source()
	found := 0
	for range 30 {
		s := large(r)
		all := allCauses(s.SenseString)
		last := all[len(all)-1]
		depth, week := r.IntN(s.Depths), r.IntN(201)
		got, e := Where(s.SenseString, s.readings, count(last), depth, week)
		if !explains(t, s.SenseString, s.readings, last) {
			if got != (api.Span{}) || e != api.ErrNone {
				t.Fatal(s, depth, week, got, e)
			}
			continue
		}
		found++
		if want := s.slow().span(last, depth, week); e != api.OK || got != want {
			t.Fatal(s, depth, week, got, e, want)
		}
	}
	if found < 10 {
		t.Error(found)
	}
}

// truths returns some truths that agree with the readings of a string.
func truths(t *testing.T, r *rand.Rand, s some) []api.SenseTruth {
	t.Helper()
	all := []api.SenseTruth{s.truth}
	causes := allCauses(s.SenseString)
	for range 5 {
		truth, e := Witness(s.SenseString, s.readings, causes[r.IntN(len(causes))])
		if e == api.OK {
			all = append(all, truth)
		}
	}
	return slices.DeleteFunc(all, func(truth api.SenseTruth) bool {
		is, e := Agrees(s.SenseString, s.readings, truth)
		return !is || e != api.OK
	})
}

func TestWhateverIsTrueIsKnown(t *testing.T) {
	r := source()
	told := map[api.SenseWord]int{}
	for i := range 300 {
		s := small(r)
		if i%10 == 0 {
			s = large(r)
		}
		for _, truth := range truths(t, r, s) {
			c := causesOf(truth)
			numbers := numbersOf(s.SenseString, c)
			most := count(c) + r.IntN(2)
			if most > len(s.At)+s.Depths {
				continue
			}
			known, e := Known(s.SenseString, s.readings, most)
			if e != api.OK {
				t.Fatal(s, truth, e)
			}
			for n, word := range known {
				if is := slices.Contains(numbers, n); is && word == api.SenseNot || !is && word == api.SenseSurely {
					t.Fatal(s, truth, n, word)
				}
				told[word]++
			}
			depth, week := r.IntN(s.Depths), r.IntN(201)
			bounds, e := Where(s.SenseString, s.readings, most, depth, week)
			if temp := truth.Temps[depth] + truth.Rates[depth]*week; e != api.OK || temp < bounds.Low || temp > bounds.High {
				t.Fatal(s, truth, depth, week, bounds, e)
			}
		}
	}
	if told[api.SenseNot] < 500 || told[api.SenseSurely] < 100 {
		t.Error(told)
	}
}

// TestBoundsAreReached reads a sensor more, which does not drift, at both bounds, and so far beyond them that the depth cannot be there.
func TestBoundsAreReached(t *testing.T) {
	r := source()
	reached := 0
	for range 120 {
		s := small(r)
		if len(s.At) == api.SenseSensors {
			continue
		}
		causes := len(s.At) + s.Depths
		most, depth := r.IntN(causes+1), r.IntN(s.Depths)
		bounds, e := Where(s.SenseString, s.readings, most, depth, 0)
		if e != api.OK {
			continue
		}
		exact := cloneString(s.SenseString)
		exact.At = append(exact.At, depth)
		for temp, want := range map[int]bool{bounds.Low: true, bounds.High: true, bounds.Low - s.Error - 1: false, bounds.High + s.Error + 1: false} {
			l := append(slices.Clone(s.readings), api.SenseReading{Sensor: len(s.At), Temp: temp})
			is := false
			for _, c := range allCauses(s.SenseString) {
				is = is || count(c) <= most && explains(t, exact, l, c)
			}
			if is != want {
				t.Fatal(s, most, depth, bounds, temp, is)
			}
			reached++
		}
	}
	if reached < 150 {
		t.Error(reached)
	}
}
