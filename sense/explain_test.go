package sense

import (
	"slices"
	"testing"

	"talik/api"
)

// P5.2 (Explains, Witness)

func TestExplainsExample(t *testing.T) {
	for i, x := range []struct {
		cause api.SenseCause
		long  bool
		short bool
	}{
		{api.SenseCause{}, false, false},
		{sensors(0), true, true},
		{sensors(1), false, false},
		{sensors(2), false, false},
		{depths(0), false, true},
		{depths(1), false, false},
		{api.SenseCause{Sensors: []int{1}, Depths: []int{0}}, true, true},
		{api.SenseCause{Sensors: []int{2}, Depths: []int{0, 1}}, false, true},
		{api.SenseCause{Sensors: []int{1, 2}, Depths: []int{1}}, false, false},
		{api.SenseCause{Sensors: []int{0, 1, 2}, Depths: []int{0, 1}}, true, true},
	} {
		if is, e := Explains(hung(), longer(), x.cause); is != x.long || e != api.OK {
			t.Error(i, is, e)
		}
		if is, e := Explains(hung(), shorter(), x.cause); is != x.short || e != api.OK {
			t.Error(i, is, e)
		}
	}
}

func TestWitnessExample(t *testing.T) {
	for i, x := range []struct {
		cause api.SenseCause
		want  api.SenseTruth
		e     api.Errno
	}{
		{sensors(0), api.SenseTruth{Temps: []int{2700, 2649}, Rates: []int{0, 0}, Drifts: []int{2, 0, 0}}, api.OK},
		{api.SenseCause{Sensors: []int{1}, Depths: []int{0}}, api.SenseTruth{Temps: []int{2700, 2649}, Rates: []int{2, 0}, Drifts: []int{0, -2, 0}}, api.OK},
		{api.SenseCause{}, api.SenseTruth{}, api.ErrNone},
		{sensors(1), api.SenseTruth{}, api.ErrNone},
		{depths(0, 1), api.SenseTruth{}, api.ErrNone},
		// the first temperature comes before all rates, and the first rate before all drifts
		{api.SenseCause{Sensors: []int{0, 1}, Depths: []int{0}}, api.SenseTruth{Temps: []int{2700, 2649}, Rates: []int{-1, 0}, Drifts: []int{3, 1, 0}}, api.OK},
	} {
		if truth, e := Witness(hung(), longer(), x.cause); !equalTruth(truth, x.want) || e != x.e {
			t.Error(i, truth, e)
		}
	}
}

func TestWitnessWithoutReadings(t *testing.T) {
	s := api.SenseString{Error: 7, Drift: 3, Warm: 2, Depths: 4, At: []int{2, 0, 2}} // there is no sensor at the depths 1 and 3
	for i, x := range []struct {
		cause api.SenseCause
		want  api.SenseTruth
	}{
		{api.SenseCause{}, api.SenseTruth{Temps: []int{2000, 2000, 2000, 2000}, Rates: []int{0, 0, 0, 0}, Drifts: []int{0, 0, 0}}},
		{sensors(0), api.SenseTruth{Temps: []int{2000, 2000, 2000, 2000}, Rates: []int{0, 0, 0, 0}, Drifts: []int{-3, 0, 0}}},
		{api.SenseCause{Sensors: []int{1, 2}, Depths: []int{2, 3}}, api.SenseTruth{Temps: []int{2000, 2000, 2000, 2000}, Rates: []int{0, 0, -2, -2}, Drifts: []int{0, -3, -3}}},
	} {
		if truth, e := Witness(s, nil, x.cause); !equalTruth(truth, x.want) || e != api.OK {
			t.Error(i, truth, e)
		}
		if is, e := Explains(s, nil, x.cause); !is || e != api.OK {
			t.Error(i, is, e)
		}
	}
}

// explains reports whether an explanation agrees, by both functions.
func explains(t *testing.T, s api.SenseString, l []api.SenseReading, c api.SenseCause) bool {
	t.Helper()
	is, e := Explains(s, l, c)
	if e != api.OK {
		t.Fatal(s, l, c, e)
	}
	truth, e := Witness(s, l, c)
	if is != (e == api.OK) || !is && (e != api.ErrNone || !equalTruth(truth, api.SenseTruth{})) {
		t.Fatal(s, l, c, is, truth, e)
	}
	return is
}

func TestWhatReadingsAllow(t *testing.T) {
	one := api.SenseString{Drift: 3, Warm: 2, Depths: 1, At: []int{0}}
	two := api.SenseString{Drift: 3, Warm: 2, Depths: 1, At: []int{0, 0}}
	first := api.SenseReading{Temp: 2500}
	for name, x := range map[string]struct {
		s     api.SenseString
		l     []api.SenseReading
		cause api.SenseCause
		want  bool
	}{
		"temp 2000":             {one, []api.SenseReading{{Temp: 2000}}, sensors(), true},
		"temp 1999":             {one, []api.SenseReading{{Temp: 1999}}, sensors(0), false},
		"temp 3200":             {one, []api.SenseReading{{Temp: 3200}}, sensors(), true},
		"temp 3201":             {one, []api.SenseReading{{Temp: 3201}}, depths(0), false},
		"warmer later":          {one, []api.SenseReading{{Week: 1, Temp: 3202}}, depths(0), true},
		"too warm later":        {one, []api.SenseReading{{Week: 1, Temp: 3203}}, depths(0), false},
		"drifts upward":         {one, []api.SenseReading{{Week: 1, Temp: 3203}}, sensors(0), true},
		"both upward":           {one, []api.SenseReading{{Week: 1, Temp: 3205}}, api.SenseCause{Sensors: []int{0}, Depths: []int{0}}, true},
		"more than both":        {one, []api.SenseReading{{Week: 1, Temp: 3206}}, api.SenseCause{Sensors: []int{0}, Depths: []int{0}}, false},
		"both downward":         {one, []api.SenseReading{{Week: 1, Temp: 1995}}, api.SenseCause{Sensors: []int{0}, Depths: []int{0}}, true},
		"less than both":        {one, []api.SenseReading{{Week: 1, Temp: 1994}}, api.SenseCause{Sensors: []int{0}, Depths: []int{0}}, false},
		"two and a half a week": {one, []api.SenseReading{first, {Week: 2, Temp: 2505}}, api.SenseCause{Sensors: []int{0}, Depths: []int{0}}, false},
		"less by as much":       {one, []api.SenseReading{first, {Week: 2, Temp: 2495}}, api.SenseCause{Sensors: []int{0}, Depths: []int{0}}, false},
		"a half a week":         {one, []api.SenseReading{first, {Week: 2, Temp: 2501}}, api.SenseCause{Sensors: []int{0}, Depths: []int{0}}, false},
		"less by a half":        {one, []api.SenseReading{first, {Week: 2, Temp: 2499}}, api.SenseCause{Sensors: []int{0}, Depths: []int{0}}, false},
		"up and down":           {one, []api.SenseReading{first, {Week: 2, Temp: 2504}, {Week: 4, Temp: 2500}}, sensors(0), false},
		"two in a week":         {one, []api.SenseReading{first, {Temp: 2501}}, sensors(0), false},
		"twice the same":        {one, []api.SenseReading{first, first}, sensors(), true},
		"two sensors, one off":  {two, []api.SenseReading{first, {Sensor: 1, Temp: 2501}}, sensors(0, 1), false},
		"away from each other":  {two, []api.SenseReading{first, {Week: 1, Temp: 2503}, {Sensor: 1, Week: 1, Temp: 2497}}, sensors(0, 1), true},
		"too far away":          {two, []api.SenseReading{first, {Week: 1, Temp: 2504}, {Sensor: 1, Week: 1, Temp: 2497}}, api.SenseCause{Sensors: []int{0, 1}, Depths: []int{0}}, false},
		"far, and warm":         {two, []api.SenseReading{first, {Week: 1, Temp: 2505}, {Sensor: 1, Week: 1, Temp: 2499}}, api.SenseCause{Sensors: []int{0, 1}, Depths: []int{0}}, true},
		"the last week":         {one, []api.SenseReading{{Week: 200, Temp: 3600}}, depths(0), true},
		"the last week, warmer": {one, []api.SenseReading{{Week: 200, Temp: 3601}}, depths(0), false},
	} {
		if is := explains(t, x.s, x.l, x.cause); is != x.want {
			t.Error(name, is)
		}
	}
}

func TestReadingsWithErrors(t *testing.T) {
	s := api.SenseString{Error: 1, Drift: 3, Warm: 2, Depths: 1, At: []int{0}}
	for name, x := range map[string]struct {
		l     []api.SenseReading
		cause api.SenseCause
		want  bool
	}{
		"a half a week":   {[]api.SenseReading{{Temp: 2500}, {Week: 2, Temp: 2501}}, sensors(), true},
		"one a week":      {[]api.SenseReading{{Temp: 2500}, {Week: 2, Temp: 2502}}, sensors(), true},
		"more than one":   {[]api.SenseReading{{Temp: 2500}, {Week: 2, Temp: 2503}}, sensors(), false},
		"less than two":   {[]api.SenseReading{{Temp: 2500}, {Week: 2, Temp: 2503}}, depths(0), true},
		"just warm":       {[]api.SenseReading{{Temp: 1999}, {Week: 1, Temp: 1999}}, sensors(), true},
		"not warm enough": {[]api.SenseReading{{Temp: 1998}, {Week: 1, Temp: 1999}}, sensors(0), false},
		"just cold":       {[]api.SenseReading{{Temp: 3201}, {Week: 1, Temp: 3201}}, sensors(), true},
		"in one week":     {[]api.SenseReading{{Week: 5, Temp: 2500}, {Week: 5, Temp: 2502}}, sensors(), true},
		"in one week, 3":  {[]api.SenseReading{{Week: 5, Temp: 2500}, {Week: 5, Temp: 2503}}, sensors(0), false},
	} {
		if is := explains(t, s, x.l, x.cause); is != x.want {
			t.Error(name, is)
		}
	}
}

func TestExplainsErrors(t *testing.T) {
	call := func(s api.SenseString, l []api.SenseReading) (bool, api.Errno) {
		is, e := Explains(s, l, sensors(0))
		truth, same := Witness(s, l, sensors(0))
		if e != same {
			t.Error(s, l, e, same)
		}
		return !is && equalTruth(truth, api.SenseTruth{}), e
	}
	testErrors(t, call)
	bad := badCauses()
	for _, name := range names(bad) {
		for _, l := range [][]api.SenseReading{nil, longer()} {
			if is, e := Explains(hung(), l, bad[name]); is || e != api.ErrArg {
				t.Error(name, is, e)
			}
			if truth, e := Witness(hung(), l, bad[name]); !equalTruth(truth, api.SenseTruth{}) || e != api.ErrArg {
				t.Error(name, truth, e)
			}
		}
		if _, e := Explains(hung(), make([]api.SenseReading, 25), bad[name]); e != api.ErrLong {
			t.Error(name, e)
		}
		if _, e := Witness(hung(), make([]api.SenseReading, 25), bad[name]); e != api.ErrLong {
			t.Error(name, e)
		}
	}
}

// testWitness compares a witness with that which is found slowly. It reports whether there is one.
func testWitness(t *testing.T, s some, c api.SenseCause) bool {
	t.Helper()
	want, found := s.slow().witness(c)
	if is := explains(t, s.SenseString, s.readings, c); is != found {
		t.Fatal(s, c, is)
	}
	truth, _ := Witness(s.SenseString, s.readings, c)
	if !equalTruth(truth, want) {
		t.Fatal(s, c, truth, want)
	}
	if !found {
		return false
	}
	if is, e := Agrees(s.SenseString, s.readings, truth); !is || e != api.OK {
		t.Fatal("the witness does not agree", s, c, truth, e)
	}
	for _, cause := range numbersOf(s.SenseString, causesOf(truth)) {
		if !slices.Contains(numbersOf(s.SenseString, c), cause) {
			t.Fatal("the witness has another cause", s, c, truth)
		}
	}
	return true
}

func TestWitnessSlowly(t *testing.T) {
	r := source()
	many := map[bool]int{}
	for range 100 {
		s := small(r)
		for _, c := range allCauses(s.SenseString) {
			many[testWitness(t, s, c)]++
		}
	}
	if many[true] < 500 || many[false] < 500 {
		t.Error(many)
	}
}

func TestWitnessOfLargeStrings(t *testing.T) {
	r := source()
	many := map[bool]int{}
	for range 100 {
		s := large(r)
		all := allCauses(s.SenseString)
		for _, c := range []api.SenseCause{causesOf(s.truth), all[r.IntN(len(all))], all[len(all)-1]} {
			many[testWitness(t, s, c)]++
		}
	}
	if many[true] < 50 || many[false] < 50 {
		t.Error(many)
	}
}

// before reports whether a truth is the same as another one, or comes before it.
func before(s api.SenseString, a, b api.SenseTruth) bool {
	var x, y []int
	for depth := range s.Depths {
		x, y = append(x, a.Temps[depth], a.Rates[depth]), append(y, b.Temps[depth], b.Rates[depth])
		for sensor, at := range s.At {
			if at == depth {
				x, y = append(x, a.Drifts[sensor]), append(y, b.Drifts[sensor])
			}
		}
	}
	return slices.Compare(x, y) <= 0
}

// TestWhateverIsTrueIsExplained also has truths whose drifts and rates cannot be told from the readings.
func TestWhateverIsTrueIsExplained(t *testing.T) {
	r := source()
	agree := 0
	for i := range 1000 {
		s := small(r)
		if i%10 == 0 {
			s = large(r)
		}
		is, e := Agrees(s.SenseString, s.readings, s.truth)
		if e != api.OK {
			t.Fatal(s, e)
		}
		if !is {
			continue
		}
		agree++
		c := causesOf(s.truth)
		if !explains(t, s.SenseString, s.readings, c) {
			t.Fatal("a truth is not explained", s)
		}
		if truth, _ := Witness(s.SenseString, s.readings, c); !before(s.SenseString, truth, s.truth) {
			t.Fatal("the witness comes later", s, truth)
		}
	}
	if agree < 500 {
		t.Error(agree)
	}
}

// TestAllTruths looks at all truths together that can agree with readings of each depth in the week 0.
func TestAllTruths(t *testing.T) {
	r := source()
	agree := 0
	for range 60 {
		s := some{SenseString: api.SenseString{Error: r.IntN(2), Drift: 1 + r.IntN(2), Warm: 1, Depths: 2, At: []int{0, 1, r.IntN(2)}}}
		s.truth = someTruth(r, s.SenseString)
		for sensor, depth := range s.At[:2] {
			s.readings = append(s.readings, api.SenseReading{Sensor: sensor, Temp: s.truth.Temps[depth]})
		}
		s.readings = append(s.readings, someReadings(r, s.SenseString, s.truth, 4, 3)...)
		firsts := firstTruths(t, s)
		for _, c := range allCauses(s.SenseString) {
			want, found := api.SenseTruth{}, false
			for _, truth := range firsts {
				if contains(s.SenseString, c, causesOf(truth)) && (!found || before(s.SenseString, truth, want)) {
					want, found = truth, true
				}
			}
			truth, e := Witness(s.SenseString, s.readings, c)
			if found != (e == api.OK) || !equalTruth(truth, want) {
				t.Fatal(s, c, truth, e, want)
			}
			if found {
				agree++
			}
		}
	}
	if agree < 200 {
		t.Error(agree)
	}
}

// contains reports whether an explanation has all causes of another one.
func contains(s api.SenseString, c, other api.SenseCause) bool {
	numbers := numbersOf(s, c)
	for _, n := range numbersOf(s, other) {
		if !slices.Contains(numbers, n) {
			return false
		}
	}
	return true
}

// firstTruths returns all truths of a string of two depths and three sensors that agree with its readings, of which the first two are in the week 0 at each depth.
func firstTruths(t *testing.T, s some) []api.SenseTruth {
	t.Helper()
	var ends []api.Span
	for _, r := range s.readings[:2] {
		ends = append(ends, sp(max(2000, r.Temp-s.Error), min(3200, r.Temp+s.Error)))
	}
	warm, drift := sp(-s.Warm, s.Warm), sp(-s.Drift, s.Drift)
	ends = append(ends, warm, warm, drift, drift, drift)
	var all []api.SenseTruth
	for _, n := range lists(ends) {
		truth := api.SenseTruth{Temps: n[:2], Rates: n[2:4], Drifts: n[4:]}
		is, e := Agrees(s.SenseString, s.readings, truth)
		if e != api.OK {
			t.Fatal(s, truth, e)
		}
		if is {
			all = append(all, truth)
		}
	}
	return all
}

// lists returns all lists of numbers of some spans.
func lists(spans []api.Span) [][]int {
	all := [][]int{nil}
	for _, s := range spans {
		var next [][]int
		for _, list := range all {
			for n := s.Low; n <= s.High; n++ {
				next = append(next, append(slices.Clone(list), n))
			}
		}
		all = next
	}
	return all
}
