package sense

import (
	"slices"
	"testing"

	"talik/api"
)

// P5.3 (Least), and P0.5 as far as layer 5 keeps it

// testLeast compares the least explanations with those that are wanted; nil if there are none.
func testLeast(t *testing.T, s api.SenseString, l []api.SenseReading, want []api.SenseCause) {
	t.Helper()
	got, e := Least(s, l)
	if want == nil {
		if got != nil || e != api.ErrNone {
			t.Fatal(s, l, got, e)
		}
		return
	}
	if e != api.OK || !slices.EqualFunc(got, want, equalCause) {
		t.Fatal(s, l, got, e, want)
	}
}

func TestLeastExample(t *testing.T) {
	testLeast(t, hung(), longer(), []api.SenseCause{sensors(0)})
	testLeast(t, hung(), shorter(), []api.SenseCause{sensors(0), depths(0)})
}

func TestLeastOfFewReadings(t *testing.T) {
	testLeast(t, hung(), nil, []api.SenseCause{{}})
	testLeast(t, hung(), longer()[:1], []api.SenseCause{{}})
	testLeast(t, hung(), longer()[2:], []api.SenseCause{{}})
	testLeast(t, hung(), []api.SenseReading{{Temp: 2700}, {Temp: 2705}}, nil)
	testLeast(t, hung(), []api.SenseReading{{Temp: 1997}}, nil)
}

// TestSensorsAreToldFromGround has sensors at one depth that go up together, or apart.
func TestSensorsAreToldFromGround(t *testing.T) {
	up := func(sensor int) []api.SenseReading {
		return []api.SenseReading{{Sensor: sensor, Temp: 2500}, {Sensor: sensor, Week: 10, Temp: 2520}}
	}
	same := func(sensor int) []api.SenseReading {
		return []api.SenseReading{{Sensor: sensor, Temp: 2500}, {Sensor: sensor, Week: 10, Temp: 2500}}
	}
	three := api.SenseString{Drift: 3, Warm: 2, Depths: 2, At: []int{1, 1, 1}}
	// one cannot be told from the ground
	testLeast(t, three, up(1), []api.SenseCause{sensors(1), depths(1)})
	// of two that go apart it is the one that drifts: for the other one to do so, the ground would have to warm, too
	testLeast(t, three, slices.Concat(up(1), same(2)), []api.SenseCause{sensors(1)})
	// if all go up, the ground warms
	testLeast(t, three, slices.Concat(up(0), up(1), up(2)), []api.SenseCause{depths(1)})
	// if two of three go up, two sensors drift, or the ground warms and the third one drifts
	testLeast(t, three, slices.Concat(up(0), up(1), same(2)), []api.SenseCause{sensors(0, 1), {Sensors: []int{2}, Depths: []int{1}}})
	testLeast(t, three, slices.Concat(same(0), up(1), up(2)), []api.SenseCause{{Sensors: []int{0}, Depths: []int{1}}, sensors(1, 2)})
	// ground that cannot warm by so much
	cold := three
	cold.Warm = 1
	testLeast(t, cold, slices.Concat(up(0), up(1), up(2)), []api.SenseCause{sensors(0, 1, 2)})
	testLeast(t, cold, up(1), []api.SenseCause{sensors(1)})
	// and sensors that cannot drift by so much
	good := three
	good.Drift = 1
	testLeast(t, good, up(0), []api.SenseCause{depths(1)})
	testLeast(t, good, slices.Concat(up(0), same(1)), []api.SenseCause{{Sensors: []int{0, 1}, Depths: []int{1}}})
	good.Drift = 0
	testLeast(t, good, slices.Concat(up(0), same(1)), nil)
}

// TestLeastInOrder has explanations whose order is that of their numbers, not of their bits, and not of sensors and depths one after the other.
func TestLeastInOrder(t *testing.T) {
	s := api.SenseString{Drift: 1, Warm: 1, Depths: 2, At: []int{0, 1}}
	l := []api.SenseReading{{Temp: 2500}, {Week: 1, Temp: 2501}, {Sensor: 1, Temp: 2500}, {Sensor: 1, Week: 1, Temp: 2501}}
	testLeast(t, s, l, []api.SenseCause{sensors(0, 1), {Sensors: []int{0}, Depths: []int{1}}, {Sensors: []int{1}, Depths: []int{0}}, depths(0, 1)})
	s = api.SenseString{Drift: 1, Warm: 1, Depths: 4, At: []int{3, 2, 1, 0}}
	l = nil
	for sensor := range 4 {
		l = append(l, api.SenseReading{Sensor: sensor, Temp: 3000}, api.SenseReading{Sensor: sensor, Week: 1, Temp: 2999})
	}
	got, e := Least(s, l)
	if e != api.OK || len(got) != 16 || !equalCause(got[0], sensors(0, 1, 2, 3)) || !equalCause(got[15], depths(0, 1, 2, 3)) {
		t.Fatal(got, e)
	}
	if !equalCause(got[1], api.SenseCause{Sensors: []int{0, 1, 2}, Depths: []int{0}}) || !equalCause(got[8], api.SenseCause{Sensors: []int{1, 2, 3}, Depths: []int{3}}) {
		t.Error(got)
	}
	if !slices.IsSortedFunc(got, func(a, b api.SenseCause) int { return slices.Compare(numbersOf(s, a), numbersOf(s, b)) }) {
		t.Error(got)
	}
}

func TestLeastErrors(t *testing.T) {
	testErrors(t, func(s api.SenseString, l []api.SenseReading) (bool, api.Errno) {
		all, e := Least(s, l)
		return all == nil, e
	})
}

func TestLeastSlowly(t *testing.T) {
	r := source()
	sizes := map[int]int{}
	several, none := 0, 0
	for range 200 {
		s := small(r)
		all := s.slow().agreeing(len(s.At) + s.Depths)
		if len(all) == 0 {
			testLeast(t, s.SenseString, s.readings, nil)
			none++
			continue
		}
		want := leastOf(all)
		testLeast(t, s.SenseString, s.readings, want)
		sizes[count(want[0])]++
		if len(want) > 1 {
			several++
		}
	}
	if sizes[0] < 10 || sizes[1] < 10 || sizes[2] < 5 || several < 10 || none < 5 {
		t.Error(sizes, several, none)
	}
}

// TestNothingHasFewerCauses asks for all explanations of large strings.
func TestNothingHasFewerCauses(t *testing.T) {
	r := source()
	told := 0
	for range 25 {
		s := large(r)
		got, e := Least(s.SenseString, s.readings)
		if e != api.OK && e != api.ErrNone || (e == api.OK) != (len(got) > 0) {
			t.Fatal(s, got, e)
		}
		var want []api.SenseCause
		for _, c := range allCauses(s.SenseString) {
			if len(got) > 0 && count(c) > count(got[0]) {
				break
			}
			if explains(t, s.SenseString, s.readings, c) {
				want = append(want, c)
			}
		}
		if !slices.EqualFunc(got, want, equalCause) {
			t.Fatal(s, got, want)
		}
		told += len(got)
	}
	if told < 15 {
		t.Error(told)
	}
}
