package sense

import (
	"math"
	"slices"
	"testing"

	"talik/api"
)

// P5.1 (Check, Agrees)

func TestCheck(t *testing.T) {
	fine := map[string]api.SenseString{
		"the example": hung(),
		"the least":   {Depths: 1, At: []int{0}},
		"the most":    {Error: 100, Drift: 20, Warm: 20, Depths: 4, At: []int{3, 0, 3, 0, 1, 3}},
		"empty depths": {
			Depths: 4, At: []int{2},
		},
	}
	for _, name := range names(fine) {
		if e := Check(fine[name]); e != api.OK {
			t.Error(name, e)
		}
	}
	bad := badStrings()
	for _, name := range names(bad) {
		if e := Check(bad[name]); e != api.ErrArg {
			t.Error(name, e)
		}
	}
}

// trueOf returns a truth that agrees with the chapter's readings.
func trueOf() api.SenseTruth {
	return api.SenseTruth{Temps: []int{2700, 2649}, Rates: []int{2, 0}, Drifts: []int{0, -2, 0}}
}

func TestAgreesExample(t *testing.T) {
	for i, x := range []struct {
		do   func(t *api.SenseTruth)
		want bool
	}{
		{func(t *api.SenseTruth) {}, true},
		{func(t *api.SenseTruth) { t.Rates[0], t.Drifts = 0, []int{2, 0, 0} }, true},
		{func(t *api.SenseTruth) { t.Rates[0], t.Drifts = 0, []int{0, -2, 0} }, false},
		{func(t *api.SenseTruth) { t.Rates[0], t.Drifts = 0, []int{1, 0, 0} }, false},
		{func(t *api.SenseTruth) { t.Rates[0], t.Drifts = 0, []int{3, 0, 0} }, false},
		{func(t *api.SenseTruth) { t.Rates[0], t.Drifts = 1, []int{1, -1, 0} }, true},
		{func(t *api.SenseTruth) { t.Temps[0] = 2699 }, false},
		{func(t *api.SenseTruth) { t.Temps[0] = 2702 }, true},
		{func(t *api.SenseTruth) { t.Temps[0] = 2703 }, false},
		{func(t *api.SenseTruth) { t.Temps[1] = 2652 }, true},
		{func(t *api.SenseTruth) { t.Temps[1] = 2648 }, false},
		{func(t *api.SenseTruth) { t.Temps[1] = 2653 }, false},
		{func(t *api.SenseTruth) { t.Rates[1] = 1 }, false},
		{func(t *api.SenseTruth) { t.Rates[1], t.Drifts[2] = 2, -2 }, true},
	} {
		truth := trueOf()
		x.do(&truth)
		if is, e := Agrees(hung(), longer(), truth); is != x.want || e != api.OK {
			t.Error(i, is, e)
		}
	}
}

func TestAgreesAtTheBounds(t *testing.T) {
	s := api.SenseString{Error: 100, Drift: 20, Warm: 20, Depths: 1, At: []int{0, 0}}
	hot := api.SenseTruth{Temps: []int{3200}, Rates: []int{16}, Drifts: []int{0, 4}}
	cold := api.SenseTruth{Temps: []int{2000}, Rates: []int{-20}, Drifts: []int{0, 20}}
	for i, x := range []struct {
		truth api.SenseTruth
		r     api.SenseReading
		want  bool
	}{
		{hot, api.SenseReading{Sensor: 0, Week: 200, Temp: 6400}, true},
		{hot, api.SenseReading{Sensor: 0, Week: 200, Temp: 6300}, true},
		{hot, api.SenseReading{Sensor: 0, Week: 200, Temp: 6299}, false},
		{hot, api.SenseReading{Sensor: 1, Week: 165, Temp: 6400}, true},
		{hot, api.SenseReading{Sensor: 1, Week: 166, Temp: 6400}, false},
		{cold, api.SenseReading{Sensor: 0, Week: 100, Temp: 100}, true},
		{cold, api.SenseReading{Sensor: 0, Week: 100, Temp: 101}, false},
		{cold, api.SenseReading{Sensor: 0, Week: 105, Temp: 0}, true},
		{cold, api.SenseReading{Sensor: 0, Week: 106, Temp: 0}, false},
		{cold, api.SenseReading{Sensor: 1, Week: 200, Temp: 1900}, true},
		{cold, api.SenseReading{Sensor: 1, Week: 200, Temp: 1899}, false},
	} {
		if is, e := Agrees(s, []api.SenseReading{x.r}, x.truth); is != x.want || e != api.OK {
			t.Error(i, is, e)
		}
	}
}

// TestEachReadingMatters also has a sensor with several readings in a week.
func TestEachReadingMatters(t *testing.T) {
	l := slices.Concat(longer(), []api.SenseReading{{Sensor: 0, Week: 10, Temp: 2722}, {Sensor: 0, Week: 10, Temp: 2718}})
	if is, e := Agrees(hung(), l, trueOf()); !is || e != api.OK {
		t.Error(is, e)
	}
	for i := range l {
		for _, more := range []int{-5, 5} {
			bad := slices.Clone(l)
			bad[i].Temp += more
			if is, e := Agrees(hung(), bad, trueOf()); is || e != api.OK {
				t.Error(i, more, is, e)
			}
		}
	}
	if is, e := Agrees(hung(), nil, trueOf()); !is || e != api.OK {
		t.Error(is, e)
	}
}

func TestBadTruths(t *testing.T) {
	for name, do := range map[string]func(t *api.SenseTruth){
		"nothing":           func(t *api.SenseTruth) { *t = api.SenseTruth{} },
		"a temp less":       func(t *api.SenseTruth) { t.Temps = t.Temps[:1] },
		"a temp more":       func(t *api.SenseTruth) { t.Temps = append(t.Temps, 2500) },
		"temp 1999":         func(t *api.SenseTruth) { t.Temps[0] = 1999 },
		"temp 3201":         func(t *api.SenseTruth) { t.Temps[1] = 3201 },
		"the least temp":    func(t *api.SenseTruth) { t.Temps[1] = math.MinInt },
		"the greatest temp": func(t *api.SenseTruth) { t.Temps[0] = math.MaxInt },
		"no rates":          func(t *api.SenseTruth) { t.Rates = nil },
		"a rate more":       func(t *api.SenseTruth) { t.Rates = append(t.Rates, 0) },
		"rate -3":           func(t *api.SenseTruth) { t.Rates[1] = -3 },
		"rate 3":            func(t *api.SenseTruth) { t.Rates[0] = 3 },
		"the least rate":    func(t *api.SenseTruth) { t.Rates[0] = math.MinInt },
		"a drift less":      func(t *api.SenseTruth) { t.Drifts = t.Drifts[1:] },
		"a drift more":      func(t *api.SenseTruth) { t.Drifts = append(t.Drifts, 0) },
		"drift -4":          func(t *api.SenseTruth) { t.Drifts[0] = -4 },
		"drift 4":           func(t *api.SenseTruth) { t.Drifts[2] = 4 },
	} {
		truth := trueOf()
		do(&truth)
		for _, l := range [][]api.SenseReading{longer(), nil} {
			if is, e := Agrees(hung(), l, truth); is || e != api.ErrArg {
				t.Error(name, is, e)
			}
		}
	}
	// the greatest and the least numbers that are allowed
	truth := api.SenseTruth{Temps: []int{2000, 3200}, Rates: []int{-2, 2}, Drifts: []int{-3, 3, 0}}
	if is, e := Agrees(hung(), nil, truth); !is || e != api.OK {
		t.Error(is, e)
	}
}

func TestAgreesErrors(t *testing.T) {
	testErrors(t, func(s api.SenseString, l []api.SenseReading) (bool, api.Errno) {
		is, e := Agrees(s, l, trueOf())
		return !is, e
	})
	// more readings than are allowed come before all else
	if is, e := Agrees(api.SenseString{}, make([]api.SenseReading, 25), api.SenseTruth{}); is || e != api.ErrLong {
		t.Error(is, e)
	}
}

// testErrors calls a function of a string and readings with those that are not as defined. It reports whether its other results are zero values, and its error.
func testErrors(t *testing.T, call func(s api.SenseString, l []api.SenseReading) (bool, api.Errno)) {
	t.Helper()
	for name, s := range badStrings() {
		for _, l := range [][]api.SenseReading{nil, longer()} {
			if zero, e := call(s, l); !zero || e != api.ErrArg {
				t.Error(name, zero, e)
			}
		}
		if zero, e := call(s, make([]api.SenseReading, 25)); !zero || e != api.ErrLong {
			t.Error(name, zero, e)
		}
	}
	for name, l := range badReadings() {
		if zero, e := call(hung(), l); !zero || e != api.ErrArg {
			t.Error(name, zero, e)
		}
	}
	many := slices.Repeat(longer(), 4)
	if _, e := call(hung(), many); e != api.OK {
		t.Error("24 readings", e)
	}
	for _, r := range []api.SenseReading{many[0], {Sensor: -1}} {
		if zero, e := call(hung(), append(many[:24:24], r)); !zero || e != api.ErrLong {
			t.Error("25 readings", r, zero, e)
		}
	}
	many[23].Week = -1
	if zero, e := call(hung(), many); !zero || e != api.ErrArg {
		t.Error("24 readings, the last one bad", zero, e)
	}
}

func TestAgreesWithWhatWasRead(t *testing.T) {
	r := source()
	agrees := 0
	for range 2000 {
		s := small(r)
		want := true
		for sensor, depth := range s.At {
			want = want && s.slow().shows(sensor, s.truth.Temps[depth], s.truth.Rates[depth], s.truth.Drifts[sensor])
		}
		if is, e := Agrees(s.SenseString, s.readings, s.truth); is != want || e != api.OK {
			t.Fatal(s, is, e)
		}
		if want {
			agrees++
		}
	}
	if agrees < 1000 || agrees > 1900 {
		t.Error(agrees)
	}
}
