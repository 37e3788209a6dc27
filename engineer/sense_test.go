package engineer

import (
	"math/rand/v2"
	"slices"
	"testing"

	"talik/api"
	"talik/sense"
)

// P10.5 (Read, Cause), and P0.5 (layer 10: sensors that drift are told apart from ground that warms)

// hung is a string, what is true of it, and some readings that agree.
type hung struct {
	api.SenseString
	truth    api.SenseTruth
	readings []api.SenseReading
}

// someHung returns a string with readings, where few sensors drift and few depths warm.
func someHung(r *rand.Rand) hung {
	h := hung{SenseString: someString(r)}
	rarely := func(most int) int {
		if r.IntN(3) > 0 {
			return 0
		}
		return r.IntN(2*most+1) - most
	}
	for range h.Depths {
		h.truth.Temps = append(h.truth.Temps, 2400+r.IntN(400))
		h.truth.Rates = append(h.truth.Rates, rarely(h.Warm))
	}
	for range h.At {
		h.truth.Drifts = append(h.truth.Drifts, rarely(h.Drift))
	}
	for range r.IntN(api.SenseReadings + 1) {
		sensor, week := r.IntN(len(h.At)), r.IntN(60)
		depth := h.At[sensor]
		temp := h.truth.Temps[depth] + (h.truth.Rates[depth]+h.truth.Drifts[sensor])*week + r.IntN(2*h.Error+1) - h.Error
		h.readings = append(h.readings, api.SenseReading{Sensor: sensor, Week: week, Temp: temp})
	}
	return h
}

// causes returns of which sensors, and then of which depths, something goes on in truth.
func (h hung) causes() []bool {
	var is []bool
	for _, n := range slices.Concat(h.truth.Drifts, h.truth.Rates) {
		is = append(is, n != 0)
	}
	return is
}

// noted returns a town in which all readings were noted, in their order.
func noted(t *testing.T, s api.SenseString, readings []api.SenseReading) *Engineer {
	t.Helper()
	e := opened(t, changed(town(), func(x *api.EngineerTown) { x.String = s }))
	for i, reading := range readings {
		if bad := e.Read(reading); bad != api.OK {
			t.Fatal(s, readings, i, bad)
		}
	}
	return e
}

// TestReadingsThatAreTrueAreNoted notes readings of a truth, in two orders.
func TestReadingsThatAreTrueAreNoted(t *testing.T) {
	r := source()
	told := map[api.SenseWord]int{}
	for range 120 {
		h := someHung(r)
		e := noted(t, h.SenseString, h.readings)
		r.Shuffle(len(h.readings), func(i, j int) { h.readings[i], h.readings[j] = h.readings[j], h.readings[i] })
		other := noted(t, h.SenseString, h.readings)
		is := h.causes()
		for _, most := range []int{0, 1, 2, len(is)} {
			words, bad := e.Cause(most)
			again, badAgain := other.Cause(most)
			if bad != badAgain || !slices.Equal(words, again) {
				t.Fatal("the order matters", h, most, words, bad, again, badAgain)
			}
			want, badWant := sense.Known(h.SenseString, h.readings, most)
			if bad != badWant || !slices.Equal(words, want) {
				t.Fatal(h, most, words, bad, want, badWant)
			}
			many := 0
			for _, cause := range is {
				if cause {
					many++
				}
			}
			if many > most {
				continue
			}
			for i, word := range words {
				told[word]++
				if is[i] && word == api.SenseNot {
					t.Fatal("a cause is told as none", h, most, words)
				}
			}
			if bad != api.OK {
				t.Fatal("the truth explains it", h, most, bad)
			}
		}
	}
	if told[api.SenseNot] < 50 || told[api.SenseMay] < 50 || told[api.SenseSurely] < 50 {
		t.Error(told)
	}
}

// TestSomeExplanationAgrees notes random readings: those that are noted are explained together, and each that is not would not be.
func TestSomeExplanationAgrees(t *testing.T) {
	r := source()
	refused := 0
	for range 60 {
		s := someString(r)
		e := noted(t, s, nil)
		var l []api.SenseReading
		for range 40 {
			reading := api.SenseReading{Sensor: r.IntN(len(s.At)), Week: r.IntN(30), Temp: 2500 + r.IntN(40)}
			_, none := sense.Least(s, slices.Concat(l, []api.SenseReading{reading}))
			switch bad := e.Read(reading); {
			case len(l) == api.SenseReadings:
				if bad != api.ErrState {
					t.Fatal(s, l, reading, bad)
				}
			case bad == api.OK && none == api.OK:
				l = append(l, reading)
			case bad == api.ErrRule && none == api.ErrNone:
				refused++
			default:
				t.Fatal(s, l, reading, bad, none)
			}
		}
		if _, bad := e.Cause(len(s.At) + s.Depths); bad != api.OK {
			t.Fatal(s, l, bad)
		}
	}
	if refused < 150 {
		t.Error(refused)
	}
}

// TestDriftAndWarmingAreToldApart has the readings l and m of layer 5: two sensors at a depth tell that one of them drifts; without the last reading of one of them, the ground can warm as well.
func TestDriftAndWarmingAreToldApart(t *testing.T) {
	l := []string{"read 0 0 2700", "read 0 10 2720", "read 1 0 2701", "read 2 0 2650", "read 2 10 2651", "read 1 10 2702"}
	for _, x := range []struct {
		lines []string
		most  int
		want  []api.SenseWord
		bad   api.Errno
	}{
		{l, 1, []api.SenseWord{api.SenseSurely, api.SenseNot, api.SenseNot, api.SenseNot, api.SenseNot}, api.OK},
		{l, 2, []api.SenseWord{2, 2, 2, 2, 2}, api.OK},
		{l, 0, nil, api.ErrNone},
		{l[:5], 1, []api.SenseWord{api.SenseMay, api.SenseNot, api.SenseNot, api.SenseMay, api.SenseNot}, api.OK},
		{l[:1], 0, []api.SenseWord{1, 1, 1, 1, 1}, api.OK},
		{nil, 6, nil, api.ErrArg}, {nil, -1, nil, api.ErrArg}, {l, 6, nil, api.ErrArg},
	} {
		words, bad := opened(t, town(), x.lines...).Cause(x.most)
		if bad != x.bad || !slices.Equal(words, x.want) {
			t.Error(x.lines, x.most, words, bad)
		}
	}
}
