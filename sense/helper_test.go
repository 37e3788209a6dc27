package sense

import (
	"cmp"
	"iter"
	"math/rand/v2"
	"slices"

	"talik/api"
)

func sp(low, high int) api.Span { return api.Span{Low: low, High: high} }

// source returns a source of numbers that are the same in each run.
func source() *rand.Rand { return rand.New(rand.NewPCG(1, 2)) }

// hung returns the string s of the chapter's examples.
func hung() api.SenseString {
	return api.SenseString{Error: 2, Drift: 3, Warm: 2, Depths: 2, At: []int{0, 0, 1}}
}

// longer returns the readings l of the chapter's examples.
func longer() []api.SenseReading {
	return []api.SenseReading{{Sensor: 0, Temp: 2700}, {Sensor: 0, Week: 10, Temp: 2720}, {Sensor: 1, Temp: 2701}, {Sensor: 1, Week: 10, Temp: 2702}, {Sensor: 2, Temp: 2650}, {Sensor: 2, Week: 10, Temp: 2651}}
}

// shorter returns the readings m of the chapter's examples.
func shorter() []api.SenseReading { return slices.Delete(longer(), 3, 4) }

// sensors returns an explanation of some sensors.
func sensors(list ...int) api.SenseCause { return api.SenseCause{Sensors: list} }

// depths returns an explanation of some depths.
func depths(list ...int) api.SenseCause { return api.SenseCause{Depths: list} }

func cloneString(s api.SenseString) api.SenseString {
	s.At = slices.Clone(s.At)
	return s
}

func equalString(a, b api.SenseString) bool {
	return a.Error == b.Error && a.Drift == b.Drift && a.Warm == b.Warm && a.Depths == b.Depths && slices.Equal(a.At, b.At)
}

func equalCause(a, b api.SenseCause) bool {
	return slices.Equal(a.Sensors, b.Sensors) && slices.Equal(a.Depths, b.Depths)
}

func equalTruth(a, b api.SenseTruth) bool {
	return slices.Equal(a.Temps, b.Temps) && slices.Equal(a.Rates, b.Rates) && slices.Equal(a.Drifts, b.Drifts)
}

// badStrings returns strings that are not as defined, each for one reason.
func badStrings() map[string]api.SenseString {
	all := map[string]api.SenseString{"nothing": {}}
	change := func(name string, do func(s *api.SenseString)) {
		s := hung()
		do(&s)
		all[name] = s
	}
	change("error -1", func(s *api.SenseString) { s.Error = -1 })
	change("error 101", func(s *api.SenseString) { s.Error = 101 })
	change("drift -1", func(s *api.SenseString) { s.Drift = -1 })
	change("drift 21", func(s *api.SenseString) { s.Drift = 21 })
	change("warm -1", func(s *api.SenseString) { s.Warm = -1 })
	change("warm 21", func(s *api.SenseString) { s.Warm = 21 })
	change("no depths", func(s *api.SenseString) { s.Depths, s.At = 0, nil })
	change("5 depths", func(s *api.SenseString) { s.Depths = 5 })
	change("depths -1", func(s *api.SenseString) { s.Depths = -1 })
	change("no sensors", func(s *api.SenseString) { s.At = nil })
	change("7 sensors", func(s *api.SenseString) { s.At = make([]int, 7) })
	change("a sensor at no depth", func(s *api.SenseString) { s.At[2] = 2 })
	change("a sensor at the depth -1", func(s *api.SenseString) { s.At[0] = -1 })
	change("a depth less", func(s *api.SenseString) { s.Depths = 1 })
	return all
}

// badReadings returns readings that are not as defined for the chapter's string, each for one reason.
func badReadings() map[string][]api.SenseReading {
	all := map[string][]api.SenseReading{}
	change := func(name string, at int, do func(r *api.SenseReading)) {
		l := longer()
		do(&l[at])
		all[name] = l
	}
	change("sensor -1", 0, func(r *api.SenseReading) { r.Sensor = -1 })
	change("sensor 3", 5, func(r *api.SenseReading) { r.Sensor = 3 })
	change("week -1", 2, func(r *api.SenseReading) { r.Week = -1 })
	change("week 201", 5, func(r *api.SenseReading) { r.Week = 201 })
	change("temp -1", 0, func(r *api.SenseReading) { r.Temp = -1 })
	change("temp 6401", 3, func(r *api.SenseReading) { r.Temp = 6401 })
	return all
}

// badCauses returns explanations that are not as defined for the chapter's string, each for one reason.
func badCauses() map[string]api.SenseCause {
	return map[string]api.SenseCause{
		"sensor -1":              sensors(-1),
		"sensor 3":               sensors(0, 3),
		"depth -1":               depths(-1, 0),
		"depth 2":                depths(2),
		"a sensor twice":         sensors(1, 1),
		"a depth twice":          depths(0, 0),
		"sensors down":           sensors(0, 2, 1),
		"depths down":            depths(1, 0),
		"more sensors than some": sensors(0, 1, 2, 3),
	}
}

// names returns the names of some things in order.
func names[T any](things map[string]T) []string {
	var all []string
	for name := range things {
		all = append(all, name)
	}
	slices.Sort(all)
	return all
}

// slow does what the chapter says, number by number.
type slow struct {
	api.SenseString
	readings []api.SenseReading
}

// shows reports whether the readings of a sensor agree with what it shows.
func (s slow) shows(sensor, temp, rate, drift int) bool {
	for _, r := range s.readings {
		if r.Sensor != sensor {
			continue
		}
		differs := r.Temp - (temp + rate*r.Week + drift*r.Week)
		if differs > s.Error || differs < -s.Error {
			return false
		}
	}
	return true
}

// firstDrift returns the first drift with which a sensor shows what was read, and whether there is one.
func (s slow) firstDrift(sensor, temp, rate, most int) (int, bool) {
	for drift := -most; drift <= most; drift++ {
		if s.shows(sensor, temp, rate, drift) {
			return drift, true
		}
	}
	return 0, false
}

// local is what is true at a depth: its temperature, its rate, and the drifts of the sensors there.
type local struct {
	temp   int
	rate   int
	drifts []int
}

// truths goes through what can be true at a depth with an explanation, in lexicographic order, with the first drifts for each temperature and rate.
func (s slow) truths(depth int, c api.SenseCause) iter.Seq[local] {
	warm := 0
	if slices.Contains(c.Depths, depth) {
		warm = s.Warm
	}
	return func(yield func(local) bool) {
		for temp := 2000; temp <= 3200; temp++ {
			for rate := -warm; rate <= warm; rate++ {
				x := local{temp: temp, rate: rate}
				if s.drift(depth, c, &x) && !yield(x) {
					return
				}
			}
		}
	}
}

// drift finds the first drifts of what is true at a depth, and reports whether there are any.
func (s slow) drift(depth int, c api.SenseCause, x *local) bool {
	for sensor, at := range s.At {
		if at != depth {
			continue
		}
		most := 0
		if slices.Contains(c.Sensors, sensor) {
			most = s.Drift
		}
		drift, found := s.firstDrift(sensor, x.temp, x.rate, most)
		if !found {
			return false
		}
		x.drifts = append(x.drifts, drift)
	}
	return true
}

// witness returns the witness of an explanation, and whether it agrees.
func (s slow) witness(c api.SenseCause) (api.SenseTruth, bool) {
	t := api.SenseTruth{Drifts: make([]int, len(s.At))}
	for depth := range s.Depths {
		found := false
		for x := range s.truths(depth, c) {
			t.Temps, t.Rates = append(t.Temps, x.temp), append(t.Rates, x.rate)
			for sensor, at := range s.At {
				if at == depth {
					t.Drifts[sensor], x.drifts = x.drifts[0], x.drifts[1:]
				}
			}
			found = true
			break
		}
		if !found {
			return api.SenseTruth{}, false
		}
	}
	return t, true
}

// span returns the least and the greatest temperature of a depth in a week with an explanation that agrees.
func (s slow) span(c api.SenseCause, depth, week int) api.Span {
	var all []int
	for x := range s.truths(depth, c) {
		all = append(all, x.temp+x.rate*week)
	}
	return sp(slices.Min(all), slices.Max(all))
}

// numbersOf returns the numbers of the causes of an explanation.
func numbersOf(s api.SenseString, c api.SenseCause) []int {
	numbers := slices.Clone(c.Sensors)
	for _, depth := range c.Depths {
		numbers = append(numbers, len(s.At)+depth)
	}
	return numbers
}

// causeOf returns the explanation whose causes have some numbers.
func causeOf(s api.SenseString, numbers []int) api.SenseCause {
	var c api.SenseCause
	for _, n := range numbers {
		if n < len(s.At) {
			c.Sensors = append(c.Sensors, n)
		} else {
			c.Depths = append(c.Depths, n-len(s.At))
		}
	}
	return c
}

// allCauses returns all explanations, those with fewer causes first, and then in lexicographic order.
func allCauses(s api.SenseString) []api.SenseCause {
	lists := [][]int{nil}
	for n := range len(s.At) + s.Depths {
		for _, list := range lists {
			lists = append(lists, append(slices.Clone(list), n))
		}
	}
	slices.SortFunc(lists, func(a, b []int) int {
		return cmp.Or(len(a)-len(b), slices.Compare(a, b))
	})
	var all []api.SenseCause
	for _, list := range lists {
		all = append(all, causeOf(s, list))
	}
	return all
}

// agreeing returns all explanations that agree and have at most some number of causes, in the same order.
func (s slow) agreeing(most int) []api.SenseCause {
	var all []api.SenseCause
	for _, c := range allCauses(s.SenseString) {
		if count(c) > most {
			break
		}
		if _, found := s.witness(c); found {
			all = append(all, c)
		}
	}
	return all
}

func count(c api.SenseCause) int { return len(c.Sensors) + len(c.Depths) }

// leastOf returns those of some explanations that have the fewest causes.
func leastOf(all []api.SenseCause) []api.SenseCause {
	return slices.DeleteFunc(slices.Clone(all), func(c api.SenseCause) bool { return count(c) > count(all[0]) })
}

// wordsOf returns what is known of each cause, if some explanations are all.
func wordsOf(s api.SenseString, all []api.SenseCause) []api.SenseWord {
	var words []api.SenseWord
	for n := range len(s.At) + s.Depths {
		with := 0
		for _, c := range all {
			if slices.Contains(numbersOf(s, c), n) {
				with++
			}
		}
		word := api.SenseMay
		if with == 0 {
			word = api.SenseNot
		} else if with == len(all) {
			word = api.SenseSurely
		}
		words = append(words, word)
	}
	return words
}

// whole returns a span from the least to the greatest number of two.
func whole(a, b api.Span) api.Span { return sp(min(a.Low, b.Low), max(a.High, b.High)) }

// someString returns a string with so many depths and sensors, which drift and warm by at most rate.
func someString(r *rand.Rand, depths, sensors, rate int) api.SenseString {
	s := api.SenseString{Error: r.IntN(4), Drift: r.IntN(rate + 1), Warm: r.IntN(rate + 1), Depths: depths}
	for range sensors {
		s.At = append(s.At, r.IntN(depths))
	}
	return s
}

// someRates returns so many numbers from -most to most, many of which are 0.
func someRates(r *rand.Rand, many, most int) []int {
	var l []int
	for range many {
		n := 0
		if r.IntN(5) < 2 {
			n = r.IntN(2*most+1) - most
		}
		l = append(l, n)
	}
	return l
}

// someTruth returns a truth of a string.
func someTruth(r *rand.Rand, s api.SenseString) api.SenseTruth {
	t := api.SenseTruth{Rates: someRates(r, s.Depths, s.Warm), Drifts: someRates(r, len(s.At), s.Drift)}
	for range s.Depths {
		t.Temps = append(t.Temps, []int{2000, 2000 + r.IntN(9), 2000 + r.IntN(1201), 2600, 3200 - r.IntN(9), 3200}[r.IntN(6)])
	}
	return t
}

// causesOf returns the explanation of all drifts and rates of a truth that are not 0.
func causesOf(t api.SenseTruth) api.SenseCause {
	var c api.SenseCause
	for sensor, drift := range t.Drifts {
		if drift != 0 {
			c.Sensors = append(c.Sensors, sensor)
		}
	}
	for depth, rate := range t.Rates {
		if rate != 0 {
			c.Depths = append(c.Depths, depth)
		}
	}
	return c
}

// read returns a reading that agrees with a truth, in a week up to some one.
func read(r *rand.Rand, s api.SenseString, t api.SenseTruth, weeks int) api.SenseReading {
	x := api.SenseReading{Sensor: r.IntN(len(s.At))}
	if r.IntN(3) > 0 {
		x.Week = r.IntN(weeks + 1)
	}
	depth := s.At[x.Sensor]
	shows := t.Temps[depth] + (t.Rates[depth]+t.Drifts[x.Sensor])*x.Week
	if shows < 0 || shows > 6400 { // too far for any reading
		return read(r, s, t, weeks/2)
	}
	x.Temp = min(6400, max(0, shows+r.IntN(2*s.Error+1)-s.Error))
	return x
}

// someReadings returns so many readings that agree with a truth.
func someReadings(r *rand.Rand, s api.SenseString, t api.SenseTruth, many, weeks int) []api.SenseReading {
	var l []api.SenseReading
	for range many {
		l = append(l, read(r, s, t, weeks))
	}
	return l
}

// some is a string with readings, some of which are wrong, and the truth that the others agree with.
type some struct {
	api.SenseString
	readings []api.SenseReading
	truth    api.SenseTruth
}

// small returns a string with readings, with few slopes.
func small(r *rand.Rand) some {
	s := some{SenseString: someString(r, 1+r.IntN(3), 1+r.IntN(4), 3)}
	s.truth = someTruth(r, s.SenseString)
	s.readings = someReadings(r, s.SenseString, s.truth, r.IntN(10), 12)
	s.spoil(r)
	return s
}

// large returns a string with as much as is allowed.
func large(r *rand.Rand) some {
	s := some{SenseString: someString(r, 1+r.IntN(api.SenseDepths), api.SenseSensors, api.SenseRate)}
	s.Error = r.IntN(api.SenseError + 1)
	s.truth = someTruth(r, s.SenseString)
	s.readings = someReadings(r, s.SenseString, s.truth, api.SenseReadings, api.SenseWeeks)
	s.spoil(r)
	return s
}

// spoil makes a reading wrong now and then.
func (s some) spoil(r *rand.Rand) {
	if len(s.readings) > 0 && r.IntN(3) == 0 {
		x := &s.readings[r.IntN(len(s.readings))]
		x.Temp = min(6400, max(0, x.Temp+r.IntN(41)-20))
	}
}

func (s some) slow() slow { return slow{s.SenseString, s.readings} }
