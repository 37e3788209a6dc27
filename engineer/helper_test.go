package engineer

import (
	"math/rand/v2"
	"regexp"
	"slices"
	"strconv"
	"strings"
	"testing"

	"talik/api"
	"talik/cool"
	"talik/ground"
	"talik/pile"
	"talik/pipe"
	"talik/sense"
	"talik/speak"
	"talik/store"
)

type goods = api.StoreGoods

// source returns a source of numbers that are the same in each run.
func source() *rand.Rand { return rand.New(rand.NewPCG(1, 2)) }

func span(low, high int) api.Span { return api.Span{Low: low, High: high} }

// town returns the town t of the chapter's examples.
func town() api.EngineerTown {
	year := api.GroundYear{Summer: span(60000, 70000), Winter: span(50000, 90000), Snow: span(100, 300)}
	return api.EngineerTown{
		Place: api.GroundPlace{
			Layers: []api.GroundLayer{{Thick: 500, Melt: span(100, 120)}, {Thick: 1000, Melt: span(200, 300)}},
			Warm:   span(0, 2000),
		},
		Years: []api.GroundYear{year, year},
		Site: api.PileSite{
			Piles: []api.Pile{
				{Depth: 8000, Point: 20, Skin: 30, Load: span(100, 120), Design: 230, Cost: 5},
				{Depth: 10000, Point: 0, Skin: 40, Load: span(100, 100), Design: 360, Cost: 5},
			},
			Pairs: []api.PilePair{{One: 0, Other: 1}},
			Rows:  []api.PileRow{{Use: 500, Settle: span(2, 4)}, {Use: 700, Settle: span(5, 9)}, {Use: 900, Settle: span(10, 20)}},
			May:   200,
			Sink:  25,
			Tilt:  10,
		},
		Cool: api.CoolTown{
			Houses: []api.CoolHouse{{Need: span(80, 100), Grace: 3}, {Need: span(50, 60), Grace: 5}},
			Sites: []api.CoolSite{
				{Cost: 300, Weeks: 2, Gives: []api.Span{span(60, 70), {}}},
				{Cost: 500, Weeks: 3, Gives: []api.Span{span(50, 60), span(40, 50)}},
				{Cost: 400, Weeks: 1, Gives: []api.Span{{}, span(60, 80)}},
				{Cost: 450, Weeks: 4, Gives: []api.Span{span(50, 55), span(30, 35)}},
			},
		},
		Net: api.PipeNet{
			Loops: []api.PipeLoop{
				{Warm: span(300, 400), Leak: span(100, 150), Wrap: span(50, 80), Cost: 30, Mass: 50, Ground: 200, Feed: 60, Fix: span(1, 2)},
				{Warm: span(300, 300), Leak: span(200, 200), Wrap: span(60, 60), Cost: 40, Mass: 50, Ground: 200, Feed: 80, Fix: span(1, 1)},
			},
			Frost: slices.Repeat([]api.Span{span(200, 300)}, 8),
			Ways:  [][]int{{0, 1, 1}, {1, 0, 1}, {1, 1, 0}},
		},
		String: api.SenseString{Error: 2, Drift: 3, Warm: 2, Depths: 2, At: []int{0, 0, 1}},
		Store: api.Store{
			Stock: goods{2, 1, 0},
			Yard:  goods{10, 8, 5},
			Rate:  4,
			Weeks: 4,
			Land:  3,
			Ships: []api.StoreShip{
				{Week: 0, Cargo: goods{4, 2, 1}, Cost: 50},
				{Week: 1, Cargo: goods{2, 4, 1}, Cost: 40},
				{Week: 0, Cargo: goods{6, 6, 3}, Cost: 100},
			},
			Ices:    [][]bool{{true, true, true}, {false, true, true}},
			Winters: [][]goods{{{1, 1, 0}, {1, 1, 0}, {1, 1, 0}, {1, 1, 1}}},
		},
		Council: api.SpeakCouncil{
			Languages: []int{0, 0, 1, 1, 2, 2},
			Quorum:    4,
			Rule:      api.SpeakSimple,
			Negative:  [3]bool{false, true, true},
		},
	}
}

// Votes of the council of the examples, of which the second one does not pass.
const (
	allFor = "vote yes yes en en um um"
	tooFew = "vote yes * en * um *"
)

// smallest returns a town with the least of all.
func smallest() api.EngineerTown {
	return api.EngineerTown{
		Place:   api.GroundPlace{Layers: []api.GroundLayer{{Thick: 1, Melt: span(1, 1)}}},
		Years:   make([]api.GroundYear, 1),
		Site:    api.PileSite{Piles: []api.Pile{{Depth: 1, Load: span(1, 1)}}, Rows: make([]api.PileRow, 1)},
		Cool:    api.CoolTown{Houses: make([]api.CoolHouse, 1), Sites: []api.CoolSite{{Weeks: 1, Gives: make([]api.Span, 1)}}},
		Net:     api.PipeNet{Loops: []api.PipeLoop{{Warm: span(1, 1), Mass: 1}}, Frost: make([]api.Span, 1), Ways: [][]int{{0, 0}, {0, 0}}},
		String:  api.SenseString{Depths: 1, At: []int{0}},
		Store:   api.Store{Weeks: 1, Land: 1, Ices: [][]bool{{false}}, Winters: [][]goods{{{}}}},
		Council: api.SpeakCouncil{Languages: []int{0}, Rule: api.SpeakSimple},
	}
}

// greatest returns a town with the most of all.
func greatest() api.EngineerTown {
	cold := slices.Repeat([]api.Span{span(0, api.CoolCold)}, api.CoolHouses)
	all := goods{api.StoreUnits, api.StoreUnits, api.StoreUnits}
	way := slices.Repeat([]int{0}, api.PipeLoops+1)
	t := api.EngineerTown{
		Place: api.GroundPlace{Layers: slices.Repeat([]api.GroundLayer{{Thick: api.GroundThick, Melt: span(1, api.GroundMelt)}}, api.GroundLayers), Warm: span(0, api.GroundHeat)},
		Years: slices.Repeat([]api.GroundYear{{Summer: span(0, api.GroundHeat), Winter: span(0, api.GroundHeat), Snow: span(0, api.GroundSnow)}}, api.EngineerYears),
		Site: api.PileSite{
			Piles: slices.Repeat([]api.Pile{{Depth: api.PileDepth, Point: api.PileForce, Skin: api.PileSkin, Load: span(1, api.PileForce), Design: api.PileForce, Cost: api.PileCost}}, api.PilePiles),
			Pairs: slices.Repeat([]api.PilePair{{One: 5, Other: 4}}, api.PilePairs),
			May:   1000,
			Sink:  api.PileLevel,
			Tilt:  api.PileLevel,
		},
		Cool: api.CoolTown{
			Houses: slices.Repeat([]api.CoolHouse{{Need: span(0, api.CoolCold), Grace: api.CoolWeeks}}, api.CoolHouses),
			Sites:  slices.Repeat([]api.CoolSite{{Cost: api.CoolCost, Weeks: api.CoolWeeks, Gives: cold}}, api.CoolSites),
		},
		Net: api.PipeNet{
			Loops: slices.Repeat([]api.PipeLoop{{Warm: span(1, api.PipeWarm), Leak: span(1000, 1000), Wrap: span(1000, 1000), Cost: api.PipeCost, Mass: api.PipeMass, Ground: 1000, Feed: api.PipeWarm, Fix: span(0, api.PipeHours)}}, api.PipeLoops),
			Frost: slices.Repeat([]api.Span{span(0, api.PipeFrost)}, api.PipeHours),
			Ways:  slices.Repeat([][]int{way}, api.PipeLoops+1),
		},
		String: api.SenseString{Error: api.SenseError, Drift: api.SenseRate, Warm: api.SenseRate, Depths: api.SenseDepths, At: []int{3, 3, 2, 2, 1, 0}},
		Store: api.Store{
			Stock: all, Yard: all, Rate: api.StoreRate, Weeks: api.StoreWeeks, Land: api.StoreLand,
			Ships:   slices.Repeat([]api.StoreShip{{Week: api.StoreLand - 1, Cargo: all, Cost: api.StoreCost}}, api.StoreShips),
			Ices:    slices.Repeat([][]bool{make([]bool, api.StoreLand)}, api.StoreIces),
			Winters: slices.Repeat([][]goods{slices.Repeat([]goods{all}, api.StoreWeeks)}, api.StoreWinters),
		},
		Council: api.SpeakCouncil{Languages: slices.Repeat([]int{2}, api.SpeakMembers), Quorum: api.SpeakMembers, Rule: api.SpeakGroups},
	}
	for row := range api.PileRows {
		t.Site.Rows = append(t.Site.Rows, api.PileRow{Use: api.PileUse - api.PileRows + 1 + row, Settle: span(0, api.PileSettle)})
	}
	return t
}

// changed returns a town after something was done to a copy of it.
func changed(t api.EngineerTown, do func(t *api.EngineerTown)) api.EngineerTown {
	t = townOf(t)
	do(&t)
	return t
}

// opened returns a town after some lines, none of which may return an error.
func opened(t *testing.T, x api.EngineerTown, lines ...string) *Engineer {
	t.Helper()
	e, bad := Open(x)
	if bad != api.OK {
		t.Fatal(bad)
	}
	for _, line := range lines {
		if _, bad := e.Do(line); bad != api.OK {
			t.Fatal(line, bad)
		}
	}
	return e
}

// asks are all lines that ask for something of a town.
func asks(x api.EngineerTown) []string {
	lines := []string{"thaws", "levels", "fault", "uneven", "first", "grants"}
	causes := len(x.String.At) + x.String.Depths
	for _, most := range []int{0, 1, causes, causes + 1} {
		lines = append(lines, "cause "+strconv.Itoa(most))
	}
	for from := range len(x.Net.Loops) + 2 {
		lines = append(lines, "repairs "+strconv.Itoa(from))
	}
	return lines
}

// seen returns all that a town tells: its journal, and what it returns for all lines that ask.
func seen(t *testing.T, e *Engineer) []string {
	t.Helper()
	journal, bad := e.Journal()
	if bad != api.OK {
		t.Fatal(bad)
	}
	all := []string{journal}
	for _, line := range asks(e.EngineerTown) {
		text, bad := e.Do(line)
		all = append(all, line+": "+text+" "+strconv.Itoa(int(bad)))
	}
	// Lines do not tell what is left of heat.
	ground, bad := e.Thaws()
	if bad != api.OK {
		t.Fatal(bad)
	}
	for _, year := range ground {
		all = append(all, numbersText(year.Left.Low, year.Left.High, int(year.Talik)))
	}
	return all
}

func numbersText(numbers ...int) string {
	text := ""
	for i, n := range numbers {
		if i > 0 {
			text += " "
		}
		text += strconv.Itoa(n)
	}
	return text
}

// The second implementation: it keeps nothing but the lines of acts, and goes through all of them for each thing that it is asked for.

const aNumber = `(0|[1-9][0-9]{0,8})`

var forms = map[string]*regexp.Regexp{
	"summer":  regexp.MustCompile(`^summer ` + aNumber + ` ` + aNumber + ` ` + aNumber + `$`),
	"jack":    regexp.MustCompile(`^jack ` + aNumber + `$`),
	"vote":    regexp.MustCompile(`^vote( ([a-z-]{1,8}|\*))+$`),
	"buy":     regexp.MustCompile(`^buy ` + aNumber + `$`),
	"break":   regexp.MustCompile(`^break ` + aNumber + `$`),
	"mend":    regexp.MustCompile(`^mend ` + aNumber + `$`),
	"read":    regexp.MustCompile(`^read ` + aNumber + ` ` + aNumber + ` ` + aNumber + `$`),
	"fail":    regexp.MustCompile(`^fail ` + aNumber + `$`),
	"fix":     regexp.MustCompile(`^fix ` + aNumber + `$`),
	"order":   regexp.MustCompile(`^order ` + aNumber + `$`),
	"thaws":   regexp.MustCompile(`^thaws$`),
	"levels":  regexp.MustCompile(`^levels$`),
	"fault":   regexp.MustCompile(`^fault$`),
	"uneven":  regexp.MustCompile(`^uneven$`),
	"cause":   regexp.MustCompile(`^cause ` + aNumber + `$`),
	"repairs": regexp.MustCompile(`^repairs ` + aNumber + `$`),
	"first":   regexp.MustCompile(`^first$`),
	"grants":  regexp.MustCompile(`^grants$`),
}

var actWords = []string{"summer", "jack", "vote", "buy", "break", "mend", "read", "fail", "fix", "order"}

type slow struct {
	api.EngineerTown
	done []string
}

func (s *slow) journal() string {
	text := ""
	for _, line := range s.done {
		text += line + "\n"
	}
	return text
}

// do does a line, if it is one.
func (s *slow) do(line string) (string, api.Errno) {
	if len(line) > 500 {
		return "", api.ErrLong
	}
	words := strings.Split(line, " ")
	form := forms[words[0]]
	if form == nil || !form.MatchString(line) {
		return "", api.ErrText
	}
	if !slices.Contains(actWords, words[0]) {
		return s.tell(words[0], numbersOf(line))
	}
	if bad := s.errorOf(line); bad != api.OK {
		return "", bad
	}
	s.done = append(s.done, line)
	return "", api.OK
}

// numbersOf returns the numbers of a line; 0 for a word that is none.
func numbersOf(line string) []int {
	var numbers []int
	for _, word := range strings.Split(line, " ")[1:] {
		n, _ := strconv.Atoi(word)
		numbers = append(numbers, n)
	}
	return numbers
}

// all returns the numbers of all lines with a first word that were done.
func (s *slow) all(word string) [][]int {
	var all [][]int
	for _, line := range s.done {
		if strings.HasPrefix(line, word+" ") {
			all = append(all, numbersOf(line))
		}
	}
	return all
}

// last returns which of some words, with a number, was done last; the empty text if none was.
func (s *slow) last(n int, words ...string) string {
	last := ""
	for _, line := range s.done {
		for _, word := range words {
			if line == word+" "+strconv.Itoa(n) {
				last = word
			}
		}
	}
	return last
}

// within reports whether a number is from 0 to most.
func within(n, most int) bool { return 0 <= n && n <= most }

// errorOf returns the error of the line of an act.
func (s *slow) errorOf(line string) api.Errno {
	word, n := strings.Split(line, " ")[0], numbersOf(line)
	argument, state, rule := false, false, false
	switch word {
	case "summer":
		argument = !within(n[0], 1000000) || !within(n[1], 1000000) || !within(n[2], 1000)
		state = len(s.all("summer")) == len(s.Years)
		if !state {
			y := s.Years[len(s.all("summer"))]
			for i, x := range []api.Span{y.Summer, y.Winter, y.Snow} {
				rule = rule || n[i] < x.Low || n[i] > x.High
			}
		}
	case "jack":
		argument = n[0] >= len(s.Site.Piles)
		state = len(s.all("summer")) == len(s.Years)
		for _, line := range slices.Backward(s.done) {
			if strings.HasPrefix(line, "summer") {
				break
			}
			state = state || line == "jack "+strconv.Itoa(n[0])
		}
	case "vote":
		argument = len(n) != len(s.Council.Languages)
	case "buy", "break", "mend":
		argument = n[0] >= len(s.Cool.Sites)
		last := s.last(n[0], "buy", "break", "mend")
		switch word {
		case "buy":
			state, rule = last != "", s.grants() == 0
		case "break":
			state = last != "buy" && last != "mend"
		case "mend":
			state = last != "break"
		}
	case "read":
		argument = n[0] >= len(s.String.At) || n[1] > 200 || n[2] > 6400
		state = len(s.all("read")) == 24
		rule = !argument && !state && !s.explained(append(s.readings(), api.SenseReading{Sensor: n[0], Week: n[1], Temp: n[2]}))
	case "fail", "fix":
		argument = n[0] >= len(s.Net.Loops)
		state = (s.last(n[0], "fail", "fix") == "fail") == (word == "fail")
	case "order":
		argument = n[0] >= len(s.Store.Ships)
		state = s.last(n[0], "order") != ""
	}
	switch {
	case argument:
		return api.ErrArg
	case len(s.done) == 120 || state:
		return api.ErrState
	case rule:
		return api.ErrRule
	}
	return api.OK
}

// explained reports whether the explanation with all causes agrees with readings.
func (s *slow) explained(l []api.SenseReading) bool {
	var all api.SenseCause
	for sensor := range s.String.At {
		all.Sensors = append(all.Sensors, sensor)
	}
	for depth := range s.String.Depths {
		all.Depths = append(all.Depths, depth)
	}
	is, _ := sense.Explains(s.String, l, all)
	return is
}

func (s *slow) readings() []api.SenseReading {
	var l []api.SenseReading
	for _, n := range s.all("read") {
		l = append(l, api.SenseReading{Sensor: n[0], Week: n[1], Temp: n[2]})
	}
	return l
}

// grants returns how many votes have passed less how many coolers were bought.
func (s *slow) grants() int {
	grants := -len(s.all("buy"))
	for _, line := range s.done {
		if votes, is := strings.CutPrefix(line, "vote "); is {
			words := strings.Split(strings.ReplaceAll(votes, "*", ""), " ")
			result, _ := speak.Count(s.Council, words)
			if result.Passed {
				grants++
			}
		}
	}
	return grants
}

// known returns the years as they are known.
func (s *slow) known() []api.GroundYear {
	var years []api.GroundYear
	for _, n := range s.all("summer") {
		years = append(years, api.GroundYear{Summer: span(n[0], n[0]), Winter: span(n[1], n[1]), Snow: span(n[2], n[2])})
	}
	return append(years, s.Years[len(years):]...)
}

// thaws returns the thaws of all piles in each year.
func (s *slow) thaws() [][]api.Span {
	seen, _ := ground.Years(s.Place, s.known())
	var thaws [][]api.Span
	for _, x := range seen {
		var year []api.Span
		for range s.Site.Piles {
			year = append(year, span(min(50000, x.Thaw.Low), min(50000, x.Thaw.High)))
		}
		thaws = append(thaws, year)
	}
	return thaws
}

// plan returns the jackings.
func (s *slow) plan() []int {
	plan := make([]int, len(s.Years)+1)
	year := 0
	for _, line := range s.done {
		if strings.HasPrefix(line, "summer") {
			year++
		}
		if strings.HasPrefix(line, "jack") {
			plan[year] += 1 << numbersOf(line)[0]
		}
	}
	return plan[:len(s.Years)]
}

// working returns the coolers that work.
func (s *slow) working() []int {
	var sites []int
	for site := range s.Cool.Sites {
		if last := s.last(site, "buy", "break", "mend"); last == "buy" || last == "mend" {
			sites = append(sites, site)
		}
	}
	return sites
}

// uneven returns the houses that are not level if they need the most and are given the least.
func (s *slow) uneven() []int {
	x := worst(s.Cool)
	more, _ := cool.Play(s.Cool, s.working(), x)
	var houses []int
	for house, n := range more {
		if n < 0 {
			houses = append(houses, house)
		}
	}
	return houses
}

// worst returns the truth in which houses need the most, and coolers give the least.
func worst(c api.CoolTown) api.CoolTruth {
	var x api.CoolTruth
	for _, h := range c.Houses {
		x.Needs = append(x.Needs, h.Need.High)
	}
	for _, site := range c.Sites {
		var gives []int
		for _, g := range site.Gives {
			gives = append(gives, g.Low)
		}
		x.Gives = append(x.Gives, gives)
	}
	return x
}

// bits returns the set of those of some things of which the last word was one.
func (s *slow) bits(many int, last string, words ...string) int {
	set := 0
	for n := range many {
		if s.last(n, words...) == last {
			set |= 1 << n
		}
	}
	return set
}

// tell returns what a line returns that asks for something.
func (s *slow) tell(word string, n []int) (string, api.Errno) {
	var all []int
	bad := api.OK
	switch word {
	case "thaws":
		seen, _ := ground.Years(s.Place, s.known())
		for _, year := range seen {
			all = append(all, year.Thaw.Low, year.Thaw.High)
		}
	case "levels":
		levels, _ := pile.Levels(s.Site, s.thaws(), s.plan())
		for _, level := range levels[min(len(s.all("summer")), len(s.Years)-1)] {
			all = append(all, level.Low, level.High)
		}
	case "fault":
		fault, _ := pile.Fault(s.Site, s.thaws(), s.plan())
		all = []int{fault.Year, int(fault.Rule), fault.Of}
	case "uneven":
		all = s.uneven()
	case "cause":
		var words []api.SenseWord
		words, bad = sense.Known(s.String, s.readings(), n[0])
		for _, word := range words {
			all = append(all, int(word))
		}
	case "repairs":
		var order []int
		var slack int
		order, slack, bad = pipe.Order(s.Net, n[0], s.bits(len(s.Net.Loops), "fail", "fail", "fix"))
		all = append([]int{slack}, order...)
	case "first":
		var week, kind int
		week, kind, bad = store.First(s.Store, s.bits(len(s.Store.Ships), "order", "order"))
		all = []int{week, kind}
	case "grants":
		all = []int{s.grants()}
	}
	if bad != api.OK {
		return "", bad
	}
	return numbersText(all...), api.OK
}

// Random towns.

// someSpan returns a span from low to high.
func someSpan(r *rand.Rand, low, high int) api.Span {
	a, b := low+r.IntN(high-low+1), low+r.IntN(high-low+1)
	return span(min(a, b), max(a, b))
}

// some returns a town.
func some(r *rand.Rand) api.EngineerTown {
	return api.EngineerTown{
		Place:   somePlace(r),
		Years:   someYears(r),
		Site:    someSite(r),
		Cool:    someCool(r),
		Net:     someNet(r),
		String:  someString(r),
		Store:   someStore(r),
		Council: someCouncil(r),
	}
}

// somePlace returns a place that is thawed more or less deeply; some of them more deeply than piles can stand.
func somePlace(r *rand.Rand) api.GroundPlace {
	p := api.GroundPlace{Warm: someSpan(r, 0, 3000)}
	most := []int{3, 200, 1000}[r.IntN(3)]
	for range 1 + r.IntN(api.GroundLayers) {
		p.Layers = append(p.Layers, api.GroundLayer{Thick: 1 + r.IntN(1000), Melt: someSpan(r, 1, most)})
	}
	return p
}

func someYears(r *rand.Rand) []api.GroundYear {
	var years []api.GroundYear
	for range 1 + r.IntN(api.EngineerYears) {
		years = append(years, api.GroundYear{Summer: someSpan(r, 40000, 80000), Winter: someSpan(r, 40000, 90000), Snow: someSpan(r, 0, 300)})
	}
	return years
}

func someSite(r *rand.Rand) api.PileSite {
	s := api.PileSite{May: r.IntN(1001), Sink: r.IntN(60), Tilt: r.IntN(60)}
	for range 1 + r.IntN(api.PilePiles) {
		s.Piles = append(s.Piles, api.Pile{Depth: 1000 + r.IntN(15000), Point: r.IntN(100), Skin: 10 + r.IntN(50), Load: someSpan(r, 50, 150), Design: r.IntN(300), Cost: r.IntN(9)})
	}
	for range r.IntN(4) {
		one, other := r.IntN(len(s.Piles)), r.IntN(len(s.Piles))
		if one != other {
			s.Pairs = append(s.Pairs, api.PilePair{One: one, Other: other})
		}
	}
	row := api.PileRow{}
	for range 1 + r.IntN(api.PileRows) {
		row.Use += 1 + r.IntN(800)
		row.Settle.Low += r.IntN(4)
		row.Settle.High = max(row.Settle.High, row.Settle.Low) + r.IntN(4)
		s.Rows = append(s.Rows, row)
	}
	return s
}

func someCool(r *rand.Rand) api.CoolTown {
	var c api.CoolTown
	for range 1 + r.IntN(api.CoolHouses) {
		c.Houses = append(c.Houses, api.CoolHouse{Need: someSpan(r, 0, 60), Grace: r.IntN(9)})
	}
	for range 1 + r.IntN(api.CoolSites) {
		site := api.CoolSite{Cost: r.IntN(9), Weeks: 1 + r.IntN(9)}
		for range c.Houses {
			site.Gives = append(site.Gives, someSpan(r, 0, 60))
		}
		c.Sites = append(c.Sites, site)
	}
	return c
}

func someNet(r *rand.Rand) api.PipeNet {
	var n api.PipeNet
	for range 1 + r.IntN(api.PipeLoops) {
		leak := someSpan(r, 20, 150)
		wrap := span(r.IntN(leak.Low+1), 0)
		wrap.High = wrap.Low + r.IntN(leak.High-wrap.Low+1)
		n.Loops = append(n.Loops, api.PipeLoop{Warm: someSpan(r, 100, 400), Leak: leak, Wrap: wrap, Cost: r.IntN(9), Mass: 1 + r.IntN(9), Ground: r.IntN(1001), Feed: r.IntN(99), Fix: someSpan(r, 0, 3)})
	}
	for range 1 + r.IntN(24) {
		n.Frost = append(n.Frost, someSpan(r, 0, 300))
	}
	for place := range len(n.Loops) + 1 {
		row := make([]int, len(n.Loops)+1)
		for other := range row {
			if other != place {
				row[other] = r.IntN(3)
			}
		}
		n.Ways = append(n.Ways, row)
	}
	return n
}

func someString(r *rand.Rand) api.SenseString {
	s := api.SenseString{Error: []int{0, 1, 4, 40}[r.IntN(4)], Drift: r.IntN(4), Warm: r.IntN(4), Depths: 1 + r.IntN(api.SenseDepths)}
	for range 1 + r.IntN(api.SenseSensors) {
		s.At = append(s.At, r.IntN(s.Depths))
	}
	return s
}

func someStore(r *rand.Rand) api.Store {
	some := func(most int) goods { return goods{r.IntN(most + 1), r.IntN(most + 1), r.IntN(most + 1)} }
	s := api.Store{Stock: some(6), Rate: r.IntN(16), Weeks: 1 + r.IntN(9)}
	for kind, n := range some(15) {
		s.Yard[kind] = s.Stock[kind] + n
	}
	s.Land = 1 + r.IntN(min(s.Weeks, api.StoreLand))
	for range r.IntN(api.StoreShips + 1) {
		s.Ships = append(s.Ships, api.StoreShip{Week: r.IntN(s.Land), Cargo: some(9), Cost: r.IntN(9)})
	}
	for range 1 + r.IntN(api.StoreIces) {
		var ice []bool
		for range s.Land {
			ice = append(ice, r.IntN(4) > 0)
		}
		s.Ices = append(s.Ices, ice)
	}
	for range 1 + r.IntN(api.StoreWinters) {
		var winter []goods
		for range s.Weeks {
			winter = append(winter, some(r.IntN(3)))
		}
		s.Winters = append(s.Winters, winter)
	}
	return s
}

func someCouncil(r *rand.Rand) api.SpeakCouncil {
	c := api.SpeakCouncil{Quorum: r.IntN(3), Rule: api.SpeakSimple + api.SpeakRule(r.IntN(3))}
	for range 1 + r.IntN(api.SpeakMembers) {
		c.Languages = append(c.Languages, r.IntN(3))
	}
	for language := range c.Negative {
		c.Negative[language] = r.IntN(2) == 0
	}
	return c
}

// of returns a number of a span.
func of(r *rand.Rand, s api.Span) int { return s.Low + r.IntN(s.High-s.Low+1) }

// someLine returns the line of an act that can mostly be done.
func someLine(r *rand.Rand, s *slow) string {
	word := actWords[r.IntN(len(actWords))]
	many := 1
	switch word {
	case "summer":
		if r.IntN(3) > 0 { // as years end too soon otherwise
			return someLine(r, s)
		}
		year := s.Years[min(len(s.all("summer")), len(s.Years)-1)]
		n := []int{of(r, year.Summer), of(r, year.Winter), of(r, year.Snow)}
		if r.IntN(6) == 0 {
			n[r.IntN(3)] = []int{0, 1000, 1001, 100000, 1000000, 1000001}[r.IntN(6)]
		}
		return "summer " + numbersText(n...)
	case "vote":
		return someVote(r, s.Council)
	case "read":
		sensor, week := r.IntN(len(s.String.At)+r.IntN(8)/7), r.IntN(20+r.IntN(8)/7*400)
		temp := 2500 + 10*sensor + r.IntN(3)*week*r.IntN(2) + r.IntN(4)
		if r.IntN(20) == 0 {
			temp = []int{0, 6400, 6401, 3300}[r.IntN(4)]
		}
		return "read " + numbersText(sensor, week, temp)
	case "jack":
		many = len(s.Site.Piles)
	case "buy", "break", "mend":
		many = len(s.Cool.Sites)
	case "fail", "fix":
		many = len(s.Net.Loops)
	case "order":
		many = max(1, len(s.Store.Ships))
	}
	return word + " " + numbersText(r.IntN(many+r.IntN(8)/7))
}

// someVote returns a vote in which most want the motion.
func someVote(r *rand.Rand, c api.SpeakCouncil) string {
	line := "vote"
	for _, language := range c.Languages {
		vote := []api.SpeakVote{api.SpeakFor, api.SpeakFor, api.SpeakFor, api.SpeakAgainst, api.SpeakRest}[r.IntN(5)]
		word, _ := speak.Word(language, c.Negative[language], vote)
		switch r.IntN(20) {
		case 0:
			word = "*"
		case 1:
			word = "spoilt-"
		}
		line += " " + word
	}
	if r.IntN(20) == 0 {
		line += " yes"
	}
	return line
}
