package seep

import (
	"cmp"
	"math/rand/v2"
	"slices"

	"talik/api"
)

// source returns a source of numbers that are the same in each run.
func source() *rand.Rand { return rand.New(rand.NewPCG(1, 2)) }

func span(low, high int) api.Span { return api.Span{Low: low, High: high} }

// town returns the map m of the chapter's examples.
func town() api.SeepMap {
	return api.SeepMap{
		Points: 5,
		Edges: []api.SeepEdge{
			{From: 0, To: 1, Depth: 0, Cost: 300},
			{From: 1, To: 3, Depth: 900, Cost: 500},
			{From: 0, To: 2, Depth: 600, Cost: 200},
			{From: 2, To: 3, Depth: 700, Cost: 250},
			{From: 2, To: 4, Depth: 0, Cost: -1},
			{From: 1, To: 2, Depth: 800, Cost: 100},
		},
		Wastes: []int{0},
		Wells:  []int{3},
		Thaws:  []api.Span{span(500, 650), span(550, 750), span(600, 850), span(650, 950)},
		Lakes: []api.SeepLake{
			{Into: 1, Rim: 620, Volume: span(100, 120), Room: span(10, 20)},
			{Into: 2, Rim: 5000, Volume: span(200, 250), Room: span(90, 130)},
			{Into: -1, Rim: 5000, Volume: span(400, 400), Room: span(300, 400)},
		},
	}
}

// way is an edge on which a dyke costs 1.
func way(from, to, depth int) api.SeepEdge {
	return api.SeepEdge{From: from, To: to, Depth: depth, Cost: 1}
}

// ways returns a map of ten points with waste at the point 0, a well at the point 9, and some edges, whose thaws are all as here.
func ways(thaws []int, edges ...api.SeepEdge) api.SeepMap {
	m := api.SeepMap{Points: 10, Edges: slices.Clone(edges), Wastes: []int{0}, Wells: []int{9}}
	for _, thaw := range thaws {
		m.Thaws = append(m.Thaws, span(thaw, thaw))
	}
	return m
}

// lakes returns a map of one point with some lakes, and a truth of it.
func lakes(thaws []int, of ...api.SeepLake) (api.SeepMap, api.SeepTruth) {
	m := api.SeepMap{Points: 1, Lakes: of}
	t := api.SeepTruth{Thaws: thaws}
	for _, thaw := range thaws {
		m.Thaws = append(m.Thaws, span(thaw, thaw))
	}
	for _, l := range of {
		t.Volumes, t.Rooms = append(t.Volumes, l.Volume.Low), append(t.Rooms, l.Room.Low)
	}
	return m, t
}

// lake is one of whose Volume and Room there is no doubt.
func lake(into, rim, volume, room int) api.SeepLake {
	return api.SeepLake{Into: into, Rim: rim, Volume: span(volume, volume), Room: span(room, room)}
}

// greatest returns a map with the most of all.
func greatest() api.SeepMap {
	m := api.SeepMap{Points: 10, Thaws: slices.Repeat([]api.Span{span(0, 20000)}, 10)}
	for edge := range 12 {
		m.Edges = append(m.Edges, api.SeepEdge{From: edge % 9, To: edge%9 + 1, Depth: 20000, Cost: 1000000})
	}
	for point := range 10 {
		m.Wastes, m.Wells = append(m.Wastes, point), append(m.Wells, point)
	}
	for number := range 6 {
		m.Lakes = append(m.Lakes, api.SeepLake{Into: (number+2)%7 - 1, Rim: 20000, Volume: span(0, 1000000), Room: span(0, 1000000)})
	}
	return m
}

// smallest returns a map with the least of all.
func smallest() api.SeepMap { return api.SeepMap{Points: 1, Thaws: []api.Span{{}}} }

func cloneMap(m api.SeepMap) api.SeepMap {
	m.Edges, m.Wastes, m.Wells = slices.Clone(m.Edges), slices.Clone(m.Wastes), slices.Clone(m.Wells)
	m.Thaws, m.Lakes = slices.Clone(m.Thaws), slices.Clone(m.Lakes)
	return m
}

// changed returns a map after something was done to a copy of it.
func changed(m api.SeepMap, do func(m *api.SeepMap)) api.SeepMap {
	m = cloneMap(m)
	do(&m)
	return m
}

// badMaps returns maps that are not as defined, each for one reason.
func badMaps() map[string]api.SeepMap {
	all := map[string]api.SeepMap{"nothing": {}}
	change := func(name string, do func(m *api.SeepMap)) { all[name] = changed(town(), do) }
	change("no points", func(m *api.SeepMap) { m.Points, m.Edges, m.Wastes, m.Wells = 0, nil, nil, nil })
	change("points -1", func(m *api.SeepMap) { m.Points, m.Edges, m.Wastes, m.Wells = -1, nil, nil, nil })
	change("11 points", func(m *api.SeepMap) { m.Points = 11 })
	change("fewer points than an edge needs", func(m *api.SeepMap) { m.Points = 4 })
	change("13 edges", func(m *api.SeepMap) { m.Edges = slices.Repeat([]api.SeepEdge{way(0, 1, 0)}, 13) })
	change("from -1", func(m *api.SeepMap) { m.Edges[0].From = -1 })
	change("from 5", func(m *api.SeepMap) { m.Edges[5].From = 5 })
	change("to -1", func(m *api.SeepMap) { m.Edges[0].To = -1 })
	change("to 5", func(m *api.SeepMap) { m.Edges[5].To = 5 })
	change("an edge to where it begins", func(m *api.SeepMap) { m.Edges[3].To = 2 })
	change("depth -1", func(m *api.SeepMap) { m.Edges[0].Depth = -1 })
	change("depth 20001", func(m *api.SeepMap) { m.Edges[5].Depth = 20001 })
	change("cost -2", func(m *api.SeepMap) { m.Edges[0].Cost = -2 })
	change("cost 1000001", func(m *api.SeepMap) { m.Edges[5].Cost = 1000001 })
	for name, list := range map[string]func(m *api.SeepMap) *[]int{
		"wastes": func(m *api.SeepMap) *[]int { return &m.Wastes },
		"wells":  func(m *api.SeepMap) *[]int { return &m.Wells },
	} {
		change(name+" -1", func(m *api.SeepMap) { *list(m) = []int{-1} })
		change(name+" 5", func(m *api.SeepMap) { *list(m) = []int{0, 5} })
		change(name+" twice", func(m *api.SeepMap) { *list(m) = []int{1, 1} })
		change(name+" decreasing", func(m *api.SeepMap) { *list(m) = []int{0, 2, 1} })
	}
	change("no thaws", func(m *api.SeepMap) { m.Thaws = nil })
	change("11 thaws", func(m *api.SeepMap) { m.Thaws = make([]api.Span, 11) })
	change("thaw -1", func(m *api.SeepMap) { m.Thaws[0].Low = -1 })
	change("a thaw that ends before it begins", func(m *api.SeepMap) { m.Thaws[3] = span(651, 650) })
	change("thaw 20001", func(m *api.SeepMap) { m.Thaws[3].High = 20001 })
	change("7 lakes", func(m *api.SeepMap) { m.Lakes = slices.Repeat([]api.SeepLake{lake(-1, 0, 0, 0)}, 7) })
	change("into -2", func(m *api.SeepMap) { m.Lakes[2].Into = -2 })
	change("into 3", func(m *api.SeepMap) { m.Lakes[0].Into = 3 })
	change("into itself", func(m *api.SeepMap) { m.Lakes[1].Into = 1 })
	change("into the one before", func(m *api.SeepMap) { m.Lakes[2].Into = 1 })
	change("into the first one", func(m *api.SeepMap) { m.Lakes[1].Into = 0 })
	change("rim -1", func(m *api.SeepMap) { m.Lakes[0].Rim = -1 })
	change("rim 20001", func(m *api.SeepMap) { m.Lakes[2].Rim = 20001 })
	for name, of := range map[string]func(m *api.SeepMap, lake int) *api.Span{
		"volume": func(m *api.SeepMap, lake int) *api.Span { return &m.Lakes[lake].Volume },
		"room":   func(m *api.SeepMap, lake int) *api.Span { return &m.Lakes[lake].Room },
	} {
		change(name+" -1", func(m *api.SeepMap) { of(m, 0).Low = -1 })
		change(name+" that ends before it begins", func(m *api.SeepMap) { *of(m, 1) = span(201, 200) })
		change(name+" 1000001", func(m *api.SeepMap) { of(m, 2).High = 1000001 })
	}
	return all
}

// names returns the names of some things in order.
func names[T any](things map[string]T) []string {
	var all []string
	for name := range things {
		all = append(all, name)
	}
	slices.Sort(all)
	return all
}

// upTo returns some number from low to high.
func upTo(r *rand.Rand, low, high int) int { return low + r.IntN(high-low+1) }

// someOf returns each number below many, or not.
func someOf(r *rand.Rand, many, oneIn int) []int {
	var some []int
	for n := range many {
		if r.IntN(oneIn) == 0 {
			some = append(some, n)
		}
	}
	return some
}

// few returns mostly one or two of the numbers below many.
func few(r *rand.Rand, many int) []int {
	list := someOf(r, many, 7)
	if len(list) == 0 && r.IntN(5) > 0 {
		return []int{r.IntN(many)}
	}
	return list
}

func someSpan(r *rand.Rand, most, wide int) api.Span {
	low := upTo(r, 0, most)
	return span(low, upTo(r, low, min(most, low+wide)))
}

// someMap returns a map with at most so many of each, whose depths are at most deep.
func someMap(r *rand.Rand, points, edges, years, deep, lakes int) api.SeepMap {
	m := api.SeepMap{Points: points, Wastes: few(r, points), Wells: few(r, points)}
	for range min(edges, 12*(points-1)) {
		from := r.IntN(points)
		to := (from + 1) % points
		if r.IntN(3) == 0 {
			to = (from + upTo(r, 1, points-1)) % points
		}
		m.Edges = append(m.Edges, api.SeepEdge{From: from, To: to, Depth: upTo(r, 0, deep), Cost: upTo(r, -1, 5)})
	}
	for range years {
		m.Thaws = append(m.Thaws, someSpan(r, deep*2/3, deep/3))
	}
	for number := range lakes {
		into := upTo(r, number, lakes-1)
		if into == number {
			into = -1
		}
		m.Lakes = append(m.Lakes, api.SeepLake{Into: into, Rim: upTo(r, 0, deep+deep/2), Volume: someSpan(r, 4, 2), Room: someSpan(r, 7, 2)})
	}
	for i := range m.Lakes {
		m.Lakes[i].Rim = min(m.Lakes[i].Rim, api.SeepDepth)
	}
	return m
}

// small returns a map with few of all, of which all truths can be gone through.
func small(r *rand.Rand) api.SeepMap {
	often := func(most int) int { return max(upTo(r, 1, most), upTo(r, 1, most)) }
	return someMap(r, often(6), often(11)-1, often(4), 9, often(4)-1)
}

// large returns a map with up to as many of all as is allowed.
func large(r *rand.Rand) api.SeepMap {
	m := someMap(r, upTo(r, 8, 10), 12, upTo(r, 8, 10), 20000, 6)
	for i := range m.Edges {
		m.Edges[i].Cost = upTo(r, -1, 1000000)
	}
	for i := range m.Lakes {
		m.Lakes[i].Volume, m.Lakes[i].Room = someSpan(r, 1000000, 300000), someSpan(r, 1000000, 300000)
	}
	return m
}

// someDykes returns dykes that can be built on a map.
func someDykes(r *rand.Rand, m api.SeepMap) []int {
	return slices.DeleteFunc(someOf(r, len(m.Edges), 5), func(edge int) bool { return m.Edges[edge].Cost == -1 })
}

// pick returns a number of each span.
func pick(spans []api.Span, of func(s api.Span) int) []int {
	var all []int
	for _, s := range spans {
		all = append(all, of(s))
	}
	return all
}

func someIn(r *rand.Rand) func(s api.Span) int {
	return func(s api.Span) int { return upTo(r, s.Low, s.High) }
}

func someTruth(r *rand.Rand, m api.SeepMap) api.SeepTruth {
	t := api.SeepTruth{Thaws: pick(m.Thaws, someIn(r))}
	for _, l := range m.Lakes {
		t.Volumes, t.Rooms = append(t.Volumes, someIn(r)(l.Volume)), append(t.Rooms, someIn(r)(l.Room))
	}
	return t
}

// choices returns all lists with a number of each span.
func choices(spans []api.Span) [][]int {
	all := [][]int{nil}
	for _, s := range spans {
		var longer [][]int
		for _, list := range all {
			for n := s.Low; n <= s.High; n++ {
				longer = append(longer, append(slices.Clone(list), n))
			}
		}
		all = longer
	}
	return all
}

// slow does what the chapter says, as it says it.
type slow struct {
	api.SeepMap
	dykes []int
}

// foul returns the first year in which each point is foul in truth.
func (s slow) foul(thaws []int) []int {
	first := make([]int, s.Points)
	for point := range first {
		first[point] = len(thaws)
		for year := len(thaws) - 1; year >= 0; year-- {
			if s.isFoul(point, thaws[:year+1]) {
				first[point] = year
			}
		}
	}
	return first
}

// isFoul reports whether a point is foul in the last of some years: year by year, each edge is looked at as often as there are edges.
func (s slow) isFoul(point int, thaws []int) bool {
	foul := map[int]bool{}
	for _, waste := range s.Wastes {
		foul[waste] = true
	}
	for _, thaw := range thaws {
		for range s.Edges {
			for number, e := range s.Edges {
				if !slices.Contains(s.dykes, number) && e.Depth <= thaw && foul[e.From] {
					foul[e.To] = true
				}
			}
		}
	}
	return foul[point]
}

// years returns what is known of each point, as all truths show it.
func (s slow) years() []api.Span {
	known := slices.Repeat([]api.Span{span(len(s.Thaws), 0)}, s.Points)
	for _, thaws := range choices(s.Thaws) {
		for point, year := range s.foul(thaws) {
			known[point] = span(min(known[point].Low, year), max(known[point].High, year))
		}
	}
	return known
}

// route returns the first one of all lists of edges that are routes in time, and whether there is one.
func (s slow) route(point, latest int) ([]int, bool) {
	lists := [][]int{nil}
	for range s.Points {
		var longer [][]int
		for _, list := range lists {
			if latest < len(s.Thaws) && s.isRoute(list, point, latest) {
				return list, true
			}
			for edge, e := range s.Edges {
				if len(list) == 0 || s.Edges[list[len(list)-1]].To == e.From {
					longer = append(longer, append(slices.Clone(list), edge))
				}
			}
		}
		lists = longer
	}
	return nil, false
}

// isRoute reports whether a list is a route to a point whose last year can be one that is not after the latest.
func (s slow) isRoute(list []int, point, latest int) bool {
	if len(list) == 0 {
		return slices.Contains(s.Wastes, point)
	}
	at := s.Edges[list[0]].From
	if !slices.Contains(s.Wastes, at) {
		return false
	}
	for _, edge := range list {
		if s.Edges[edge].From != at || slices.Contains(s.dykes, edge) {
			return false
		}
		at = s.Edges[edge].To
	}
	return at == point && s.hasYears(list, 0, latest)
}

// hasYears tries all years for edges, from a year on.
func (s slow) hasYears(list []int, from, latest int) bool {
	if len(list) == 0 {
		return true
	}
	for year := from; year <= latest; year++ {
		if s.Thaws[year].High >= s.Edges[list[0]].Depth && s.hasYears(list[1:], year, latest) {
			return true
		}
	}
	return false
}

// canBeFoul reports whether a point of a list can be foul in any year.
func (s slow) canBeFoul(points []int) bool {
	thaws := pick(s.Thaws, func(s api.Span) int { return s.High })
	return slices.ContainsFunc(points, func(point int) bool { return s.isFoul(point, thaws) })
}

// allDykes returns all dykes that can be built.
func (s slow) allDykes() [][]int {
	all := [][]int{nil}
	for number, e := range s.Edges {
		if e.Cost == -1 {
			continue
		}
		for _, dykes := range slices.Clone(all) {
			all = append(all, append(slices.Clone(dykes), number))
		}
	}
	return all
}

// best returns the best dykes, and whether there are any.
func (s slow) best() ([]int, bool) {
	keeping := slices.DeleteFunc(s.allDykes(), func(dykes []int) bool { return slow{s.SeepMap, dykes}.canBeFoul(s.Wells) })
	if len(keeping) == 0 {
		return nil, false
	}
	return slices.MinFunc(keeping, func(a, b []int) int {
		if n := cmp.Compare(costOf(s.SeepMap, a), costOf(s.SeepMap, b)); n != 0 {
			return n
		}
		if len(a) != len(b) {
			return len(a) - len(b)
		}
		return slices.Compare(a, b)
	}), true
}

// costOf returns what dykes cost.
func costOf(m api.SeepMap, dykes []int) int {
	whole := 0
	for _, edge := range dykes {
		whole += m.Edges[edge].Cost
	}
	return whole
}

// fair reports whether prices are fair.
func (s slow) fair(routes [][]int, prices []int) bool {
	borne := make([]int, len(s.Edges))
	for i, route := range routes {
		toWell := func(well int) bool { return s.isRoute(route, well, len(s.Thaws)-1) }
		if !slices.ContainsFunc(s.Wells, toWell) {
			return false
		}
		seen := map[int]bool{}
		for _, edge := range route {
			if !seen[edge] {
				seen[edge] = true
				borne[edge] += prices[i]
			}
		}
	}
	for edge, e := range s.Edges {
		if e.Cost != -1 && borne[edge] > e.Cost {
			return false
		}
	}
	return true
}

// slowPour follows the water of each lake by itself: where it is, or -1 if it has left the map.
func slowPour(m api.SeepMap, t api.SeepTruth) ([]int, api.SeepLedger) {
	drained := slices.Repeat([]int{len(t.Thaws)}, len(m.Lakes))
	var at []int
	for number := range m.Lakes {
		at = append(at, number)
	}
	for year, thaw := range t.Thaws {
		for number, l := range m.Lakes {
			came := 0
			for other, where := range at {
				if where == number && other != number {
					came += t.Volumes[other]
				}
			}
			if drained[number] == len(t.Thaws) && (thaw >= l.Rim || came > t.Rooms[number]) {
				drained[number] = year
			}
			for other := range at {
				for at[other] != -1 && drained[at[other]] < len(t.Thaws) {
					at[other] = m.Lakes[at[other]].Into
				}
			}
		}
	}
	var ledger api.SeepLedger
	for number, where := range at {
		ledger.All += t.Volumes[number]
		if where == -1 {
			ledger.Out += t.Volumes[number]
		} else {
			ledger.Kept += t.Volumes[number]
		}
	}
	return drained, ledger
}

// slowTruths returns all truths of a map.
func slowTruths(m api.SeepMap) []api.SeepTruth {
	spans := slices.Clone(m.Thaws)
	for _, l := range m.Lakes {
		spans = append(spans, l.Volume)
	}
	for _, l := range m.Lakes {
		spans = append(spans, l.Room)
	}
	years, both := len(m.Thaws), len(m.Thaws)+len(m.Lakes)
	var all []api.SeepTruth
	for _, list := range choices(spans) {
		all = append(all, api.SeepTruth{Thaws: list[:years:years], Volumes: list[years:both:both], Rooms: list[both:]})
	}
	return all
}

// slowDrain returns what is known of each lake, as all truths show it.
func slowDrain(m api.SeepMap) []api.Span {
	known := slices.Repeat([]api.Span{span(len(m.Thaws), 0)}, len(m.Lakes))
	for _, t := range slowTruths(m) {
		drained, _ := slowPour(m, t)
		for number, year := range drained {
			known[number] = span(min(known[number].Low, year), max(known[number].High, year))
		}
	}
	return known
}
