package seep

import (
	"slices"

	"talik/api"
)

// offMap is the Into of a lake whose water leaves the map.
const offMap = -1

// water is what is in the lakes of a map, and what has left it, in truth.
type water struct {
	api.SeepMap
	truth   api.SeepTruth
	drained []int // the year in which each lake has drained, or the number of years
	came    []int // what has come into each lake before it drained
	out     int
}

// pour follows the lakes through all years.
func pour(m api.SeepMap, t api.SeepTruth) *water {
	w := &water{SeepMap: m, truth: t, came: make([]int, len(m.Lakes))}
	w.drained = slices.Repeat([]int{len(m.Thaws)}, len(m.Lakes))
	for year, thaw := range t.Thaws {
		for lake, l := range m.Lakes {
			if !w.isDrained(lake) && (thaw >= l.Rim || w.came[lake] > t.Rooms[lake]) {
				w.drained[lake] = year
				w.flow(l.Into, sum(t.Volumes[lake], w.came[lake]))
			}
		}
	}
	return w
}

func (w *water) isDrained(lake int) bool { return w.drained[lake] < len(w.Thaws) }

// flow lets some water come into a lake, or leave the map. Lakes that have drained keep none of it.
func (w *water) flow(into, amount int) {
	for into != offMap && w.isDrained(into) {
		into = w.Lakes[into].Into
	}
	if into == offMap {
		w.out += amount
		return
	}
	w.came[into] += amount
}

func (w *water) ledger() api.SeepLedger {
	kept := 0
	for lake := range w.Lakes {
		if !w.isDrained(lake) {
			kept += sum(w.truth.Volumes[lake], w.came[lake])
		}
	}
	return api.SeepLedger{All: sum(w.truth.Volumes...), Out: w.out, Kept: kept}
}

// drain returns what is known of each lake. More thaw, more water and less room never make a lake drain later.
func drain(m api.SeepMap) []api.Span {
	wet := api.SeepTruth{Thaws: highs(m.Thaws), Volumes: highs(volumes(m.Lakes)), Rooms: lows(rooms(m.Lakes))}
	dry := api.SeepTruth{Thaws: lows(m.Thaws), Volumes: lows(volumes(m.Lakes)), Rooms: highs(rooms(m.Lakes))}
	return spansOf(pour(m, wet).drained, pour(m, dry).drained)
}

func volumes(lakes []api.SeepLake) []api.Span {
	return each(lakes, func(l api.SeepLake) api.Span { return l.Volume })
}

func rooms(lakes []api.SeepLake) []api.Span {
	return each(lakes, func(l api.SeepLake) api.Span { return l.Room })
}

func lows(spans []api.Span) []int { return each(spans, func(s api.Span) int { return s.Low }) }

func highs(spans []api.Span) []int { return each(spans, func(s api.Span) int { return s.High }) }

// spansOf returns the spans between two ends each.
func spansOf(lows, highs []int) []api.Span {
	var spans []api.Span
	for i, low := range lows {
		spans = append(spans, api.Span{Low: low, High: highs[i]})
	}
	return spans
}

// each returns something of each of some things.
func each[T, U any](things []T, of func(T) U) []U {
	var all []U
	for _, thing := range things {
		all = append(all, of(thing))
	}
	return all
}
