package seep

import "talik/api"

// checkDykes returns the error of a map and dykes.
func checkDykes(m api.SeepMap, dykes []int) api.Errno {
	if Check(m) != api.OK || !increasing(dykes, len(m.Edges)) {
		return api.ErrArg
	}
	for _, edge := range dykes {
		if m.Edges[edge].Cost == noDyke {
			return api.ErrArg
		}
	}
	return api.OK
}

func edgesFine(m api.SeepMap) bool {
	for _, e := range m.Edges {
		if !from(0, e.From, m.Points-1) || !from(0, e.To, m.Points-1) || e.From == e.To {
			return false
		}
		if !from(0, e.Depth, api.SeepDepth) || e.Cost != noDyke && !from(0, e.Cost, api.SeepCost) {
			return false
		}
	}
	return len(m.Edges) <= api.SeepEdges
}

func thawsFine(thaws []api.Span) bool {
	for _, thaw := range thaws {
		if !spanFine(thaw, api.SeepDepth) {
			return false
		}
	}
	return from(1, len(thaws), api.SeepYears)
}

func lakesFine(lakes []api.SeepLake) bool {
	for number, l := range lakes {
		if l.Into != offMap && !from(number+1, l.Into, len(lakes)-1) || !from(0, l.Rim, api.SeepDepth) {
			return false
		}
		if !spanFine(l.Volume, api.SeepWater) || !spanFine(l.Room, api.SeepWater) {
			return false
		}
	}
	return len(lakes) <= api.SeepLakes
}

func truthFine(m api.SeepMap, t api.SeepTruth) bool {
	return within(t.Thaws, m.Thaws) && within(t.Volumes, volumes(m.Lakes)) && within(t.Rooms, rooms(m.Lakes))
}

// routesFine reports whether all lists are of edges.
func routesFine(m api.SeepMap, routes [][]int) bool {
	for _, route := range routes {
		for _, edge := range route {
			if !from(0, edge, len(m.Edges)-1) {
				return false
			}
		}
	}
	return true
}

func pricesFine(prices []int) bool {
	for _, price := range prices {
		if !from(0, price, api.SeepCost) {
			return false
		}
	}
	return true
}

// increasing reports whether numbers are strictly increasing, and from 0 to some one less than many.
func increasing(numbers []int, many int) bool {
	least := 0
	for _, n := range numbers {
		if !from(least, n, many-1) {
			return false
		}
		least = n + 1
	}
	return true
}

// within reports whether there is a number for each span, and each is of its span.
func within(numbers []int, spans []api.Span) bool {
	if len(numbers) != len(spans) {
		return false
	}
	for i, s := range spans {
		if !from(s.Low, numbers[i], s.High) {
			return false
		}
	}
	return true
}

// spanFine reports whether a span is one of numbers from 0 to most.
func spanFine(s api.Span, most int) bool { return from(0, s.Low, s.High) && s.High <= most }

// from reports whether a number is from least to most.
func from(least, n, most int) bool { return least <= n && n <= most }
