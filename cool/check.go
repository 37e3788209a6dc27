package cool

import (
	"slices"

	"talik/api"
)

// checkCoolers returns the error of a town and coolers.
func checkCoolers(t api.CoolTown, coolers []int) api.Errno {
	if Check(t) != api.OK || !coolersFine(t, coolers) {
		return api.ErrArg
	}
	return api.OK
}

// checkFails returns the error of a town, coolers and a number of failures.
func checkFails(t api.CoolTown, coolers []int, fails int) api.Errno {
	if e := checkCoolers(t, coolers); e != api.OK {
		return e
	}
	if !from(0, fails, api.CoolFails) {
		return api.ErrArg
	}
	return api.OK
}

// checkOrder returns the error of a town, bought coolers, and an order of those that have failed.
func checkOrder(t api.CoolTown, bought, order []int) api.Errno {
	if len(order) > api.CoolRepairs {
		return api.ErrLong
	}
	if e := checkCoolers(t, bought); e != api.OK {
		return e
	}
	for i, site := range order {
		if !slices.Contains(bought, site) || slices.Contains(order[:i], site) {
			return api.ErrArg
		}
	}
	return api.OK
}

func houseFine(h api.CoolHouse) bool {
	return coldFine(h.Need) && from(0, h.Grace, api.CoolWeeks)
}

func siteFine(s api.CoolSite, houses int) bool {
	if !from(0, s.Cost, api.CoolCost) || !from(1, s.Weeks, api.CoolWeeks) || len(s.Gives) != houses {
		return false
	}
	for _, cold := range s.Gives {
		if !coldFine(cold) {
			return false
		}
	}
	return true
}

func coldFine(s api.Span) bool {
	return 0 <= s.Low && s.Low <= s.High && s.High <= api.CoolCold
}

// coolersFine reports whether a list is of strictly increasing sites.
func coolersFine(t api.CoolTown, coolers []int) bool {
	before := -1
	for _, site := range coolers {
		if !from(before+1, site, len(t.Sites)-1) {
			return false
		}
		before = site
	}
	return true
}

// possible reports whether a truth has what can be true of each house, and of what each site gives to it, and nothing else.
func possible(t api.CoolTown, x api.CoolTruth) bool {
	if len(x.Needs) != len(t.Houses) || len(x.Gives) != len(t.Sites) {
		return false
	}
	for house, need := range x.Needs {
		if !in(need, t.Houses[house].Need) {
			return false
		}
	}
	for site, gives := range x.Gives {
		if len(gives) != len(t.Houses) {
			return false
		}
		for house, cold := range gives {
			if !in(cold, t.Sites[site].Gives[house]) {
				return false
			}
		}
	}
	return true
}

// from reports whether a number is from least to most.
func from(least, n, most int) bool { return least <= n && n <= most }

// in reports whether a number is of a span.
func in(n int, s api.Span) bool { return from(s.Low, n, s.High) }
