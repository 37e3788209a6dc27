package store

import "talik/api"

// checkPlan returns the error of a store and a plan.
func checkPlan(s api.Store, plan int) api.Errno {
	if Check(s) != api.OK || !from(0, plan, 1<<len(s.Ships)-1) {
		return api.ErrArg
	}
	return api.OK
}

func shipsFine(ships []api.StoreShip) bool {
	for _, s := range ships {
		if !from(0, s.Week, api.StoreLand-1) || !amountFine(s.Cargo) || !from(0, s.Cost, api.StoreCost) {
			return false
		}
	}
	return true
}

// icesFine reports whether the ices of a store say something of all weeks in which ships can be unloaded, and of no others.
func icesFine(s api.Store) bool {
	for _, ice := range s.Ices {
		if len(ice) != s.Land {
			return false
		}
	}
	return from(1, len(s.Ices), api.StoreIces)
}

func wintersFine(s api.Store) bool {
	for _, winter := range s.Winters {
		if len(winter) != s.Weeks {
			return false
		}
		for _, need := range winter {
			if !amountFine(need) {
				return false
			}
		}
	}
	return from(1, len(s.Winters), api.StoreWinters)
}

func amountFine(g api.StoreGoods) bool { return within(g, api.StoreUnits) }

func pricesFine(prices api.StoreGoods) bool { return within(prices, api.StorePrice) }

// within reports whether all numbers are from 0 to most.
func within(g api.StoreGoods, most int) bool {
	for kind := range kinds {
		if !from(0, g[kind], most) {
			return false
		}
	}
	return true
}

// fits reports whether there is no more of any kind than there is room for.
func fits(g, room api.StoreGoods) bool {
	for kind := range kinds {
		if g[kind] > room[kind] {
			return false
		}
	}
	return true
}

// from reports whether a number is from least to most.
func from(least, n, most int) bool { return least <= n && n <= most }
