package move

import "talik/api"

// checkPlan returns the error of a town and a plan, which need not be allowed.
func checkPlan(t api.MoveTown, plan []int) api.Errno {
	if Check(t) != api.OK || len(plan) != len(t.Houses) {
		return api.ErrArg
	}
	for _, lot := range plan {
		if !from(0, lot, len(t.Walk)-1) {
			return api.ErrArg
		}
	}
	return api.OK
}

// checkAllowed returns the error of a town and a plan that must be allowed.
func checkAllowed(t api.MoveTown, plan []int) api.Errno {
	if e := checkPlan(t, plan); e != api.OK {
		return e
	}
	if look(t).fault(plan).Rule != api.MoveFine {
		return api.ErrRule
	}
	return api.OK
}

func walkFine(walk [][]int) bool {
	if !from(1, len(walk), api.MoveLots) {
		return false
	}
	for _, row := range walk { // before any row is compared with the others
		if len(row) != len(walk) {
			return false
		}
	}
	for i, row := range walk {
		for k, minutes := range row {
			if !from(0, minutes, api.MoveWalk) || minutes != walk[k][i] || i == k && minutes != 0 {
				return false
			}
		}
	}
	return true
}

func housesFine(houses []api.MoveHouse, lots int) bool {
	if !from(1, len(houses), api.MoveHouses) {
		return false
	}
	var stand []int
	for _, h := range houses {
		if !different(h.Wishes, lots) {
			return false
		}
		stand = append(stand, h.Lot)
	}
	return different(stand, lots)
}

func kinFine(kin []api.MovePair, houses int) bool {
	for _, p := range kin {
		if !from(0, p.One, houses-1) || !from(0, p.Other, houses-1) || p.One == p.Other {
			return false
		}
	}
	return len(kin) <= api.MoveKin
}

// different reports whether lots are different, and of a town with so many.
func different(lots []int, many int) bool {
	seen := 0
	for _, lot := range lots {
		if !from(0, lot, many-1) || has(seen, lot) {
			return false
		}
		seen |= 1 << lot
	}
	return true
}

// increasing reports whether lots are strictly increasing, and of a town with so many.
func increasing(lots []int, many int) bool {
	least := 0
	for _, lot := range lots {
		if !from(least, lot, many-1) {
			return false
		}
		least = lot + 1
	}
	return true
}

// from reports whether a number is from least to most.
func from(least, n, most int) bool { return least <= n && n <= most }
