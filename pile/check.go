package pile

import "talik/api"

// checkThaws returns the error of a site and thaws.
func checkThaws(s api.PileSite, thaws [][]api.Span) api.Errno {
	if tooLong(len(thaws)) {
		return api.ErrLong
	}
	if Check(s) != api.OK {
		return api.ErrArg
	}
	for _, year := range thaws {
		if len(year) != len(s.Piles) {
			return api.ErrArg
		}
		for _, thaw := range year {
			if !within(0, thaw, api.PileDepth) {
				return api.ErrArg
			}
		}
	}
	return api.OK
}

// checkPlan returns the error of a site, thaws and a plan.
func checkPlan(s api.PileSite, thaws [][]api.Span, plan []int) api.Errno {
	if tooLong(len(thaws), len(plan)) {
		return api.ErrLong
	}
	if e := checkThaws(s, thaws); e != api.OK {
		return e
	}
	if len(plan) != len(thaws) {
		return api.ErrArg
	}
	for _, set := range plan {
		if !from(0, set, 1<<len(s.Piles)-1) {
			return api.ErrArg
		}
	}
	return api.OK
}

// tooLong reports whether any of some numbers of years is too great.
func tooLong(years ...int) bool {
	for _, n := range years {
		if n > api.PileYears {
			return true
		}
	}
	return false
}

func pilesFine(piles []api.Pile) bool {
	if !from(1, len(piles), api.PilePiles) {
		return false
	}
	for _, p := range piles {
		if !pileFine(p) {
			return false
		}
	}
	return true
}

func pileFine(p api.Pile) bool {
	return from(1, p.Depth, api.PileDepth) &&
		from(0, p.Point, api.PileForce) &&
		from(0, p.Skin, api.PileSkin) &&
		within(1, p.Load, api.PileForce) &&
		from(0, p.Design, api.PileForce) &&
		from(0, p.Cost, api.PileCost)
}

func pairsFine(pairs []api.PilePair, piles int) bool {
	if len(pairs) > api.PilePairs {
		return false
	}
	for _, pair := range pairs {
		if !from(0, pair.One, piles-1) || !from(0, pair.Other, piles-1) || pair.One == pair.Other {
			return false
		}
	}
	return true
}

func rowsFine(rows []api.PileRow) bool {
	if !from(1, len(rows), api.PileRows) {
		return false
	}
	before := api.PileRow{Use: -1}
	for _, row := range rows {
		if !from(before.Use+1, row.Use, api.PileUse) || !within(0, row.Settle, api.PileSettle) {
			return false
		}
		if row.Settle.Low < before.Settle.Low || row.Settle.High < before.Settle.High {
			return false
		}
		before = row
	}
	return true
}

func cureFine(cure []api.PileCure) bool {
	if !from(1, len(cure), api.PileRows) {
		return false
	}
	before := api.PileCure{Week: -1}
	for _, row := range cure {
		if !from(before.Week+1, row.Week, api.PileWeeks) || !from(before.Part, row.Part, 1000) {
			return false
		}
		before = row
	}
	return true
}

// from reports whether a number is from least to most.
func from(least, n, most int) bool { return least <= n && n <= most }

// within reports whether a span is one, from least to most.
func within(least int, s api.Span, most int) bool {
	return least <= s.Low && s.Low <= s.High && s.High <= most
}

// in reports whether a number is of a span.
func in(n int, s api.Span) bool { return from(s.Low, n, s.High) }
