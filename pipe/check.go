package pipe

import "talik/api"

// checkLoop returns the error of a net and a loop.
func checkLoop(n api.PipeNet, loop int) api.Errno {
	if Check(n) != api.OK || !from(0, loop, len(n.Loops)-1) {
		return api.ErrArg
	}
	return api.OK
}

// checkTruth returns the error of a net, a loop, how warm it is, and what is true of some hours.
func checkTruth(n api.PipeNet, loop, warm int, truth []api.PipeTruth) api.Errno {
	if len(truth) > len(n.Frost) {
		return api.ErrLong
	}
	if e := checkLoop(n, loop); e != api.OK {
		return e
	}
	if !in(warm, n.Loops[loop].Warm) {
		return api.ErrArg
	}
	for hour, x := range truth {
		if !in(x.Leak, n.Loops[loop].Leak) || !in(x.Frost, n.Frost[hour]) {
			return api.ErrArg
		}
	}
	return api.OK
}

// checkFaults returns the error of a net, a place and faults.
func checkFaults(n api.PipeNet, place int, faults ...int) api.Errno {
	if len(faults) > api.PipeFaults {
		return api.ErrLong
	}
	if Check(n) != api.OK || !from(0, place, len(n.Loops)) {
		return api.ErrArg
	}
	for _, fault := range faults {
		if !from(0, fault, 1<<len(n.Loops)-1) {
			return api.ErrArg
		}
	}
	return api.OK
}

func loopFine(loop api.PipeLoop) bool {
	return within(1, loop.Warm, api.PipeWarm) &&
		within(0, loop.Leak, 1000) &&
		within(0, loop.Wrap, 1000) &&
		loop.Wrap.Low <= loop.Leak.Low && loop.Wrap.High <= loop.Leak.High &&
		from(0, loop.Cost, api.PipeCost) &&
		from(1, loop.Mass, api.PipeMass) &&
		from(0, loop.Ground, 1000) &&
		from(0, loop.Feed, api.PipeWarm) &&
		within(0, loop.Fix, api.PipeHours)
}

func waysFine(ways [][]int, places int) bool {
	if len(ways) != places {
		return false
	}
	for place, row := range ways {
		if len(row) != places || row[place] != 0 {
			return false
		}
		for _, hours := range row {
			if !from(0, hours, api.PipeHours) {
				return false
			}
		}
	}
	return true
}

// from reports whether a number is from least to most.
func from(least, n, most int) bool { return least <= n && n <= most }

// within reports whether a span is one, from least to most.
func within(least int, s api.Span, most int) bool {
	return least <= s.Low && s.Low <= s.High && s.High <= most
}

// in reports whether a number is of a span.
func in(n int, s api.Span) bool { return from(s.Low, n, s.High) }
