package sense

import "talik/api"

// checkReadings returns the error of a string and readings.
func checkReadings(s api.SenseString, l []api.SenseReading) api.Errno {
	if len(l) > api.SenseReadings {
		return api.ErrLong
	}
	if Check(s) != api.OK {
		return api.ErrArg
	}
	for _, r := range l {
		if !from(0, r.Sensor, len(s.At)-1) || !from(0, r.Week, api.SenseWeeks) || !from(0, r.Temp, 2*api.SenseWarm) {
			return api.ErrArg
		}
	}
	return api.OK
}

// checkCause returns the error of a string, readings and an explanation.
func checkCause(s api.SenseString, l []api.SenseReading, c api.SenseCause) api.Errno {
	if e := checkReadings(s, l); e != api.OK {
		return e
	}
	if !increasing(c.Sensors, len(s.At)) || !increasing(c.Depths, s.Depths) {
		return api.ErrArg
	}
	return api.OK
}

// checkMost returns the error of a string, readings and a number of causes.
func checkMost(s api.SenseString, l []api.SenseReading, most int) api.Errno {
	if e := checkReadings(s, l); e != api.OK {
		return e
	}
	if !from(0, most, len(s.At)+s.Depths) {
		return api.ErrArg
	}
	return api.OK
}

// increasing reports whether a list is of strictly increasing numbers from 0 on, all of them less than many.
func increasing(list []int, many int) bool {
	before := -1
	for _, n := range list {
		if !from(before+1, n, many-1) {
			return false
		}
		before = n
	}
	return true
}

// possible reports whether a truth is one of a string.
func possible(s api.SenseString, t api.SenseTruth) bool {
	return allFrom(api.SenseCold, t.Temps, api.SenseWarm, s.Depths) &&
		allFrom(-s.Warm, t.Rates, s.Warm, s.Depths) &&
		allFrom(-s.Drift, t.Drifts, s.Drift, len(s.At))
}

// allFrom reports whether a list is of so many numbers, each of them from least to most.
func allFrom(least int, list []int, most, many int) bool {
	if len(list) != many {
		return false
	}
	for _, n := range list {
		if !from(least, n, most) {
			return false
		}
	}
	return true
}

// from reports whether a number is from least to most.
func from(least, n, most int) bool { return least <= n && n <= most }
