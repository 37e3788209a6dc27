package speak

import "talik/api"

// errorOf returns the error of arguments of which some are too long, or not as defined.
func errorOf(long, wrong bool) api.Errno {
	if long {
		return api.ErrLong
	}
	if wrong {
		return api.ErrArg
	}
	return api.OK
}

// kinds is how many acts there are, how many things, and how many kinds of spots.
const kinds = 4

func isKind(n int) bool { return from(1, n, kinds) }

func deedsFine(deeds []api.SpeakDeed) bool {
	for _, d := range deeds {
		if !deedFine(d) {
			return false
		}
	}
	return true
}

func deedFine(d api.SpeakDeed) bool {
	return isKind(d.Act) && from(1, d.Number, api.SpeakNumber) && isKind(d.Thing)
}

func councilFine(c api.SpeakCouncil) bool {
	for _, language := range c.Languages {
		if !isLanguage(language) {
			return false
		}
	}
	if c.Rule < api.SpeakSimple || c.Rule > api.SpeakGroups {
		return false
	}
	return from(1, len(c.Languages), api.SpeakMembers) && from(0, c.Quorum, api.SpeakMembers)
}

func spotsFine(spots []api.SpeakSpot) bool {
	for _, s := range spots {
		if !isKind(s.Kind) {
			return false
		}
	}
	return true
}

func stepsFine(steps []api.SpeakStep) bool {
	for _, s := range steps {
		if !from(1, s.Count, api.SpeakCounts) || !isKind(s.Kind) || !from(anyBank, s.Bank, rightBank) {
			return false
		}
	}
	return true
}

// from reports whether a number is from least to most.
func from(least, n, most int) bool { return least <= n && n <= most }
