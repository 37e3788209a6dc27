package speak

import "talik/api"

// What a vote means, numbered as api does it, from an absent member's on.
const (
	absent api.SpeakVote = iota
	inFavour
	against
	rest
	votes
)

// ballot is the words by which members say what they want, if the question is put in one way.
type ballot [votes]string

// meaning returns what a word means.
func (b ballot) meaning(word string) api.SpeakVote {
	for vote := absent; vote < votes; vote++ {
		if b[vote] == word {
			return vote
		}
	}
	return rest // as it is spoilt
}

// tally is how many votes mean what.
type tally [votes]int

// wins reports whether more votes are for a motion than against it.
func (t tally) wins() bool { return t[inFavour] > t[against] }

func (t tally) present() int { return t[inFavour] + t[against] + t[rest] }

// tallies are those of the languages.
type tallies [languages]tally

// count counts the votes of a council.
func count(c api.SpeakCouncil, words []string) tallies {
	var t tallies
	for member, word := range words {
		language := c.Languages[member]
		vote := languageOf(language).ballot(c.Negative[language]).meaning(word)
		t[language][vote]++
	}
	return t
}

// all returns the tally of all languages together.
func (t tallies) all() tally {
	var all tally
	for _, one := range t {
		for vote, many := range one {
			all[vote] += many
		}
	}
	return all
}

func (t tallies) result(c api.SpeakCouncil) api.SpeakResult {
	all := t.all()
	return api.SpeakResult{
		For:     all[inFavour],
		Against: all[against],
		Rest:    all[rest],
		Absent:  all[absent],
		Passed:  t.passed(c),
	}
}

// passed reports whether the motion has passed.
func (t tallies) passed(c api.SpeakCouncil) bool {
	all := t.all()
	if all.present() < c.Quorum || all[inFavour] == 0 {
		return false
	}
	switch c.Rule {
	case api.SpeakSimple:
		return all.wins()
	case api.SpeakThirds:
		return 3*all[inFavour] >= 2*(all[inFavour]+all[against])
	}
	for _, one := range t {
		if one.present() > 0 && !one.wins() {
			return false
		}
	}
	return true
}
