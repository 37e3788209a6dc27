package speak

import (
	"slices"
	"testing"

	"talik/api"
)

// P9.6 (consequences)

// mustMeanTheSame fails if two motions of few clauses do not.
func mustMeanTheSame(t *testing.T, m, n []api.SpeakPart) {
	t.Helper()
	if deeds, e := Apart(m, n); e != api.ErrNone {
		t.Fatal(m, n, deeds, e)
	}
}

func TestDeniedTwice(t *testing.T) {
	r := source()
	for range 1000 {
		m := someMotion(r, 29, 2, 1, 4)
		twice := deny(deny(m))
		mustMeanTheSame(t, m, twice)
		for range 10 {
			deeds := someDeeds(r, 6, 2, 1, 5)
			one, _ := Holds(m, deeds)
			once, _ := Holds(deny(m), deeds)
			two, _ := Holds(twice, deeds)
			if one == once || one != two {
				t.Fatal(m, deeds, one, once, two)
			}
		}
		if deeds, e := Apart(m, deny(m)); e != api.OK || len(deeds) > 0 {
			t.Fatal(m, deeds, e)
		}
	}
}

func TestOperandsExchanged(t *testing.T) {
	r := source()
	others := 0
	for range 1000 {
		m := someMotion(r, 31, 2, 1, 4)
		n := exchanged(r, m)
		mustMeanTheSame(t, m, n)
		if !slices.Equal(m, n) {
			others++
		}
		one, other := someMotion(r, 15, 2, 1, 4), someMotion(r, 15, 2, 1, 4)
		mustMeanTheSame(t, both(one, other), both(other, one))
		mustMeanTheSame(t, either(one, other), either(other, one))
	}
	if others < 300 {
		t.Error(others)
	}
}

// forIt returns the word of a member who is for a motion.
func forIt(t *testing.T, c api.SpeakCouncil, language int) string {
	t.Helper()
	word, e := Word(language, c.Negative[language], api.SpeakFor)
	if e != api.OK {
		t.Fatal(c, language, e)
	}
	return word
}

// mustStillPass fails if votes do not let a motion pass.
func mustStillPass(t *testing.T, c api.SpeakCouncil, words []string) {
	t.Helper()
	if got, e := Count(c, words); e != api.OK || !got.Passed {
		t.Fatal(c, words, got, e)
	}
}

// TestAVoteMoreForAMotion lets others be for it, too, and lets new members be.
func TestAVoteMoreForAMotion(t *testing.T) {
	r := source()
	passed := 0
	for range 6000 {
		c := someCouncil(r)
		c.Rule = api.SpeakRule(upTo(r, 1, 2))
		words := someWords(r, c)
		if got, _ := Count(c, words); !got.Passed {
			continue
		}
		passed++
		for member, language := range c.Languages {
			more := slices.Clone(words)
			more[member] = forIt(t, c, language)
			mustStillPass(t, c, more)
		}
		for language := range 3 {
			if len(words) < api.SpeakMembers {
				larger := c
				larger.Languages = append(slices.Clone(c.Languages), language)
				mustStillPass(t, larger, append(slices.Clone(words), forIt(t, c, language)))
			}
		}
	}
	if passed < 1000 {
		t.Error(passed)
	}
}
