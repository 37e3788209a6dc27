package engineer

import (
	"math/rand/v2"
	"slices"
	"strings"
	"testing"

	"talik/api"
	"talik/cool"
	"talik/speak"
)

// P10.4 (Vote, Buy, Break, Mend, Uneven), P0.3 (layer 10: coolers that keep houses level whichever of them fail) and P0.9 (layer 10: a vote means the same in three languages)

// someCold returns what can be true of houses and coolers.
func someCold(r *rand.Rand, c api.CoolTown) api.CoolTruth {
	var x api.CoolTruth
	for _, h := range c.Houses {
		x.Needs = append(x.Needs, of(r, h.Need))
	}
	for _, site := range c.Sites {
		var gives []int
		for _, g := range site.Gives {
			gives = append(gives, of(r, g))
		}
		x.Gives = append(x.Gives, gives)
	}
	return x
}

// TestHousesAreLevelWhateverIsTrue buys, breaks and mends coolers at random.
func TestHousesAreLevelWhateverIsTrue(t *testing.T) {
	r := source()
	level, uneven := 0, 0
	for range 300 {
		x := some(r)
		e := opened(t, x)
		bought, passed := 0, 0
		working := make([]bool, len(x.Cool.Sites))
		for range 60 {
			site := r.IntN(len(working))
			switch r.IntN(4) {
			case 0:
				result, bad := e.Vote(votes(someVote(r, x.Council)[len("vote "):]))
				if bad == api.OK && result.Passed {
					passed++
				}
			case 1:
				if e.Buy(site) == api.OK {
					bought++
					working[site] = true
				}
			case 2:
				if e.Break(site) == api.OK {
					working[site] = false
				}
			case 3:
				if e.Mend(site) == api.OK {
					working[site] = true
				}
			}
			if grants, bad := e.Grants(); bad != api.OK || grants != passed-bought || grants < 0 {
				t.Fatal(x.Council, passed, bought, grants, bad)
			}
		}
		houses, bad := e.Uneven()
		if bad != api.OK || !slices.IsSorted(houses) {
			t.Fatal(houses, bad)
		}
		var sites []int
		for site, works := range working {
			if works {
				sites = append(sites, site)
			}
		}
		for house := range x.Cool.Houses {
			if slices.Contains(houses, house) {
				uneven++
				if more, _ := cool.Play(x.Cool, sites, worst(x.Cool)); more[house] >= 0 {
					t.Fatal(x.Cool, sites, house, more)
				}
				continue
			}
			level++
			for range 10 {
				if more, _ := cool.Play(x.Cool, sites, someCold(r, x.Cool)); more[house] < 0 {
					t.Fatal(x.Cool, sites, house, more)
				}
			}
		}
	}
	if level < 100 || uneven < 100 {
		t.Error(level, uneven)
	}
}

// TestBestCoolersKeepTheTown buys those that layer 3 finds, and has some of them fail, no more than may.
func TestBestCoolersKeepTheTown(t *testing.T) {
	r := source()
	kept := 0
	for range 300 {
		x := some(r)
		x.Council = api.SpeakCouncil{Languages: []int{0}, Rule: api.SpeakSimple}
		fails := r.IntN(3)
		best, _, bad := cool.Best(x.Cool, fails)
		if bad == api.ErrNone || len(best) == 0 {
			continue
		}
		kept++
		e := opened(t, x)
		for i, site := range best {
			houses, _ := e.Uneven()
			if fails == 0 && i == len(best)-1 && len(houses) == 0 {
				t.Fatal("fewer coolers keep the town", x.Cool, best)
			}
			mustStep(t, e, step{voted("yes"), api.OK}, step{with((*Engineer).Buy, site), api.OK})
		}
		for range 5 {
			failed := slices.Clone(best)
			r.Shuffle(len(failed), func(i, j int) { failed[i], failed[j] = failed[j], failed[i] })
			failed = failed[:min(fails, len(failed))]
			for _, site := range failed {
				mustStep(t, e, step{with((*Engineer).Break, site), api.OK})
				if houses, bad := e.Uneven(); bad != api.OK || len(houses) > 0 {
					t.Fatal(x.Cool, best, failed, houses, bad)
				}
			}
			for _, site := range failed {
				mustStep(t, e, step{with((*Engineer).Mend, site), api.OK})
			}
		}
	}
	if kept < 50 {
		t.Error(kept)
	}
}

// TestUnevenHouses follows the coolers 1 and 3 of the chapter, which keep both houses together.
func TestUnevenHouses(t *testing.T) {
	e := opened(t, town(), allFor, allFor, allFor)
	for _, x := range []struct{ line, want string }{
		{"buy 1", "0 1"}, {"buy 3", ""}, {"break 3", "0 1"}, {"buy 2", "0"}, {"mend 3", ""}, {"break 1", "0"}, {"break 2", "0 1"}, {"mend 1", ""},
	} {
		if _, bad := e.Do(x.line); bad != api.OK {
			t.Fatal(x.line, bad)
		}
		if text, bad := e.Do("uneven"); text != x.want || bad != api.OK {
			t.Error(x.line, text, bad)
		}
	}
}

// TestVotesAreThoseOfLayer9 has the chapter's votes, and more.
func TestVotesAreThoseOfLayer9(t *testing.T) {
	e := opened(t, town())
	grants := 0
	for _, x := range []struct {
		words string
		want  api.SpeakResult
	}{
		{"yes no en joo um em", api.SpeakResult{For: 3, Against: 2, Rest: 1, Passed: true}},
		{"yes * en * om *", api.SpeakResult{For: 2, Against: 1, Absent: 3}},
		{allFor[len("vote "):], api.SpeakResult{For: 6, Passed: true}},
		{"no no joo joo om om", api.SpeakResult{Against: 6}},
		{"* * * * * *", api.SpeakResult{Absent: 6}},
		{"- -- yesyesno en joo um", api.SpeakResult{For: 2, Rest: 4, Passed: true}},
		{"yes * * en um *", api.SpeakResult{For: 3, Absent: 3}},
		{"yes - * en um *", api.SpeakResult{For: 3, Rest: 1, Absent: 2, Passed: true}},
	} {
		result, bad := e.Vote(votes(x.words))
		if result != x.want || bad != api.OK {
			t.Error(x.words, result, bad)
		}
		if x.want.Passed {
			grants++
		}
		if n, bad := e.Grants(); n != grants || bad != api.OK {
			t.Error(x.words, n, bad)
		}
	}
}

// TestVotesMeanTheSameInAllLanguages has members who want something, and say so in their languages, however the question is put.
func TestVotesMeanTheSameInAllLanguages(t *testing.T) {
	r := source()
	passed := 0
	for range 2000 {
		x := some(r)
		want := api.SpeakResult{}
		var words []string
		for _, language := range x.Council.Languages {
			word := ""
			vote := api.SpeakVote(r.IntN(4))
			switch vote {
			case 0:
				want.Absent++
			case api.SpeakFor:
				want.For++
			case api.SpeakAgainst:
				want.Against++
			case api.SpeakRest:
				want.Rest++
			}
			if vote != 0 {
				word, _ = speak.Word(language, x.Council.Negative[language], vote)
			}
			words = append(words, word)
		}
		e := opened(t, x)
		result, bad := e.Vote(words)
		grants, _ := e.Grants()
		if bad != api.OK || result.Passed != (grants == 1) {
			t.Fatal(x.Council, words, result, grants, bad)
		}
		if result.Passed {
			passed++
			if want.For == 0 || want.For+want.Against+want.Rest < x.Council.Quorum {
				t.Fatal(x.Council, words, result)
			}
		}
		if want.Passed = result.Passed; result != want {
			t.Fatal(x.Council, words, result, want)
		}
		// A line says the same.
		line := "vote"
		for _, word := range words {
			if word == "" {
				word = "*"
			}
			line += " " + word
		}
		other := opened(t, x, line)
		if n, _ := other.Grants(); n != grants {
			t.Fatal(line, n, grants)
		}
		if journal, _ := e.Journal(); strings.TrimSuffix(journal, "\n") != line {
			t.Fatal(journal, line)
		}
	}
	if passed < 200 {
		t.Error(passed)
	}
}
