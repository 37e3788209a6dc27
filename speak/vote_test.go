package speak

import (
	"slices"
	"strings"
	"testing"

	"talik/api"
)

// P9.4 (Word, Count), and P0.9 as far as votes go

func TestVoteExamples(t *testing.T) {
	for _, x := range []struct {
		words []string
		want  api.SpeakResult
	}{
		{[]string{"yes", "no", "en", "joo", "um", "em"}, api.SpeakResult{For: 3, Against: 2, Rest: 1, Passed: true}},
		{[]string{"yes", "", "en", "", "om", ""}, api.SpeakResult{For: 2, Against: 1, Absent: 3}},
	} {
		if got, e := Count(councilC(), x.words); e != api.OK || got != x.want {
			t.Error(x.words, got, e)
		}
	}
}

func TestWords(t *testing.T) {
	for _, x := range []struct {
		language int
		negative bool
		words    [3]string // for, against, neither
	}{
		{0, false, [3]string{"yes", "no", "-"}},
		{0, true, [3]string{"yes", "no", "-"}},
		{1, false, [3]string{"joo", "en", "-"}},
		{1, true, [3]string{"en", "joo", "-"}},
		{2, false, [3]string{"em", "om", "-"}},
		{2, true, [3]string{"um", "om", "-"}},
	} {
		for i, want := range x.words {
			if got, e := Word(x.language, x.negative, api.SpeakFor+api.SpeakVote(i)); e != api.OK || got != want {
				t.Error(x.language, x.negative, i, got, e)
			}
		}
	}
}

func TestWordErrors(t *testing.T) {
	for _, negative := range []bool{false, true} {
		for _, language := range []int{-1, 3, 4} {
			if got, e := Word(language, negative, api.SpeakFor); e != api.ErrArg || got != "" {
				t.Error(language, negative, got, e)
			}
		}
		for language := range 3 {
			for _, vote := range []api.SpeakVote{-1, 0, 4, 5} {
				if got, e := Word(language, negative, vote); e != api.ErrArg || got != "" {
					t.Error(language, negative, vote, got, e)
				}
			}
		}
	}
}

// TestMeanings counts the vote of one member, for each word.
func TestMeanings(t *testing.T) {
	words := append(slices.Clone(voteWords), strings.Repeat("x", 1000), strings.Repeat("yes", 300), "*", " ", "joo\n", "ΕΝ", "\xff")
	for language := range 3 {
		for _, negative := range []bool{false, true} {
			var asked [3]bool
			asked[language] = negative
			for _, word := range words {
				var want api.SpeakResult
				switch slowMeaning(said{language, word, negative}) {
				case "for":
					want.For, want.Passed = 1, true
				case "against":
					want.Against = 1
				case "absent":
					want.Absent = 1
				default:
					want.Rest = 1
				}
				c := api.SpeakCouncil{Languages: []int{language}, Rule: api.SpeakSimple, Negative: asked}
				if got, e := Count(c, []string{word}); e != api.OK || got != want {
					t.Errorf("%d %v %q %v %v", language, negative, word, got, e)
				}
			}
		}
	}
}

// council returns one with a rule and a quorum, whose question is put in the positive.
func council(rule api.SpeakRule, quorum int, languages ...int) api.SpeakCouncil {
	return api.SpeakCouncil{Languages: languages, Quorum: quorum, Rule: rule}
}

func TestPassed(t *testing.T) {
	const simple, thirds, groups = api.SpeakSimple, api.SpeakThirds, api.SpeakGroups
	for _, x := range []struct {
		name  string
		c     api.SpeakCouncil
		words string // * for the empty one
		want  bool
	}{
		{"simple: one", council(simple, 0, 0), "yes", true},
		{"simple: nobody", council(simple, 0, 0), "*", false},
		{"simple: a draw", council(simple, 0, 0, 0), "yes no", false},
		{"simple: one more", council(simple, 0, 0, 0, 0), "yes no yes", true},
		{"simple: one less", council(simple, 0, 0, 0, 0), "no no yes", false},
		{"simple: the others do not count", council(simple, 0, 0, 0, 0, 0), "yes - - -", true},
		{"quorum: as many as must be", council(simple, 2, 0, 0, 0), "yes yes *", true},
		{"quorum: those who want neither are present", council(simple, 3, 0, 0, 1), "yes - huh", true},
		{"quorum: one less", council(simple, 3, 0, 0, 0), "yes yes *", false},
		{"quorum: more than members", council(simple, 12, 0), "yes", false},
		{"quorum: 12 of 12", council(simple, 12, make([]int, 12)...), strings.Repeat("yes ", 12), true},
		{"quorum: 11 of 12", council(simple, 12, make([]int, 12)...), strings.Repeat("yes ", 11) + "*", false},
		{"thirds: two of three", council(thirds, 0, 0, 0, 0), "yes no yes", true},
		{"thirds: four of six", council(thirds, 0, 0, 0, 0, 0, 0, 0), "yes no yes yes no yes", true},
		{"thirds: three of five", council(thirds, 0, 0, 0, 0, 0, 0), "yes no yes yes no", false},
		{"thirds: five of seven", council(thirds, 0, 0, 0, 0, 0, 0, 0, 0), "yes no yes yes no yes yes", true},
		{"thirds: one, and the others want neither", council(thirds, 0, 0, 0, 0), "yes - -", true},
		{"thirds: nobody for it, nobody against it", council(thirds, 0, 0, 0), "- -", false},
		{"thirds: the quorum is missing", council(thirds, 2, 0, 0), "yes *", false},
		{"groups: all", council(groups, 0, 0, 1, 2), "yes joo em", true},
		{"groups: one language", council(groups, 0, 1, 1), "joo joo", true},
		{"groups: a draw in one", council(groups, 0, 0, 1, 1, 2), "yes joo en em", false},
		{"groups: against it in one", council(groups, 0, 0, 0, 0, 2), "yes yes yes om", false},
		{"groups: neither in one", council(groups, 0, 0, 1, 2), "yes - em", false},
		{"groups: spoilt in one", council(groups, 0, 0, 1, 2), "yes joo um", false},
		{"groups: absent in one", council(groups, 0, 0, 1, 2), "yes * em", true},
		{"groups: one present in one, and wants neither", council(groups, 0, 0, 1, 1), "yes * -", false},
		{"groups: one more in each", council(groups, 0, 0, 0, 0, 1, 1, 1), "yes no yes en joo joo", true},
		{"groups: one for, the others neither", council(groups, 0, 0, 0, 0), "yes - -", true},
		{"groups: nobody", council(groups, 0, 0, 1, 2), "* * *", false},
		{"groups: the quorum is missing", council(groups, 3, 0, 1, 2), "yes joo *", false},
	} {
		words := strings.Fields(x.words)
		for i, word := range words {
			if word == "*" {
				words[i] = ""
			}
		}
		if got, e := Count(x.c, words); e != api.OK || got.Passed != x.want {
			t.Error(x.name, got, e)
		}
	}
}

func TestCountErrors(t *testing.T) {
	bad := badCouncils()
	for _, name := range namesIn(bad) {
		words := slices.Repeat([]string{"yes"}, len(bad[name].Languages))
		if got, e := Count(bad[name], words); e != api.ErrArg || got != (api.SpeakResult{}) {
			t.Error(name, got, e)
		}
	}
	for _, many := range []int{0, 5, 7, 12, 1000000} {
		if got, e := Count(councilC(), make([]string, many)); e != api.ErrArg || got != (api.SpeakResult{}) {
			t.Error(many, got, e)
		}
	}
	many := councilC()
	many.Languages = make([]int, 1000000)
	if got, e := Count(many, make([]string, 1000000)); e != api.ErrArg || got != (api.SpeakResult{}) {
		t.Error(got, e)
	}
}

func TestCountSlowly(t *testing.T) {
	r := source()
	passed := map[api.SpeakRule]int{}
	const many = 6000
	for range many {
		c := someCouncil(r)
		words := someWords(r, c)
		want := slowCount(c, words)
		if got, e := Count(c, words); e != api.OK || got != want {
			t.Fatalf("%v %q %v %v %v", c, words, got, want, e)
		}
		if want.Passed {
			passed[c.Rule]++
		}
	}
	for rule := api.SpeakSimple; rule <= api.SpeakGroups; rule++ {
		if passed[rule] < 100 || passed[rule] > many/3-100 {
			t.Error(rule, passed[rule])
		}
	}
}

// TestWhatIsWantedIsCounted lets members want something, in whatever languages, and however the question is put.
func TestWhatIsWantedIsCounted(t *testing.T) {
	r := source()
	for range 2000 {
		c := someCouncil(r)
		var want api.SpeakResult
		var words []string
		for _, language := range c.Languages {
			wants := api.SpeakVote(upTo(r, 0, 3))
			switch wants {
			case api.SpeakFor:
				want.For++
			case api.SpeakAgainst:
				want.Against++
			case api.SpeakRest:
				want.Rest++
			default:
				want.Absent++
				words = append(words, "")
				continue
			}
			word, e := Word(language, c.Negative[language], wants)
			if e != api.OK {
				t.Fatal(language, wants, e)
			}
			words = append(words, word)
		}
		got, e := Count(c, words)
		if want.Passed = got.Passed; e != api.OK || got != want {
			t.Fatal(c, words, got, want, e)
		}
		if members := got.For + got.Against + got.Rest + got.Absent; members != len(c.Languages) {
			t.Fatal(c, words, got)
		}
	}
}
