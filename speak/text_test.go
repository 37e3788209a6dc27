package speak

import (
	"math/rand/v2"
	"slices"
	"strings"
	"testing"

	"talik/api"
)

// P9.3 (Print, Read, Translate), and P0.9 as far as motions go

// mustBeText fails if a motion does not have a text in a language, or the text not this motion.
func mustBeText(t *testing.T, m []api.SpeakPart, text string, language int) {
	t.Helper()
	if got, e := Print(m, language); e != api.OK || got != text {
		t.Errorf("%q %q %v", text, got, e)
	}
	if got, e := Read(text, language); e != api.OK || !slices.Equal(got, m) {
		t.Errorf("%q %v %v", text, got, e)
	}
}

func TestTextExamples(t *testing.T) {
	mustBeText(t, motionM(), "build 3 houses and not close 2 roads or pay 5 lakes", 0)
	mustBeText(t, motionM(), "vai ja tupa 3 rako ei reda 2 sulo lamu 5 mako", 1)
	mustBeText(t, motionM(), "kir3a tor2e ku le pan5i no", 2)
	if got, e := Translate("kir3a pan5i no mel1o le", 2, 0); e != api.OK || got != "( build 3 houses or pay 5 lakes ) and move 1 pipes" {
		t.Error(got, e)
	}
	for _, x := range []struct {
		text     string
		language int
	}{{"( build 3 houses )", 0}, {"kir03a", 2}} {
		if got, e := Read(x.text, x.language); e != api.ErrText || got != nil {
			t.Error(x, got, e)
		}
	}
}

func TestAllWords(t *testing.T) {
	for _, x := range []struct {
		act, number, thing int
		texts              [3]string
	}{
		{1, 1, 1, [3]string{"build 1 houses", "tupa 1 rako", "kir1a"}},
		{2, 9, 2, [3]string{"move 9 roads", "reda 9 siro", "mel9e"}},
		{3, 10, 3, [3]string{"close 10 lakes", "lamu 10 sulo", "tor10i"}},
		{4, 99, 4, [3]string{"pay 99 pipes", "puta 99 mako", "pan99o"}},
		{1, 90, 4, [3]string{"build 90 pipes", "puta 90 rako", "kir90o"}},
	} {
		for language, text := range x.texts {
			mustBeText(t, do(x.act, x.number, x.thing), text, language)
		}
	}
}

// TestBrackets has each operand in each place.
func TestBrackets(t *testing.T) {
	a, b, c := do(build, 1, houses), do(move, 2, roads), do(shut, 3, lakes)
	const p, q, s = "build 1 houses", "move 2 roads", "close 3 lakes"
	for _, x := range []struct {
		m    []api.SpeakPart
		text string
	}{
		{deny(a), "not " + p},
		{deny(deny(a)), "not not " + p},
		{deny(both(a, b)), "not ( " + p + " and " + q + " )"},
		{deny(either(a, b)), "not ( " + p + " or " + q + " )"},
		{both(a, b), p + " and " + q},
		{both(deny(a), b), "not " + p + " and " + q},
		{both(a, deny(b)), p + " and not " + q},
		{both(both(a, b), c), "( " + p + " and " + q + " ) and " + s},
		{both(a, both(b, c)), p + " and " + q + " and " + s},
		{both(either(a, b), c), "( " + p + " or " + q + " ) and " + s},
		{both(a, either(b, c)), p + " and ( " + q + " or " + s + " )"},
		{either(a, b), p + " or " + q},
		{either(deny(a), b), "not " + p + " or " + q},
		{either(a, deny(b)), p + " or not " + q},
		{either(both(a, b), c), p + " and " + q + " or " + s},
		{either(a, both(b, c)), p + " or " + q + " and " + s},
		{either(either(a, b), c), "( " + p + " or " + q + " ) or " + s},
		{either(a, either(b, c)), p + " or " + q + " or " + s},
		{deny(deny(either(a, b))), "not not ( " + p + " or " + q + " )"},
		{both(deny(both(a, b)), c), "not ( " + p + " and " + q + " ) and " + s},
		{either(both(either(a, b), c), a), "( " + p + " or " + q + " ) and " + s + " or " + p},
		{both(both(either(a, b), c), a), "( ( " + p + " or " + q + " ) and " + s + " ) and " + p},
	} {
		mustBeText(t, x.m, x.text, 0)
	}
}

func TestOtherLanguages(t *testing.T) {
	a, b, c := do(build, 1, houses), do(move, 2, roads), do(shut, 3, lakes)
	const p, q, s = "tupa 1 rako", "reda 2 siro", "lamu 3 sulo"
	for _, x := range []struct {
		m     []api.SpeakPart
		texts [2]string
	}{
		{deny(a), [2]string{"ei " + p, "kir1a ku"}},
		{deny(deny(a)), [2]string{"ei ei " + p, "kir1a ku ku"}},
		{both(a, b), [2]string{"ja " + p + " " + q, "kir1a mel2e le"}},
		{either(a, b), [2]string{"vai " + p + " " + q, "kir1a mel2e no"}},
		{both(a, either(b, c)), [2]string{"ja " + p + " vai " + q + " " + s, "kir1a mel2e tor3i no le"}},
		{either(both(a, b), c), [2]string{"vai ja " + p + " " + q + " " + s, "kir1a mel2e le tor3i no"}},
		{deny(either(a, deny(b))), [2]string{"ei vai " + p + " ei " + q, "kir1a mel2e ku no ku"}},
	} {
		mustBeText(t, x.m, x.texts[0], 1)
		mustBeText(t, x.m, x.texts[1], 2)
	}
}

// noTexts are those of no motion, with the language of each.
var noTexts = [3][]string{
	{
		"", " ", "build", "build 3", "build houses", "3 houses", "build 3 houses ", " build 3 houses", "build  3 houses", "build 3  houses", "build\t3 houses", "build 3 houses\n", "build 3 houses\x00",
		"Build 3 houses", "build 3 house", "build 3 Houses", "built 3 houses", "houses 3 build", "build 3 build", "houses 3 houses", "3 build houses", "tupa 3 rako", "kir3a",
		"build 0 houses", "build 03 houses", "build 00 houses", "build 100 houses", "build 103 houses", "build -3 houses", "build +3 houses", "build 3.0 houses", "build 0x3 houses", "build 1_0 houses", "build ３ houses", "build ٣ houses", "build \xff houses", "build three houses", "build 18446744073709551617 houses", "build " + strings.Repeat("0", 99) + "3 houses",
		"build 3 houses build 3 houses", "build 3 houses houses", "build 3 houses and", "build 3 houses or", "build 3 houses not", "and build 3 houses", "or build 3 houses", "not", "and", "or", "(", ")", "( )", "not not", "not and", "build and houses",
		"( build 3 houses )", "not ( build 3 houses )", "not ( not build 3 houses )", "( not build 3 houses )", "( build 3 houses and move 1 pipes )", "( build 3 houses or move 1 pipes )",
		"build 3 houses and ( move 1 pipes )", "build 3 houses and ( move 1 pipes and pay 2 roads )", "build 3 houses or ( move 1 pipes and pay 2 roads )", "build 3 houses or ( move 1 pipes or pay 2 roads )", "( build 3 houses and move 1 pipes ) or pay 2 roads", "( build 3 houses ) or pay 2 roads",
		"( ( build 3 houses or move 1 pipes ) ) and pay 2 roads", "( build 3 houses or move 1 pipes and pay 2 roads", "build 3 houses or move 1 pipes ) and pay 2 roads", "( build 3 houses or move 1 pipes ) )", ") build 3 houses (", "not ( build 3 houses or move 1 pipes", "(build 3 houses or move 1 pipes) and pay 2 roads",
		"build 3 houses and and move 1 pipes", "build 3 houses and or move 1 pipes", "build 3 houses not move 1 pipes", "build 3 houses ku", "ei build 3 houses", "build 3 houses ja move 1 pipes", "build 3 houses, move 1 pipes", "build 3 houses And move 1 pipes",
	},
	{
		"", " ", "tupa", "tupa 3", "3 rako", "rako 3 tupa", "tupa 3 tupa", "rako 3 rako", "build 3 houses", "kir3a", "tupa 3 rako ", " tupa 3 rako", "tupa  3 rako", "tupa 3 rako\n", "Tupa 3 rako", "tupa 03 rako", "tupa 0 rako", "tupa 100 rako", "tupa -3 rako", "tupa + rako",
		"tupa 3 rako tupa 3 rako", "tupa 3 rako ei", "ei", "ja", "vai", "ei ei", "ja ei", "ja tupa 3 rako", "vai tupa 3 rako", "ja tupa 3 rako ei", "ei tupa 3 rako tupa 3 rako", "ja tupa 3 rako tupa 3 rako tupa 3 rako", "tupa 3 rako ja tupa 3 rako", "tupa 3 rako tupa 3 rako ja", "( tupa 3 rako )", "ei ( tupa 3 rako )", "not tupa 3 rako", "ja tupa 3 rako reda 2", "vai vai tupa 3 rako reda 2 siro", "ei tupa rako", "tupa ei rako", "Ei tupa 3 rako",
	},
	{
		"", " ", "kir", "kira", "kir3", "3a", "3", "a", "kir3aa", "kirr3a", "ir3a", "kir 3a", "kir3 a", "kir 3 a", "a3kir", "kir3a3a", "kir3a3", "3kir3a", "kir3e ", " kir3e", "kir3a  ku", "kir3a\n", "Kir3a", "kir3A", "kir03a", "kir0a", "kir100a", "kir-3a", "kir+3a", "kir3.0a", "kir3 0a", "kir3x3a", "kir３a", "kir٣a", "kir\xff3a", "kir18446744073709551617a",
		"build 3 houses", "tupa 3 rako", "ku", "le", "no", "ku ku", "ku kir3a", "le kir3a kir3a", "kir3a le", "kir3a no", "kir3a ku le", "kir3a kir3a", "kir3a kir3a ku", "kir3a kir3a kir3a le", "kir3a le kir3a", "kir3a le kir3a le", "no kir3a kir3a no", "kir3a kir3a le le", "( kir3a )", "( kir3a kir3a le ) ku", "kir3a kuku", "kir3aku", "kir3a Ku", "kir3a not", "kir3a kir3a and", "kir3k", "kir3ku",
	},
}

func TestNoTexts(t *testing.T) {
	for language, texts := range noTexts {
		for _, text := range texts {
			if got, e := Read(text, language); e != api.ErrText || got != nil {
				t.Errorf("%d %q %v %v", language, text, got, e)
			}
			for to := range 3 {
				if got, e := Translate(text, language, to); e != api.ErrText || got != "" {
					t.Errorf("%d %q %d %q %v", language, text, to, got, e)
				}
			}
			if len(slowRead(text, language)) > 0 {
				t.Errorf("%d %q is a text", language, text)
			}
		}
	}
}

// TestTheMostParts has texts of as many parts as are allowed, and of one more.
func TestTheMostParts(t *testing.T) {
	most := [][]api.SpeakPart{longest(), chain(api.SpeakAnd, 16, false), chain(api.SpeakOr, 16, true), slices.Concat(slices.Repeat(deny(nil), 30), do(1, 1, 1))}
	for i, m := range most {
		if len(m) != 31 {
			t.Fatal(i, len(m))
		}
		for language := range 3 {
			mustBeText(t, m, mustSlow(m).text(language), language)
			text := mustSlow(deny(m)).text(language)
			if got, e := Read(text, language); len(text) > 600 || e != api.ErrText || got != nil {
				t.Error(i, text, got, e)
			}
			if got, e := Translate(text, language, 0); e != api.ErrText || got != "" {
				t.Error(i, text, got, e)
			}
		}
	}
}

func TestTextErrors(t *testing.T) {
	bad, long := badMotions(), tooLong()
	for language := -1; language <= 3; language++ {
		is := language >= 0 && language < 3
		for _, name := range namesIn(bad) {
			if got, e := Print(bad[name], language); e != api.ErrArg || got != "" {
				t.Error(name, language, got, e)
			}
		}
		for _, name := range namesIn(long) {
			if got, e := Print(long[name], language); e != api.ErrLong || got != "" {
				t.Error(name, language, got, e)
			}
		}
		if got, e := Print(motionM(), language); (e == api.OK) != is || !is && (e != api.ErrArg || got != "") {
			t.Error(language, got, e)
		}
		testLongTexts(t, language, is)
	}
}

// testLongTexts reads texts of about as many bytes as are allowed, in a language that may be none.
func testLongTexts(t *testing.T, language int, is bool) {
	t.Helper()
	just := api.ErrArg
	if is {
		just = api.ErrText
	}
	for _, x := range []struct {
		text string
		e    api.Errno
	}{
		{strings.Repeat("x", 600), just}, {strings.Repeat(" ", 600), just}, {strings.Repeat("( ", 300), just}, {strings.Repeat("ei ", 200), just}, {strings.Repeat("not ", 150), just}, {strings.Repeat("kir3a ", 100), just}, {"kir" + strings.Repeat("9", 596) + "a", just}, {"", just},
		{strings.Repeat("x", 601), api.ErrLong}, {strings.Repeat("é", 301), api.ErrLong}, {"build 3 houses" + strings.Repeat(" ", 600), api.ErrLong}, {strings.Repeat("( ", 1000000), api.ErrLong},
	} {
		if got, e := Read(x.text, language); e != x.e || got != nil {
			t.Error(len(x.text), language, got, e)
		}
		for _, way := range [][2]int{{language, 0}, {language, 2}, {language, language}} {
			if got, e := Translate(x.text, way[0], way[1]); e != x.e || got != "" {
				t.Error(len(x.text), way, got, e)
			}
		}
	}
	for way := range 3 {
		if got, e := Translate("kir3a", 2, language); (e == api.OK) != is || !is && (e != api.ErrArg || got != "") {
			t.Error(way, language, got, e)
		}
		if got, e := Translate("no text", way, language); got != "" || is && e != api.ErrText || !is && e != api.ErrArg {
			t.Error(way, language, got, e)
		}
		if got, e := Translate(strings.Repeat("x", 601), way, language); e != api.ErrLong || got != "" {
			t.Error(way, language, got, e)
		}
	}
}

func TestTextsSlowly(t *testing.T) {
	r := source()
	for range 2000 {
		m := someMotion(r, 31, 4, 4, 99)
		for language := range 3 {
			mustBeText(t, m, mustSlow(m).text(language), language)
		}
	}
}

// allTexts returns all texts of so many of some words.
func allTexts(of []string, many int) []string {
	all := []string{""}
	for i := range many {
		var longer []string
		for _, text := range all {
			for _, word := range of {
				if i > 0 {
					longer = append(longer, text+" "+word)
				} else {
					longer = append(longer, word)
				}
			}
		}
		all = longer
	}
	return all
}

// mustRead fails if what Read returns is not what all ways to cut a text show, and reports whether it is that of a motion.
func mustRead(t *testing.T, text string, language int) bool {
	t.Helper()
	all := slowRead(text, language)
	if len(all) > 1 {
		t.Fatalf("%q is the text of several motions", text)
	}
	got, e := Read(text, language)
	if len(all) == 0 {
		if e != api.ErrText || got != nil {
			t.Fatalf("%d %q %v %v", language, text, got, e)
		}
		return false
	}
	if e != api.OK || !slices.Equal(got, all[0]) {
		t.Fatalf("%d %q %v %v %v", language, text, got, e, all[0])
	}
	return true
}

func TestAllTexts(t *testing.T) {
	for language, of := range [3][]string{{"build 1 houses", "not", "and", "or", "(", ")"}, {"tupa 1 rako", "ei", "ja", "vai"}, {"kir1a", "ku", "le", "no"}} {
		motions := 0
		for many := range 7 {
			for _, text := range allTexts(of, many) {
				if mustRead(t, text, language) {
					motions++
				}
			}
		}
		if motions < 40 {
			t.Error(language, motions)
		}
	}
}

// TestAllShortTexts has the words of a clause one by one.
func TestAllShortTexts(t *testing.T) {
	for language, of := range [3][]string{{"pay", "7", "lakes", "not", "and", "("}, {"lamu", "7", "mako", "ei", "ja"}, {"pan7i", "pan", "7", "i", "7i", "ku", "no"}} {
		for many := range 5 {
			for _, text := range allTexts(of, many) {
				mustRead(t, text, language)
			}
		}
	}
}

// spoiledText returns a text after a word, or a byte, of it was changed.
func spoiledText(r *rand.Rand, text string, language int) string {
	words := strings.Split(text, " ")
	i, k := r.IntN(len(words)), r.IntN(len(words))
	more := append([]string{"(", ")", "", "7", "kir3a", "build", "lamu"}, linkWords[language]...)
	switch r.IntN(6) {
	case 0:
		words = slices.Delete(words, i, i+1)
	case 1:
		words = slices.Insert(words, i, more[r.IntN(len(more))])
	case 2:
		words[i], words[k] = words[k], words[i]
	case 3:
		words[i] = more[r.IntN(len(more))]
	case 4:
		from, to := min(i, k), max(i, k)+1
		words = slices.Concat(words[:from], []string{"("}, words[from:to], []string{")"}, words[to:])
	default:
		at := r.IntN(len(text) + 1)
		return text[:at] + string("0 1a(B\x00\xff"[r.IntN(8)]) + text[at:]
	}
	return strings.Join(words, " ")
}

func TestSpoiledTexts(t *testing.T) {
	r := source()
	for language := range 3 {
		motions, others := 0, 0
		for range 1500 {
			m := someMotion(r, 9, 4, 4, 99)
			text := mustSlow(m).text(language)
			for range upTo(r, 1, 2) {
				text = spoiledText(r, text, language)
			}
			if mustRead(t, text, language) {
				motions++
			} else {
				others++
			}
		}
		if motions < 50 || others < 500 {
			t.Error(language, motions, others)
		}
	}
}

// TestWhatIsReadIsWrittenTheSame goes through all languages, and back, and asks whether the motions mean the same.
func TestWhatIsReadIsWrittenTheSame(t *testing.T) {
	r := source()
	for range 1000 {
		m := someMotion(r, 31, 4, 4, 99)
		var texts [3]string
		for language := range 3 {
			text, e := Print(m, language)
			read, readE := Read(text, language)
			again, againE := Print(read, language)
			if e != api.OK || readE != api.OK || againE != api.OK || !slices.Equal(read, m) || again != text {
				t.Fatal(m, text, read, again, e, readE, againE)
			}
			texts[language] = text
		}
		for from := range 3 {
			text := texts[from]
			for step := range 3 {
				to := (from + step + 1) % 3
				next, e := Translate(text, (from+step)%3, to)
				if e != api.OK || next != texts[to] {
					t.Fatal(m, text, next, e)
				}
				text = next
			}
			for to := range 3 {
				if got, e := Translate(texts[from], from, to); e != api.OK || got != texts[to] {
					t.Fatal(m, texts[from], got, e)
				}
			}
		}
	}
}

// TestTranslationsHoldForTheSameDeeds translates motions, and does deeds.
func TestTranslationsHoldForTheSameDeeds(t *testing.T) {
	r := source()
	seen := map[bool]int{}
	for range 500 {
		m := someMotion(r, 15, 2, 2, 4)
		deeds := someDeeds(r, 6, 2, 2, 5)
		want, _ := Holds(m, deeds)
		text, _ := Print(m, 0)
		for to := 1; to < 3; to++ {
			other, _ := Translate(text, 0, to)
			n, e := Read(other, to)
			if got, holdsE := Holds(n, deeds); e != api.OK || holdsE != api.OK || got != want {
				t.Fatal(m, n, deeds, got, want, e, holdsE)
			}
			if deeds, e := Apart(m, n); e == api.OK {
				t.Fatal(m, n, deeds)
			}
		}
		seen[want]++
	}
	if seen[true] < 100 || seen[false] < 100 {
		t.Error(seen)
	}
}
