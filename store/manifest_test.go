package store

import (
	"math"
	"math/rand/v2"
	"slices"
	"strconv"
	"strings"
	"testing"

	"talik/api"
)

// P6.5 (Print, Read)

const (
	exampleShips    = "ship 0 0 50 4 2 1\nship 1 1 40 2 4 1\nship 2 0 100 6 6 3\n"
	exampleManifest = exampleShips + "end 3 34\n"
)

// manifest returns a text for ships, whether they are as defined or not.
func manifest(ships []api.StoreShip) string {
	text, sum := "", 0
	for i, s := range ships {
		text += "ship"
		for j, n := range []int{i, s.Week, s.Cost, s.Cargo[0], s.Cargo[1], s.Cargo[2]} {
			text += " " + strconv.Itoa(n)
			sum = (sum + n + n*j) % 97
		}
		text += "\n"
	}
	return text + "end " + strconv.Itoa(len(ships)) + " " + string([]byte{byte('0' + sum/10), byte('0' + sum%10)}) + "\n"
}

// shipOf returns a ship.
func shipOf(week, cost, fuel, food, others int) api.StoreShip {
	return api.StoreShip{Week: week, Cost: cost, Cargo: goods{fuel, food, others}}
}

// testReads reads a text, which is that of ships.
func testReads(t *testing.T, text string, ships []api.StoreShip) {
	t.Helper()
	if got, e := Read(text); e != api.OK || !slices.Equal(got, ships) {
		t.Fatalf("%q %v %v", text, got, e)
	}
	if got, e := Print(ships); e != api.OK || got != text {
		t.Fatalf("%q %q %v", text, got, e)
	}
}

// testReadsNot reads texts with an error.
func testReadsNot(t *testing.T, texts map[string]string, want api.Errno) {
	t.Helper()
	for _, name := range names(texts) {
		if ships, e := Read(texts[name]); e != want || ships != nil {
			t.Errorf("%s: %q %v %v", name, texts[name], ships, e)
		}
	}
}

func TestManifestExample(t *testing.T) {
	testReads(t, exampleManifest, town().Ships)
	if manifest(town().Ships) != exampleManifest {
		t.Error(manifest(town().Ships))
	}
}

func TestManifestChecks(t *testing.T) {
	for text, ships := range map[string][]api.StoreShip{
		"end 0 00\n":                     nil,
		"ship 0 0 0 0 0 0\nend 1 00\n":   {{}},
		"ship 0 1 0 0 0 0\nend 1 02\n":   {shipOf(1, 0, 0, 0, 0)},
		"ship 0 0 1 0 0 0\nend 1 03\n":   {shipOf(0, 1, 0, 0, 0)},
		"ship 0 0 0 1 0 0\nend 1 04\n":   {shipOf(0, 0, 1, 0, 0)},
		"ship 0 0 0 0 1 0\nend 1 05\n":   {shipOf(0, 0, 0, 1, 0)},
		"ship 0 0 0 0 0 1\nend 1 06\n":   {shipOf(0, 0, 0, 0, 1)},
		"ship 0 0 32 0 0 0\nend 1 96\n":  {shipOf(0, 32, 0, 0, 0)},
		"ship 0 0 97 0 0 0\nend 1 00\n":  {shipOf(0, 97, 0, 0, 0)},
		"ship 0 0 31 1 0 0\nend 1 00\n":  {shipOf(0, 31, 1, 0, 0)},
		"ship 0 0 1 2 15 10\nend 1 49\n": {shipOf(0, 1, 2, 15, 10)}, // 3 + 8 + 75 + 60 is 97 + 49
		"ship 0 0 0 0 0 0\nship 1 0 0 0 0 0\nship 2 0 0 0 0 0\nship 3 0 0 0 0 0\nend 4 06\n": make([]api.StoreShip, 4),
		// 14 + 3000000 + 15000 = 3015014 for each ship, and 15 for their numbers: 18090099 is 186495*97 + 84
		manifest(slices.Repeat([]api.StoreShip{shipOf(7, 1000000, 1000, 1000, 1000)}, 6)): slices.Repeat([]api.StoreShip{shipOf(7, 1000000, 1000, 1000, 1000)}, 6),
	} {
		testReads(t, text, ships)
	}
	if text, e := Print(slices.Repeat([]api.StoreShip{shipOf(7, 1000000, 1000, 1000, 1000)}, 6)); e != api.OK || !strings.HasSuffix(text, "\nship 5 7 1000000 1000 1000 1000\nend 6 84\n") {
		t.Error(text, e)
	}
}

// badShips returns ships that are not as defined, each for one reason.
func badShips() map[string][]api.StoreShip {
	all := map[string][]api.StoreShip{}
	change := func(name string, at int, do func(s *api.StoreShip)) {
		ships := town().Ships
		do(&ships[at])
		all[name] = ships
	}
	for _, n := range []int{-1, 1001, math.MinInt, math.MaxInt} {
		name := " " + strconv.Itoa(n)
		change("fuel"+name, 0, func(s *api.StoreShip) { s.Cargo[0] = n })
		change("food"+name, 1, func(s *api.StoreShip) { s.Cargo[1] = n })
		change("others"+name, 2, func(s *api.StoreShip) { s.Cargo[2] = n })
	}
	for _, n := range []int{-1, 8, math.MinInt, math.MaxInt} {
		change("week "+strconv.Itoa(n), 1, func(s *api.StoreShip) { s.Week = n })
	}
	for _, n := range []int{-1, 1000001, math.MinInt, math.MaxInt} {
		change("cost "+strconv.Itoa(n), 2, func(s *api.StoreShip) { s.Cost = n })
	}
	return all
}

func TestPrintErrors(t *testing.T) {
	bad := badShips()
	for _, name := range names(bad) {
		if text, e := Print(bad[name]); e != api.ErrArg || text != "" {
			t.Errorf("%s %q %v", name, text, e)
		}
	}
	for _, ships := range [][]api.StoreShip{make([]api.StoreShip, 7), make([]api.StoreShip, 1000), slices.Repeat(bad["week -1"], 3)} {
		if text, e := Print(ships); e != api.ErrLong || text != "" {
			t.Errorf("%v %q %v", ships, text, e)
		}
	}
}

func TestReadsShipsThatAreNotAsDefined(t *testing.T) {
	texts := map[string]string{
		"the week 8":   manifest([]api.StoreShip{shipOf(8, 1, 1, 1, 1)}),
		"all 9 digits": manifest(slices.Repeat([]api.StoreShip{shipOf(999999999, 999999999, 999999999, 999999999, 999999999)}, 6)),
		"the last one": manifest(append(make([]api.StoreShip, 5), shipOf(0, 0, 0, 0, 1001))),
	}
	bad := badShips()
	for name, ships := range bad {
		if text := manifest(ships); !strings.Contains(text, "-") && !strings.Contains(text, strconv.Itoa(math.MaxInt)) {
			texts[name] = text
		}
	}
	if len(texts) != 3+5 {
		t.Error(names(texts))
	}
	testReadsNot(t, texts, api.ErrArg)
	testReadsNot(t, map[string]string{
		"7 ships":              manifest(make([]api.StoreShip, 7)),
		"7 ships, one bad":     manifest(append(make([]api.StoreShip, 6), shipOf(8, 0, 0, 0, 0))),
		"very many ships":      manifest(make([]api.StoreShip, 480)),
		"very many great ones": manifest(slices.Repeat([]api.StoreShip{shipOf(999999999, 999999999, 999999999, 999999999, 999999999)}, 160)),
	}, api.ErrLong)
	testReadsNot(t, map[string]string{
		"7 ships, of which 6 are said": strings.Replace(manifest(make([]api.StoreShip, 7)), "end 7", "end 6", 1),
		"7 ships, and a wrong check":   strings.Replace(manifest(make([]api.StoreShip, 7)), "end 7 21", "end 7 22", 1),
		"a bad ship, a wrong check":    "ship 0 8 0 0 0 0\nend 1 17\n",
		"7 ships, one number wrong":    strings.Replace(manifest(make([]api.StoreShip, 7)), "ship 6", "ship 9", 1),
	}, api.ErrText)
}

// swap returns the chapter's manifest after something was replaced once.
func swap(old, new string) string { return strings.Replace(exampleManifest, old, new, 1) }

func TestReadForms(t *testing.T) {
	text, ships := exampleManifest, exampleShips
	testReadsNot(t, map[string]string{
		"nothing":                      "",
		"a line feed":                  "\n",
		"no first letter":              text[1:],
		"no last line feed":            text[:len(text)-1],
		"a line feed more":             text + "\n",
		"a line feed in front":         "\n" + text,
		"a blank in front":             " " + text,
		"a blank after the end":        text + " ",
		"two manifests":                text + text,
		"two ends":                     text + "end 3 34\n",
		"two ends of nothing":          "end 0 00\nend 0 00\n",
		"carriage returns":             strings.ReplaceAll(text, "\n", "\r\n"),
		"no end":                       ships,
		"only a word":                  "ship",
		"only a word in a line":        "ship\n",
		"only an end's word":           "end\n",
		"an end too early":             "ship 0 0 50 4 2 1\nship 1 1 40 2 4 1\nend 3 34\nship 2 0 100 6 6 3\n",
		"a ship behind the end":        "end 0 00\nship 0 0 0 0 0 0\n",
		"a ship less":                  swap("ship 2 0 100 6 6 3\n", ""),
		"a ship less is said":          swap("end 3", "end 2"),
		"a ship more is said":          swap("end 3", "end 4"),
		"no ships are said":            swap("end 3", "end 0"),
		"a ship of nothing is said":    "end 1 00\n",
		"very many are said":           swap("end 3", "end 999999999"),
		"no check":                     ships + "end 3\n",
		"an empty check":               ships + "end 3 \n",
		"another check":                ships + "end 3 35\n",
		"a check by 100":               ships + "end 3 13\n",
		"a check and 97":               "end 0 97\n",
		"a check of one digit":         "end 0 0\n",
		"a check of three digits":      ships + "end 3 034\n",
		"three digits of nothing":      "end 0 000\n",
		"a check with a sign":          ships + "end 3 +34\n",
		"a check twice":                ships + "end 3 34 34\n",
		"a check with a blank":         ships + "end 3 34 \n",
		"ships and check in one":       ships + "end 334\n",
		"a check of letters":           ships + "end 3 ab\n",
		"a number less":                swap("ship 1 1 40 2 4 1", "ship 1 1 40 2 4"),
		"a number less, and a blank":   swap("ship 1 1 40 2 4 1", "ship 1 1 40 2 4 "),
		"a number more":                swap("ship 1 1 40 2 4 1", "ship 1 1 40 2 4 1 0"),
		"no numbers":                   "ship\nend 1 00\n",
		"ships are exchanged":          "ship 1 0 0 0 0 0\nship 0 0 0 0 0 0\nend 2 01\n",
		"ships from 1 on":              "ship 1 0 0 0 0 0\nend 1 01\n",
		"a ship is left out":           "ship 0 0 0 0 0 0\nship 2 0 0 0 0 0\nend 2 02\n",
		"a ship twice":                 "ship 0 0 0 0 0 0\nship 0 0 0 0 0 0\nend 2 00\n",
		"a number by 97":               "ship 97 0 0 0 0 0\nend 1 00\n",
		"ship in capitals":             swap("ship", "Ship"),
		"the second ship in capitals":  swap("ship 1", "SHIP 1"),
		"end in capitals":              swap("end", "END"),
		"another word":                 swap("ship 1", "shop 1"),
		"a longer word":                swap("ship 1", "ships 1"),
		"a longer end":                 swap("end", "ends"),
		"a shorter end":                swap("end", "en"),
		"no blank behind a word":       swap("ship 1", "ship1"),
		"no word":                      swap("ship 1", "1"),
		"an empty word":                swap("ship 1", " 1"),
		"an empty line":                swap("ship 1", "\nship 1"),
		"an empty line before the end": swap("end", "\nend"),
		"a blank at a line's end":      swap("2 1\n", "2 1 \n"),
		"a blank at a line's start":    swap("ship 1", " ship 1"),
		"two blanks":                   swap("ship 1 1", "ship 1  1"),
		"two blanks in the end":        swap("3 34", "3  34"),
		"a tab":                        swap("ship 1 1", "ship 1\t1"),
		"a comment":                    "// ships\n" + text,
		"no UTF-8":                     swap("ship 1", "ship\xff 1"),
		"a byte of 0":                  swap("ship 1", "\x00ship 1"),
	}, api.ErrText)
}

func TestReadNumbers(t *testing.T) {
	texts := map[string]string{}
	for name, word := range map[string]string{
		"nothing":                 "",
		"a leading zero":          "01",
		"two zeros":               "00",
		"a plus":                  "+1",
		"a sign":                  "-1",
		"no zero less than 0":     "-0",
		"a sign alone":            "-",
		"10 digits":               "1000000000",
		"10 digits, the first 0":  "0000000001",
		"very many digits":        strings.Repeat("9", 40),
		"2^64 more":               "18446744073709551617",
		"a letter":                "1o",
		"the byte before 0":       "1/",
		"the byte after 9":        "1:",
		"a digit of base 16":      "a",
		"a digit of another kind": "\u0661",
		"no UTF-8":                "1\xff",
		"a byte of 0":             "1\x00",
		"a point":                 "1.0",
		"an underscore":           "1_0",
	} {
		for check := range 100 { // with each check, as it is not said which one what is no number has
			end := " " + strconv.Itoa(check + 100)[1:] + "\n"
			texts[name+": number, "+end] = "ship " + word + " 0 0 0 0 0\nend 1" + end
			texts[name+": week, "+end] = "ship 0 " + word + " 0 0 0 0\nend 1" + end
			texts[name+": cost, "+end] = "ship 0 0 " + word + " 0 0 0\nend 1" + end
			texts[name+": others, "+end] = "ship 0 0 0 0 0 " + word + "\nend 1" + end
			texts[name+": ships, "+end] = "ship 0 0 0 0 0 0\nend " + word + end
			texts[name+": no ships, "+end] = "end " + word + end
		}
	}
	testReadsNot(t, texts, api.ErrText)
}

func TestReadLongTexts(t *testing.T) {
	lines := strings.Repeat("ship 0 0 0 0 0 0\n", 1000)
	testReadsNot(t, map[string]string{"just 10000 bytes": strings.Repeat("x", 10000), "just 10000 bytes of lines": lines[:10000]}, api.ErrText)
	just := manifest(slices.Repeat([]api.StoreShip{shipOf(1, 1, 1, 1, 1)}, 530))
	testReadsNot(t, map[string]string{
		"10001 bytes":       strings.Repeat("x", 10001),
		"blanks":            exampleManifest + strings.Repeat(" ", 10000),
		"lines":             lines,
		"ships that fit":    just,
		"ships that do not": manifest(make([]api.StoreShip, 600)),
	}, api.ErrLong)
	if len(just) > api.StoreText || len(just) < 9900 {
		t.Error(len(just))
	}
}

// someShips returns ships that are as defined.
func someShips(r *rand.Rand) []api.StoreShip {
	upTo := func(most int) int { return r.IntN(min(most, []int{1, 10, 100, most}[r.IntN(4)]) + 1) }
	var ships []api.StoreShip
	for range r.IntN(7) {
		ships = append(ships, shipOf(r.IntN(8), upTo(1000000), upTo(1000), upTo(1000), upTo(1000)))
	}
	return ships
}

func TestManifestsThereAndBack(t *testing.T) {
	r := source()
	checks := map[string]bool{}
	for range 5000 {
		ships := someShips(r)
		text := manifest(ships)
		testReads(t, text, ships)
		checks[text[len(text)-3:]] = true
	}
	if len(checks) != 97 {
		t.Error(len(checks))
	}
}

func TestReadNoticesChangedDigits(t *testing.T) {
	r := source()
	for range 300 {
		text := manifest(someShips(r))
		for i := range text {
			for c := byte('0'); c <= '9' && text[i] >= '0' && text[i] <= '9'; c++ {
				if c == text[i] {
					continue
				}
				changed := text[:i] + string(c) + text[i+1:]
				if ships, e := Read(changed); e != api.ErrText || ships != nil {
					t.Fatalf("%q %q %v %v", text, changed, ships, e)
				}
			}
		}
	}
}

func FuzzRead(f *testing.F) {
	for _, text := range []string{"", exampleManifest, "end 0 00\n", "ship 0 0 0 0 0 0\nend 1 00\n", "ship 0 8 0 0 0 0\nend 1 16\n", "ship", "end 0 97\n", manifest(make([]api.StoreShip, 7))} {
		f.Add(text)
	}
	f.Fuzz(func(t *testing.T, text string) {
		ships, e := Read(text)
		if e == api.OK {
			if again, e := Print(ships); e != api.OK || again != text {
				t.Errorf("%q %q %v", text, again, e)
			}
			return
		}
		if ships != nil || len(text) > api.StoreText && e != api.ErrLong {
			t.Errorf("%q %v %v", text, ships, e)
		}
	})
}
