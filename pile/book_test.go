package pile

import (
	"math/rand/v2"
	"slices"
	"strconv"
	"strings"
	"testing"

	"talik/api"
)

// P2.6 (Print, Read)

const (
	exampleLines = "levels 2 2\nyear 0 -9 -4\nyear 1 0 -8\n"
	exampleBook  = exampleLines + "end 105\n"
)

// exampleLevels returns the levels of the example.
func exampleLevels() [][]int { return [][]int{{-9, -4}, {0, -8}} }

// ended returns lines with the end that they should have if these are their levels.
func ended(lines string, levels [][]int) string {
	sum := 0
	for i, row := range levels {
		for j, level := range row {
			counted := level * 2
			if level < 0 {
				counted = 1 - level*2
			}
			sum += counted * (i + 1) * (j + 1) % 997
		}
	}
	digits := strconv.Itoa(sum % 997)
	return lines + "end " + strings.Repeat("0", 3-len(digits)) + digits + "\n"
}

// book returns a text for levels, whether they are a book or not.
func book(levels [][]int) string {
	piles := 0
	if len(levels) > 0 {
		piles = len(levels[0])
	}
	lines := "levels " + strconv.Itoa(len(levels)) + " " + strconv.Itoa(piles) + "\n"
	for year, row := range levels {
		lines += "year " + strconv.Itoa(year)
		for _, level := range row {
			lines += " " + strconv.Itoa(level)
		}
		lines += "\n"
	}
	return ended(lines, levels)
}

// someLevels returns a level book.
func someLevels(r *rand.Rand) [][]int {
	piles := 1 + r.IntN(api.PilePiles)
	var levels [][]int
	for range 1 + r.IntN(api.PileYears) {
		var row []int
		for range piles {
			most := []int{1, 9, 100, api.PileLevel}[r.IntN(4)]
			row = append(row, r.IntN(2*most+1)-most)
		}
		levels = append(levels, row)
	}
	return levels
}

func TestBookExample(t *testing.T) {
	if s, e := Print(exampleLevels()); e != api.OK || s != exampleBook {
		t.Errorf("%q %v", s, e)
	}
	if l, e := Read(exampleBook); e != api.OK || !equalLevels(l, exampleLevels()) {
		t.Error(l, e)
	}
}

func TestBookChecks(t *testing.T) {
	for _, x := range []struct {
		levels [][]int
		want   string
	}{
		{[][]int{{0}}, "levels 1 1\nyear 0 0\nend 000\n"},
		{[][]int{{4}}, "levels 1 1\nyear 0 4\nend 008\n"},
		{[][]int{{-4}}, "levels 1 1\nyear 0 -4\nend 009\n"},
		{[][]int{{0, 0, 7}}, "levels 1 3\nyear 0 0 0 7\nend 042\n"},
		{[][]int{{0}, {0}, {-7}}, "levels 3 1\nyear 0 0\nyear 1 0\nyear 2 -7\nend 045\n"},
		{[][]int{{498}}, "levels 1 1\nyear 0 498\nend 996\n"},
		{[][]int{{-498}}, "levels 1 1\nyear 0 -498\nend 000\n"},
		{[][]int{{-100000, 100000}}, "levels 1 2\nyear 0 -100000 100000\nend 804\n"},
	} {
		if s, e := Print(x.levels); e != api.OK || s != x.want {
			t.Errorf("%v %q %v", x.levels, s, e)
		}
		if l, e := Read(x.want); e != api.OK || !equalLevels(l, x.levels) {
			t.Errorf("%v %v %v", x.levels, l, e)
		}
	}
}

// noBooks returns levels that are no book, each for one reason.
func noBooks() map[string][][]int {
	return map[string][][]int{
		"no years":           nil,
		"empty years":        {},
		"no piles":           {{}},
		"no piles in years":  {nil, nil},
		"11 years":           slices.Repeat([][]int{{1}}, 11),
		"7 piles":            {{0, 0, 0, 0, 0, 0, 0}},
		"a level too great":  {{0, 0}, {0, 100001}},
		"a level too little": {{0, -100001}, {0, 0}},
		"very many":          slices.Repeat([][]int{slices.Repeat([]int{1}, 30)}, 100),
	}
}

func TestPrintErrors(t *testing.T) {
	levels := noBooks()
	levels["a pile less"] = [][]int{{1, 2}, {1}}
	levels["a pile more"] = [][]int{{1, 2}, {1, 2, 3}}
	levels["no first year"] = [][]int{{}, {1}}
	for name, l := range levels {
		if s, e := Print(l); s != "" || e != api.ErrArg {
			t.Errorf("%s %q %v", name, s, e)
		}
	}
}

func TestReadLevelsThatAreNoBook(t *testing.T) {
	levels := noBooks()
	levels["9 digits"] = [][]int{{999999999, -999999999}, {0, 0}}
	for name, l := range levels {
		if got, e := Read(book(l)); got != nil || e != api.ErrArg {
			t.Error(name, got, e)
		}
	}
	// piles of no years
	if l, e := Read("levels 0 3\nend 000\n"); l != nil || e != api.ErrArg {
		t.Error(l, e)
	}
	// levels that are no book, in a text that has not its form
	if l, e := Read("levels 0 0\nend 001\n"); l != nil || e != api.ErrText {
		t.Error(l, e)
	}
	// the most levels that fit in, whose check is far beyond what they are
	many := book([][]int{slices.Repeat([]int{999999999}, 1900)})
	if l, e := Read(many); len(many) > api.PileText || l != nil || e != api.ErrArg {
		t.Error(len(many), l, e)
	}
}

// swap returns the example's book after something in its lines was replaced; all levels are said to be the same.
func swap(old, new string) string {
	return ended(strings.Replace(exampleLines, old, new, 1), exampleLevels())
}

func testNoBooks(t *testing.T, texts map[string]string) {
	t.Helper()
	for name, text := range texts {
		if l, e := Read(text); e != api.ErrText || l != nil {
			t.Error(name, l, e)
		}
	}
}

func TestReadForms(t *testing.T) {
	lines := exampleLines
	if swap("levels", "levels") != exampleBook {
		t.Fatal(swap("levels", "levels"))
	}
	testNoBooks(t, map[string]string{
		"nothing":                 "",
		"a line feed":             "\n",
		"no first letter":         exampleBook[1:],
		"no last line feed":       exampleBook[:len(exampleBook)-1],
		"a line feed more":        exampleBook + "\n",
		"a line feed in front":    "\n" + exampleBook,
		"a blank after the end":   exampleBook + " ",
		"two books":               exampleBook + exampleBook,
		"two ends":                exampleBook + "end 105\n",
		"carriage returns":        swap("levels 2 2\n", "levels 2 2\r\n"),
		"no end":                  lines,
		"no check":                lines + "end \n",
		"no check and no blank":   lines + "end\n",
		"two digits":              "levels 1 1\nyear 0 4\nend 08\n",
		"four digits":             lines + "end 0105\n",
		"a check that is wrong":   lines + "end 106\n",
		"a check by 1000":         "levels 1 1\nyear 0 -498\nend 997\n",
		"a check more":            lines + "end 105 105\n",
		"a check with a sign":     lines + "end -105\n",
		"an end in capitals":      lines + "END 105\n",
		"two blanks in the end":   lines + "end  105\n",
		"only an end":             "end 000\n",
		"no first line":           "year 0 -9 -4\nyear 1 0 -8\nend 105\n",
		"a first line in years":   "year 0 -9 -4\nlevels 2 2\nyear 1 0 -8\nend 105\n",
		"two first lines":         "levels 2 2\n" + exampleBook,
		"a first line later":      strings.Replace(exampleBook, "year 1", "levels 2 2\nyear 1", 1),
		"an end too early":        strings.Replace(exampleBook, "year 1 0 -8\n", "", 1),
		"levels in capitals":      swap("levels", "Levels"),
		"year in capitals":        swap("year 1", "Year 1"),
		"another word":            swap("year 1", "week 1"),
		"more years are said":     swap("levels 2 2", "levels 3 2"),
		"less years are said":     swap("levels 2 2", "levels 1 2"),
		"no years are said":       swap("levels 2 2", "levels 0 2"),
		"more piles are said":     swap("levels 2 2", "levels 2 3"),
		"less piles are said":     swap("levels 2 2", "levels 2 1"),
		"very many are said":      swap("levels 2 2", "levels 999999999 999999999"),
		"no piles are said":       swap("levels 2 2", "levels 2 0"),
		"a number less is said":   swap("levels 2 2", "levels 2"),
		"a number more is said":   swap("levels 2 2", "levels 2 2 2"),
		"a pile less":             swap(" 0 -8", " 0"),
		"a pile more":             swap(" 0 -8", " 0 -8 0"),
		"years are exchanged":     "levels 2 1\nyear 1 0\nyear 0 0\nend 000\n",
		"the year 0 twice":        swap("year 1", "year 0"),
		"years from 1 on":         "levels 1 1\nyear 1 0\nend 000\n",
		"a year with a zero":      swap("year 1", "year 01"),
		"a year with a sign":      swap("year 1", "year +1"),
		"no year":                 "levels 1 1\nyear 0\nend 000\n",
		"an empty line":           swap("year 1", "\nyear 1"),
		"a blank in front":        swap("year 1", " year 1"),
		"a blank at a line's end": swap("-4\n", "-4 \n"),
		"two blanks":              swap("year 1 0", "year 1  0"),
		"a tab":                   swap("year 1 0", "year 1\t0"),
	})
}

func TestReadNumbers(t *testing.T) {
	texts := map[string]string{}
	for name, word := range map[string]string{
		"nothing":                 "",
		"a leading zero":          "04",
		"two zeros":               "00",
		"a plus":                  "+4",
		"less than 0, and a zero": "-04",
		"no zero less than 0":     "-0",
		"a sign alone":            "-",
		"two signs":               "--4",
		"a sign behind":           "4-",
		"10 digits":               "1000000000",
		"10 digits less than 0":   "-1000000000",
		"very many digits":        strings.Repeat("9", 40),
		"a letter":                "4o",
		"the byte before 0":       "4/",
		"the byte after 9":        "4:",
		"a digit of base 16":      "a",
		"a digit of another kind": "\u0664",
		"no UTF-8":                "4\xff",
		"a byte of 0":             "4\x00",
		"a point":                 "4.0",
	} {
		texts["level: "+name] = ended("levels 1 1\nyear 0 "+word+"\n", [][]int{{4}})
		texts["level of 0: "+name] = ended("levels 1 1\nyear 0 "+word+"\n", [][]int{{0}})
		texts["years: "+name] = ended("levels "+word+" 1\nyear 0 4\n", [][]int{{4}})
		texts["piles: "+name] = ended("levels 1 "+word+"\nyear 0 4\n", [][]int{{4}})
	}
	texts["years less than 0"] = "levels -1 1\nend 000\n"
	texts["piles less than 0"] = "levels 0 -1\nend 000\n"
	testNoBooks(t, texts)
}

func TestReadLongTexts(t *testing.T) {
	testNoBooks(t, map[string]string{"just 20000 bytes": strings.Repeat("x", 20000)})
	for _, text := range []string{strings.Repeat("x", 20001), exampleBook + strings.Repeat(" ", 20000), book(slices.Repeat([][]int{{1}}, 3000))} {
		if l, e := Read(text); l != nil || e != api.ErrLong {
			t.Error(len(text), l, e)
		}
	}
}

func TestBooksThereAndBack(t *testing.T) {
	r := source()
	checks := map[string]bool{}
	for range 5000 {
		levels := someLevels(r)
		s, e := Print(levels)
		if e != api.OK || s != book(levels) {
			t.Fatalf("%v %q %v", levels, s, e)
		}
		checks[s[len(s)-4:]] = true
		l, e := Read(s)
		if e != api.OK || !equalLevels(l, levels) {
			t.Fatalf("%v %q %v %v", levels, s, l, e)
		}
		if again, e := Print(l); e != api.OK || again != s {
			t.Fatalf("%q %q %v", s, again, e)
		}
	}
	if len(checks) < 900 {
		t.Error(len(checks))
	}
}

func TestReadNoticesChangedDigits(t *testing.T) {
	r := source()
	for range 100 {
		s, e := Print(someLevels(r))
		if e != api.OK {
			t.Fatal(e)
		}
		for i := range s {
			for c := byte('0'); c <= '9' && s[i] >= '0' && s[i] <= '9'; c++ {
				if c == s[i] {
					continue
				}
				changed := s[:i] + string(c) + s[i+1:]
				if l, e := Read(changed); l != nil || e != api.ErrText {
					t.Fatalf("%q %q %v %v", s, changed, l, e)
				}
			}
		}
	}
}

func FuzzRead(f *testing.F) {
	for _, s := range []string{"", exampleBook, "levels 0 0\nend 000\n", "levels 1 1\nyear 0 -0\nend 000\n", "levels 1 0\nyear 0\nend 000\n", "year", "end \n", "levels 1 1\nyear 0 5\nend 010\n"} {
		f.Add(s)
	}
	f.Fuzz(func(t *testing.T, text string) {
		l, e := Read(text)
		if e == api.OK {
			if s, e := Print(l); e != api.OK || s != text {
				t.Errorf("%q %q %v", text, s, e)
			}
			return
		}
		if l != nil || e == api.ErrLong != (len(text) > api.PileText) {
			t.Errorf("%q %v %v", text, l, e)
		}
	})
}
