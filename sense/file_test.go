package sense

import (
	"math/rand/v2"
	"slices"
	"strconv"
	"strings"
	"testing"

	"talik/api"
)

// P5.5 (PrintFile, ReadFile)

// exampleFile is the chapter's file.
const exampleFile = `string 2 3 2 2 3 o
sensor 0 a
sensor 0 a
sensor 1 b
read 0 0 2700 l
read 0 10 2720 l
read 1 0 2701 s
read 1 10 2702 o
read 2 0 2650 l
read 2 10 2651 k
end 6 g
`

// lineOf returns a line with the check that it should have.
func lineOf(words ...string) string {
	sum, place := 0, 1
	for _, c := range []byte(strings.Join(words[1:], "")) {
		sum += int(c-'0') * place
		place++
	}
	return strings.Join(words, " ") + " " + string([]byte{byte('a' + sum%23)}) + "\n"
}

// checked returns a text whose lines have the checks that they should have; a line is given without one.
func checked(lines ...string) string {
	text := ""
	for _, line := range lines {
		text += lineOf(strings.Split(line, " ")...)
	}
	return text
}

// file returns a text for a string and readings, whether they are as defined or not.
func file(s api.SenseString, l []api.SenseReading) string {
	words := func(word string, numbers ...int) string {
		for _, n := range numbers {
			word += " " + strconv.Itoa(n)
		}
		return word
	}
	lines := []string{words("string", s.Error, s.Drift, s.Warm, s.Depths, len(s.At))}
	for _, depth := range s.At {
		lines = append(lines, words("sensor", depth))
	}
	for _, r := range l {
		lines = append(lines, words("read", r.Sensor, r.Week, r.Temp))
	}
	return checked(append(lines, words("end", len(l)))...)
}

// testReads reads a text, which is that of a string and readings.
func testReads(t *testing.T, text string, s api.SenseString, l []api.SenseReading) {
	t.Helper()
	if got, readings, e := ReadFile(text); e != api.OK || !equalString(got, s) || !slices.Equal(readings, l) {
		t.Fatalf("%q %v %v %v", text, got, readings, e)
	}
	if got, e := PrintFile(s, l); e != api.OK || got != text {
		t.Fatalf("%q %q %v", text, got, e)
	}
}

// testReadsNot reads texts with an error.
func testReadsNot(t *testing.T, texts map[string]string, want api.Errno) {
	t.Helper()
	for _, name := range names(texts) {
		s, l, e := ReadFile(texts[name])
		if e != want || !equalString(s, api.SenseString{}) || l != nil {
			t.Errorf("%s: %q %v %v %v", name, texts[name], s, l, e)
		}
	}
}

func TestFileExample(t *testing.T) {
	testReads(t, exampleFile, hung(), longer())
	if file(hung(), longer()) != exampleFile {
		t.Error(file(hung(), longer()))
	}
}

func TestFilesAtTheBounds(t *testing.T) {
	testReads(t, "string 0 0 0 1 1 j\nsensor 0 a\nend 0 a\n", api.SenseString{Depths: 1, At: []int{0}}, nil)
	most := api.SenseString{Error: 100, Drift: 20, Warm: 20, Depths: 4, At: []int{3, 3, 3, 3, 3, 3}}
	l := slices.Repeat([]api.SenseReading{{Sensor: 5, Week: 200, Temp: 6400}}, 24)
	// 1 + 4*2 + 6*2 + 8*4 + 9*6 = 107 is 4*23 + 15; 5 + 2*2 + 5*6 + 6*4 = 63 is 2*23 + 17; 2 + 2*4 = 10
	testReads(t, "string 100 20 20 4 6 p\n"+strings.Repeat("sensor 3 d\n", 6)+strings.Repeat("read 5 200 6400 r\n", 24)+"end 24 k\n", most, l)
}

func TestPrintFileErrors(t *testing.T) {
	testErrors(t, func(s api.SenseString, l []api.SenseReading) (bool, api.Errno) {
		text, e := PrintFile(s, l)
		return text == "", e
	})
}

func TestReadsWhatIsNotAsDefined(t *testing.T) {
	texts := map[string]string{
		"no sensors":         checked("string 2 3 2 2 0", "end 0"),
		"no depths":          checked("string 2 3 2 0 1", "sensor 0", "end 0"),
		"all 9":              checked("string 9999 9999 9999 9999 1", "sensor 9999", "read 9999 9999 9999", "end 1"),
		"24 readings":        checked(slices.Concat([]string{"string 0 0 0 0 0"}, slices.Repeat([]string{"read 0 0 0"}, 24), []string{"end 24"})...),
		"very many sensors":  checked(slices.Concat([]string{"string 0 0 0 1 400"}, slices.Repeat([]string{"sensor 0"}, 400), []string{"end 0"})...),
		"a sensor's reading": checked("string 0 0 0 1 1", "sensor 0", "read 1 0 2000", "end 1"),
	}
	add := func(name string, s api.SenseString, l []api.SenseReading) {
		if text := file(s, l); !strings.Contains(text, "-") {
			texts[name] = text
		}
	}
	bad := badStrings()
	for name, s := range bad {
		add(name, s, longer())
	}
	for name, l := range badReadings() {
		add(name, hung(), l)
	}
	if len(texts) < 15 {
		t.Error(names(texts))
	}
	testReadsNot(t, texts, api.ErrArg)
	many := slices.Repeat(longer()[:1], 25)
	texts = map[string]string{
		"25 readings":                 file(hung(), many),
		"25 readings, the last bad":   file(hung(), append(many[:24:24], api.SenseReading{Sensor: 9})),
		"200 readings of a bad one":   file(bad["error 101"], slices.Repeat(many[:1], 200)),
		"25 readings without sensors": file(bad["no sensors"], many),
	}
	testReadsNot(t, texts, api.ErrLong)
	texts = map[string]string{
		"25 readings, of which 24 are said": strings.Replace(file(hung(), many), "end 25 ", "end 24 ", 1),
		"25 readings, a wrong check":        strings.Replace(file(hung(), many), "2700 l", "2700 m", 1),
	}
	testReadsNot(t, texts, api.ErrText)
}

// swap returns the chapter's file after something was replaced once.
func swap(old, new string) string { return strings.Replace(exampleFile, old, new, 1) }

func TestReadFileForms(t *testing.T) {
	text := exampleFile
	testReadsNot(t, map[string]string{
		"nothing":                     "",
		"a line feed":                 "\n",
		"no first letter":             text[1:],
		"no last line feed":           text[:len(text)-1],
		"a line feed more":            text + "\n",
		"a line feed in front":        "\n" + text,
		"a blank in front":            " " + text,
		"a blank after the end":       text + " ",
		"two files":                   text + text,
		"two ends":                    text + "end 6 g\n",
		"carriage returns":            strings.ReplaceAll(text, "\n", "\r\n"),
		"no end":                      swap("end 6 g\n", ""),
		"an end too early":            swap("read 2 10 2651 k\nend 6 g\n", "end 6 g\nread 2 10 2651 k\n"),
		"a reading behind the end":    text + "read 2 10 2651 k\n",
		"no first line":               swap("string 2 3 2 2 3 o\n", ""),
		"two first lines":             "string 2 3 2 2 3 o\n" + text,
		"a sensor less":               swap("sensor 1 b\n", ""),
		"a sensor more":               swap("sensor 1 b\n", "sensor 1 b\nsensor 1 b\n"),
		"a sensor later":              swap("sensor 1 b\nread 0 0 2700 l\n", "read 0 0 2700 l\nsensor 1 b\n"),
		"a sensor in front":           "sensor 0 a\n" + swap("sensor 0 a\n", ""),
		"a sensor instead of none":    checked("string 0 0 0 1 0", "sensor 0", "end 0"),
		"a reading less":              swap("read 2 10 2651 k\n", ""),
		"a reading more":              swap("end", "read 2 10 2651 k\nend"),
		"a reading less is said":      swap("end 6 g", "end 5 f"),
		"a reading more is said":      swap("end 6 g", "end 7 h"),
		"very many sensors are said":  checked("string 0 0 0 1 9999", "sensor 0", "end 0"),
		"a number less":               swap("string 2 3 2 2 3 o", "string 2 3 2 2 v"),
		"a number more":               swap("string 2 3 2 2 3 o", "string 2 3 2 2 3 0 o"),
		"a sensor without depth":      swap("sensor 0 a", "sensor a"),
		"a sensor of two depths":      swap("sensor 0 a", "sensor 0 0 a"),
		"a reading without a temp":    swap("read 1 0 2701 s", "read 1 0 b"),
		"a reading of two temps":      swap("read 0 0 2700 l", "read 0 0 2700 0 l"),
		"an end of two numbers":       swap("end 6 g", "end 6 0 g"),
		"an end of nothing":           swap("end 6 g", "end a"),
		"string in capitals":          swap("string", "String"),
		"sensor in capitals":          swap("sensor", "Sensor"),
		"read in capitals":            swap("read", "Read"),
		"end in capitals":             swap("end", "END"),
		"another word":                swap("sensor", "censor"),
		"another word to read":        swap("read", "ready"),
		"a longer end":                swap("end", "ends"),
		"a digit in a word":           swap("sensor 0", "sensor0"),
		"no check":                    swap("sensor 0 a", "sensor 0"),
		"an empty check":              swap("sensor 0 a", "sensor 0 "),
		"another check":               swap("sensor 0 a", "sensor 0 b"),
		"a check in capitals":         swap("sensor 0 a", "sensor 0 A"),
		"a check twice":               swap("sensor 0 a", "sensor 0 a a"),
		"a check of two letters":      swap("sensor 0 a", "sensor 0 aa"),
		"a number as a check":         swap("sensor 0 a", "sensor 0 0"),
		"the first check in capitals": swap("2 3 o", "2 3 O"),
		"an empty line":               swap("sensor", "\nsensor"),
		"a blank at a line's end":     swap("o\n", "o \n"),
		"two blanks":                  swap("sensor 0", "sensor  0"),
		"two blanks before a check":   swap("sensor 0 a", "sensor 0  a"),
		"a tab":                       swap("sensor 0", "sensor\t0"),
		"no UTF-8":                    swap("sensor", "sensor\xff"),
		"a byte of 0":                 swap("sensor", "\x00sensor"),
	}, api.ErrText)
}

func TestReadFileNumbers(t *testing.T) {
	texts := map[string]string{}
	for name, word := range map[string]string{
		"nothing":                 "",
		"a leading zero":          "02",
		"two zeros":               "00",
		"a plus":                  "+2",
		"a sign":                  "-2",
		"no zero less than 0":     "-0",
		"a sign alone":            "-",
		"5 digits":                "10000",
		"very many digits":        strings.Repeat("9", 40),
		"5 digits, the first 0":   "02700",
		"a letter":                "2o",
		"the byte before 0":       "2/",
		"the byte after 9":        "2:",
		"a letter of base 16":     "a",
		"a digit of another kind": "٤",
		"no UTF-8":                "2\xff",
		"a byte of 0":             "2\x00",
		"a point":                 "2.0",
	} {
		for i := range 23 { // with each check, as it is not said which one the line of no number has
			check := string([]byte{byte('a' + i)}) + "\n"
			texts[name+": error, "+check] = swap("string 2 3 2 2 3 o\n", "string "+word+" 3 2 2 3 "+check)
			texts[name+": depth, "+check] = swap("sensor 1 b\n", "sensor "+word+" "+check)
			texts[name+": temp, "+check] = swap("read 1 0 2701 s\n", "read 1 0 "+word+" "+check)
			texts[name+": readings, "+check] = swap("end 6 g\n", "end "+word+" "+check)
			texts[name+": no readings, "+check] = "string 0 0 0 1 0 e\nend " + word + " " + check
		}
	}
	testReadsNot(t, texts, api.ErrText)
}

func TestReadLongFiles(t *testing.T) {
	long := file(hung(), slices.Repeat(longer()[:1], 400))
	testReadsNot(t, map[string]string{"just 5000 bytes": strings.Repeat("x", 5000), "just 5000 bytes of lines": (long + long)[:5000]}, api.ErrText)
	testReadsNot(t, map[string]string{"5001 bytes": strings.Repeat("x", 5001), "blanks": exampleFile + strings.Repeat(" ", 5000), "400 readings": long}, api.ErrLong)
}

// written returns a string and readings that are as defined, whether anything agrees with them or not.
func written(r *rand.Rand) (api.SenseString, []api.SenseReading) {
	s := someString(r, 1+r.IntN(4), 1+r.IntN(6), 20)
	s.Error = r.IntN(101)
	var l []api.SenseReading
	for range r.IntN(25) {
		l = append(l, api.SenseReading{Sensor: r.IntN(len(s.At)), Week: r.IntN(201), Temp: r.IntN([]int{10, 100, 1000, 6401}[r.IntN(4)])})
	}
	return s, l
}

func TestFilesThereAndBack(t *testing.T) {
	r := source()
	checks := map[byte]bool{}
	for range 3000 {
		s, l := written(r)
		text := file(s, l)
		testReads(t, text, s, l)
		for line := range strings.Lines(text) {
			checks[line[len(line)-2]] = true
		}
	}
	if len(checks) != 23 {
		t.Error(checks)
	}
}

func TestReadNoticesChangedDigits(t *testing.T) {
	r := source()
	for range 50 {
		s, l := written(r)
		text := file(s, l)
		for i := range text {
			for c := byte('0'); c <= '9' && text[i] >= '0' && text[i] <= '9'; c++ {
				if c == text[i] {
					continue
				}
				changed := text[:i] + string(c) + text[i+1:]
				if s, l, e := ReadFile(changed); e != api.ErrText || !equalString(s, api.SenseString{}) || l != nil {
					t.Fatalf("%q %q %v %v %v", text, changed, s, l, e)
				}
			}
		}
	}
}

func FuzzReadFile(f *testing.F) {
	for _, text := range []string{"", exampleFile, "string 0 0 0 1 1 j\nsensor 0 a\nend 0 a\n", "string 0 0 0 0 0 a\nend 0 a\n", "read", "end 0 a\n", "sensor 00 a\n"} {
		f.Add(text)
	}
	f.Fuzz(func(t *testing.T, text string) {
		s, l, e := ReadFile(text)
		if e == api.OK {
			if again, e := PrintFile(s, l); e != api.OK || again != text {
				t.Errorf("%q %q %v", text, again, e)
			}
			return
		}
		if l != nil || !equalString(s, api.SenseString{}) || len(text) > api.SenseText && e != api.ErrLong {
			t.Errorf("%q %v %v %v", text, s, l, e)
		}
	})
}
