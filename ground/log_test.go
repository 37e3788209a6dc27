package ground

import (
	"strings"
	"testing"

	"talik/api"
)

// P1.5 (Print, Read)

const exampleLog = "hole 2 0 2000\nlayer 500 100 120\nlayer 1000 200 300\nend 1f\n"

// ended returns lines with the end that they should have.
func ended(lines string) string {
	sum := 0
	for _, b := range []byte(lines) {
		sum += int(b)
	}
	digits := "0123456789abcdef"
	return lines + "end " + string(digits[sum%251/16]) + string(digits[sum%251%16]) + "\n"
}

func TestLogExample(t *testing.T) {
	if s, e := Print(place()); e != api.OK || s != exampleLog {
		t.Errorf("%q %v", s, e)
	}
	if p, e := Read(exampleLog); e != api.OK || !equalPlaces(p, place()) {
		t.Error(p, e)
	}
}

func TestPrintErrors(t *testing.T) {
	for name, p := range badPlaces() {
		if s, e := Print(p); s != "" || e != api.ErrArg {
			t.Errorf("%s %q %v", name, s, e)
		}
	}
}

// exampleLines are the lines of the example before its end.
const exampleLines = "hole 2 0 2000\nlayer 500 100 120\nlayer 1000 200 300\n"

// swap returns the example's log, with the end that it should have, after something in its lines was replaced.
func swap(old, new string) string { return ended(strings.Replace(exampleLines, old, new, 1)) }

func testNoLogs(t *testing.T, texts map[string]string) {
	t.Helper()
	for name, text := range texts {
		if p, e := Read(text); e != api.ErrText || !equalPlaces(p, api.GroundPlace{}) {
			t.Error(name, p, e)
		}
	}
}

func TestReadForms(t *testing.T) {
	lines := exampleLines
	if ended(lines) != exampleLog {
		t.Fatal(ended(lines))
	}
	testNoLogs(t, map[string]string{
		"nothing":                 "",
		"a line feed":             "\n",
		"no first letter":         exampleLog[1:],
		"no last line feed":       exampleLog[:len(exampleLog)-1],
		"a line feed more":        exampleLog + "\n",
		"a blank after the end":   exampleLog + " ",
		"two logs":                exampleLog + exampleLog,
		"carriage returns":        swap("2000\n", "2000\r\n"),
		"no end":                  lines,
		"no check":                lines + "end \n",
		"no check and no blank":   lines + "end\n",
		"a check of one digit":    lines + "end f\n",
		"a check of three digits": lines + "end 01f\n",
		"a check in capitals":     lines + "end 1F\n",
		"a check that is wrong":   lines + "end 20\n",
		"a check by 256":          lines + "end e3\n",
		"an end in capitals":      lines + "END 1f\n",
		"two blanks in the end":   lines + "end  1f\n",
		"no hole":                 ended("layer 500 100 120\n"),
		"only an end":             ended(""),
		"hole in capitals":        swap("hole", "Hole"),
		"layer in capitals":       swap("layer", "Layer"),
		"another word":            swap("layer", "later"),
		"a layer as hole":         swap("hole", "layer"),
		"more layers are said":    swap("hole 2", "hole 3"),
		"less layers are said":    swap("hole 2", "hole 1"),
		"no layers are said":      swap("hole 2", "hole 0"),
		"very many are said":      swap("hole 2", "hole 99999999"),
		"a layer is missing":      swap("layer 1000 200 300\n", ""),
		"a layer more":            ended(lines + "layer 1 1 1\n"),
		"an empty line":           swap("layer 1000", "\nlayer 1000"),
		"an empty first line":     ended("\n" + lines),
		"a blank in front":        swap("hole", " hole"),
		"a blank at the end":      swap("2000\n", "2000 \n"),
		"two blanks":              swap("layer 500", "layer  500"),
		"a tab":                   swap("layer 500", "layer\t500"),
	})
}

func TestReadNumbers(t *testing.T) {
	testNoLogs(t, map[string]string{
		"a number less":           swap("hole 2 0 2000", "hole 2 0"),
		"a number more":           swap("hole 2 0 2000", "hole 2 0 2000 1"),
		"a number less in layers": swap(" 120", ""),
		"a number more in layers": swap(" 120", " 120 1"),
		"a leading zero":          swap(" 500", " 0500"),
		"two zeros":               swap(" 0 ", " 00 "),
		"a plus":                  swap(" 500", " +500"),
		"a minus":                 swap(" 0 ", " -0 "),
		"a number less than 0":    swap(" 0 ", " -1 "),
		"9 digits":                swap(" 2000", " 100000000"),
		"very many digits":        swap(" 2000", " 99999999999999999999999999"),
		"a letter":                swap(" 500", " 5o0"),
		"the byte before 0":       swap(" 500", " 5/0"),
		"the byte after 9":        swap(" 500", " 5:0"),
		"a digit of base 16":      swap(" 500", " 5a0"),
		"a digit of another kind": swap(" 500", " 5\u0660\u0660"),
		"no UTF-8":                swap(" 500", " 5\xff0"),
		"a byte of 0":             swap(" 500", " 5\x000"),
		"a point":                 swap(" 500", " 500.0"),
	})
}

func TestReadLongTexts(t *testing.T) {
	testNoLogs(t, map[string]string{"just 5000 bytes": strings.Repeat("x", 5000)})
	for _, text := range []string{strings.Repeat("x", 5001), exampleLog + strings.Repeat(" ", 5000), ended(strings.Repeat(exampleLines, 200))} {
		if p, e := Read(text); e != api.ErrLong || !equalPlaces(p, api.GroundPlace{}) {
			t.Error(p, e)
		}
	}
}

func TestReadPlacesNotAsDefined(t *testing.T) {
	layers := strings.Repeat("layer 1 1 1\n", 7)
	for name, text := range map[string]string{
		"no layers":        "hole 0 0 0\nend ac\n",
		"7 layers":         ended("hole 7 0 0\n" + layers),
		"most layers":      ended("hole 400 0 0\n" + strings.Repeat("layer 1 1 1\n", 400)),
		"warm upside":      ended("hole 1 2 1\nlayer 1 1 1\n"),
		"warm too much":    ended("hole 1 2 1000001\nlayer 1 1 1\n"),
		"8 digits":         ended("hole 1 0 99999999\nlayer 1 1 1\n"),
		"thick 0":          ended("hole 1 0 0\nlayer 0 1 1\n"),
		"thick too much":   ended("hole 1 0 0\nlayer 20001 1 1\n"),
		"melt 0":           ended("hole 1 0 0\nlayer 1 0 1\n"),
		"melt upside":      ended("hole 1 0 0\nlayer 1 2 1\n"),
		"melt too much":    ended("hole 1 0 0\nlayer 1 1 1001\n"),
		"numbers of texts": ended("hole 2 99999999 10000000\nlayer 0 0 0\nlayer 12345678 90 9\n"),
	} {
		if p, e := Read(text); e != api.ErrArg || !equalPlaces(p, api.GroundPlace{}) {
			t.Error(name, p, e)
		}
	}
	// a place that is none, in a text that is none
	if p, e := Read("hole 0 0 0\nend ab\n"); e != api.ErrText || !equalPlaces(p, api.GroundPlace{}) {
		t.Error(p, e)
	}
}

func TestLogsThereAndBack(t *testing.T) {
	r := source()
	checks := map[string]bool{}
	for range 3000 {
		p, _ := large(r)
		s, e := Print(p)
		if e != api.OK || s != ended(s[:len(s)-7]) {
			t.Fatalf("%v %q %v", p, s, e)
		}
		checks[s[len(s)-3:]] = true
		q, e := Read(s)
		if e != api.OK || !equalPlaces(p, q) {
			t.Fatalf("%v %q %v %v", p, s, q, e)
		}
		if again, e := Print(q); e != api.OK || again != s {
			t.Fatalf("%q %q %v", s, again, e)
		}
	}
	if len(checks) != 251 {
		t.Error(len(checks))
	}
}

func TestReadNoticesChanges(t *testing.T) {
	r := source()
	for range 30 {
		p, _ := large(r)
		s, e := Print(p)
		if e != api.OK {
			t.Fatal(e)
		}
		for i := range s {
			for c := byte(32); c < 127; c++ {
				changed := s[:i] + string(c) + s[i+1:]
				if changed == s {
					continue
				}
				if q, e := Read(changed); e != api.ErrText || !equalPlaces(q, api.GroundPlace{}) {
					t.Fatalf("%q %q %v %v", s, changed, q, e)
				}
			}
		}
	}
}

func FuzzRead(f *testing.F) {
	for _, s := range []string{"", exampleLog, "hole 0 0 0\nend ac\n", "hole 1 0 0\nlayer 1 1 1\nend 00\n", "hole", "hole \n", "hole 1 1 1\nend \n"} {
		f.Add(s)
	}
	f.Fuzz(func(t *testing.T, text string) {
		p, e := Read(text)
		if e == api.OK {
			if s, e := Print(p); e != api.OK || s != text {
				t.Errorf("%q %q %v", text, s, e)
			}
			return
		}
		if !equalPlaces(p, api.GroundPlace{}) || e == api.ErrLong != (len(text) > api.GroundText) {
			t.Errorf("%q %v %v", text, p, e)
		}
	})
}
