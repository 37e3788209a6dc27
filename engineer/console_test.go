package engineer

import (
	"strconv"
	"strings"
	"testing"

	"talik/api"
)

// P10.8 (Console)

// TestChapter does the lines of the chapter's examples.
func TestChapter(t *testing.T) {
	script, want := "", ""
	for _, x := range []struct{ lines, results string }{
		{"thaws; levels; fault", "500 610 500 795; -4 -2 -4 -2; 0 1 0"},
		{"jack 0; jack 0; summer 65000 95000 200; summer 65000 60000 200", "ok; error 6; error 7; ok"},
		{"thaws; levels", "516 585 556 705; -9 -2 -8 -4"},
		{"buy 1; vote yes no en joo um em; grants; buy 1; grants; uneven", "error 7; ok; 1; ok; 0; 0 1"},
		{"vote yes * en * om *; buy 3; break 1; break 1; mend 1", "ok; error 7; ok; error 6; ok"},
		{"read 0 0 2700; read 0 10 2720; read 0 10 2760; cause 1; cause 0", "ok; ok; error 7; 2 1 1 2 1; error 5"},
		{"fail 0; repairs 0; fail 1; repairs 0; fix 0; repairs 0", "ok; 1 0; ok; error 5; ok; 1 1"},
		{"first; order 1; first", "1 1; ok; error 5"},
		{"summer 60000 90000 100; jack 1; levels", "ok; error 6; -4 -2 -8 -4"},
	} {
		script += strings.ReplaceAll(x.lines, "; ", "\n") + "\n"
		want += strings.ReplaceAll(x.results, "; ", "\n") + "\n"
	}
	for _, script := range []string{script, strings.TrimSuffix(script, "\n"), "\n\n" + strings.ReplaceAll(script, "\n", "\n\n\n"), "\n" + strings.TrimSuffix(script, "\n")} {
		text, bad := Console(town(), script)
		if text != want || bad != api.OK {
			t.Errorf("%s %v", text, bad)
		}
	}
}

func TestScripts(t *testing.T) {
	long := strings.Repeat("x", 501)
	for _, x := range []struct{ script, want string }{
		{"", ""}, {"\n", ""}, {"\n\n\n", ""}, {"grants", "0\n"}, {"grants\n", "0\n"}, {"\n\ngrants\n\n", "0\n"}, {"grants\n\n\ngrants", "0\n0\n"},
		{" ", "error 4\n"}, {" \n \n", "error 4\nerror 4\n"}, {"nothing\nfail 0\nnothing", "error 4\nok\nerror 4\n"}, {"grants\r\n", "error 4\n"}, {"grants \n", "error 4\n"},
		{long + "\n", "error 3\n"}, {long, "error 3\n"}, {long[1:], "error 4\n"}, {"fail 0\n" + long + "\nfail 0\n", "ok\nerror 3\nerror 6\n"},
		{"jack 9\ncause 9\nrepairs 9\nvote yes", "error 2\nerror 2\nerror 2\nerror 2\n"},
		{"repairs 0\nfirst\norder 1\nfirst\n", "8\n1 1\nok\nerror 5\n"},
		// Nothing is returned of houses that are all level.
		{allFor + "\n" + allFor + "\nuneven\nbuy 1\nuneven\nbuy 3\nuneven\nbreak 1\nuneven\n", "ok\nok\n0 1\nok\n0 1\nok\nok\nok\n0 1\n"},
	} {
		if text, bad := Console(town(), x.script); text != x.want || bad != api.OK {
			t.Errorf("%.60q %q %v", x.script, text, bad)
		}
	}
}

func TestLongScripts(t *testing.T) {
	most := strings.Repeat("grants\n", 14285) + "first"
	text, bad := Console(town(), most)
	if len(most) != api.EngineerText || bad != api.OK || text != strings.Repeat("0\n", 14285)+"1 1\n" {
		t.Error(len(most), len(text), bad)
	}
	if text, bad := Console(town(), most+"\n"); text != "" || bad != api.ErrLong {
		t.Error(len(text), bad)
	}
	if text, bad := Console(town(), strings.Repeat("\n", 100000)); text != "" || bad != api.OK {
		t.Error(len(text), bad)
	}
	if text, bad := Console(api.EngineerTown{}, strings.Repeat("\n", 100001)); text != "" || bad != api.ErrLong {
		t.Error(len(text), bad)
	}
	if text, bad := Console(api.EngineerTown{}, ""); text != "" || bad != api.ErrArg {
		t.Error(text, bad)
	}
}

// TestMoreActsThanAllowed does lines after the last act that is allowed: those that ask for something go on.
func TestMoreActsThanAllowed(t *testing.T) {
	script := strings.Repeat("fail 0\nfix 0\n", 61) + "repairs 0\n"
	want := strings.Repeat("ok\n", 120) + "error 6\nerror 6\n8\n"
	if text, bad := Console(town(), script); text != want || bad != api.OK {
		t.Error(text, bad)
	}
}

// TestConsoleIsLineByLine compares random scripts with lines that are done one after the other by the second implementation.
func TestConsoleIsLineByLine(t *testing.T) {
	r := source()
	for range 60 {
		x := some(r)
		s := &slow{EngineerTown: x}
		script, want := "", ""
		for range r.IntN(60) {
			line := someLine(r, s)
			switch r.IntN(6) {
			case 0:
				line = ""
			case 1:
				line = "x" + line
			case 2, 3:
				all := asks(x)
				line = all[r.IntN(len(all))]
			}
			script += line + "\n"
			if line == "" {
				continue
			}
			text, bad := s.do(line)
			if bad != api.OK {
				text = "error " + strconv.Itoa(int(bad))
			} else if text == "" {
				text = "ok"
			}
			want += text + "\n"
		}
		if r.IntN(2) == 0 {
			script = strings.TrimSuffix(script, "\n")
		}
		if text, bad := Console(x, script); text != want || bad != api.OK {
			t.Fatal(x, script, text, want, bad)
		}
	}
}
