package engineer

import (
	"slices"
	"strings"
	"testing"

	"talik/api"
)

// P10.7 (Do, Journal, Replay), and P0.10 (replay)

// TestNoLines has lines that are none of the table; none of them does anything.
func TestNoLines(t *testing.T) {
	e := opened(t, town(), allFor, "buy 1", "fail 0")
	before := seen(t, e)
	for _, line := range []string{
		"", " ", "  ", "\n", "nothing", "0", "-", "*", "Jack 0", "JACK 0", "jacks 0", "jac 0", "summe 0 0 0",
		"jack", "jack ", "jack  0", " jack 0", "jack 0 ", "jack 0 0", "jack\t0", "jack 0\n", "jack 0\r", "jack\n0", "jack 0\x00",
		"jack 00", "jack 01", "jack +0", "jack -0", "jack -1", "jack 1.0", "jack 0x1", "jack 1e0", "jack a", "jack *", "jack 1234567890", "jack 0000000000", "jack \u0660", "jack \uff10", "jack \xff", "jack /", "jack :",
		"summer", "summer 65000", "summer 65000 60000", "summer 65000 60000 200 1", "summer 65000  60000 200", "summer 65000 60000 0200", "summer 065000 60000 200", "summer 65000 60000 ",
		"vote", "vote ", "vote  yes no en joo um em", "vote yes no en joo um em ", "vote yes no  joo um em", "vote Yes no en joo um em", "vote yes no en joo um e1", "vote yes no en joo um **", "vote yes no en joo um *a", "vote yes no en joo um a*",
		"vote abcdefghi no en joo um em", "vote yes no en joo um ---------", "vote yes no en joo um _", "vote yes no en joo um \u00e9", "vote yes\nno en joo um em", "vote yes no en joo um em\n", "voteyes no en joo um em",
		"buy", "buy 0 0", "buy x", "break", "break 1 1", "break x", "mend", "mend 1 1", "mend x",
		"read", "read 0", "read 0 0", "read 0 0 2700 0", "read 0 0 -1", "read 0 -1 2700", "read 0 0 02700", "read 0 0 x",
		"fail", "fail 1 1", "fail x", "fix", "fix 0 0", "fix x", "order", "order 0 0", "order x",
		"thaws ", "thaws 0", " thaws", "levels 0", "levels ", "fault 0", "fault ", "uneven 0", "uneven ", "first 0", "first ", "grants 0", "grants ", "thaw", "level",
		"cause", "cause ", "cause 1 1", "cause 01", "cause -1", "cause x", "repairs", "repairs ", "repairs 0 0", "repairs 00", "repairs -1", "repairs x",
		"journal", "replay", "do thaws", "thaws levels",
	} {
		if text, bad := e.Do(line); text != "" || bad != api.ErrText {
			t.Errorf("%q %q %v", line, text, bad)
		}
	}
	if !slices.Equal(seen(t, e), before) {
		t.Error("something was done")
	}
}

// TestNumbersOfLines has numbers of as many digits as are allowed, and those that are too great for a method.
func TestNumbersOfLines(t *testing.T) {
	for _, x := range []struct {
		line string
		want api.Errno
	}{
		{"jack 2", api.ErrArg}, {"jack 10", api.ErrArg}, {"jack 999999999", api.ErrArg}, {"jack 9999999999", api.ErrText},
		{"summer 999999999 0 0", api.ErrArg}, {"summer 1000001 60000 200", api.ErrArg}, {"summer 65000 60000 1001", api.ErrArg}, {"summer 1000000 60000 200", api.ErrRule}, {"summer 0 0 0", api.ErrRule},
		{"buy 4", api.ErrArg}, {"buy 999999999", api.ErrArg}, {"buy 0", api.ErrRule}, {"break 4", api.ErrArg}, {"mend 4", api.ErrArg}, {"mend 0", api.ErrState},
		{"read 3 0 2700", api.ErrArg}, {"read 0 201 2700", api.ErrArg}, {"read 0 0 6401", api.ErrArg}, {"read 0 0 6400", api.ErrRule}, {"read 0 0 999999999", api.ErrArg},
		{"fail 2", api.ErrArg}, {"fix 2", api.ErrArg}, {"fix 0", api.ErrState}, {"order 3", api.ErrArg},
		{"cause 6", api.ErrArg}, {"cause 999999999", api.ErrArg}, {"repairs 3", api.ErrArg}, {"repairs 999999999", api.ErrArg},
		{"vote yes", api.ErrArg}, {"vote yes no en joo um em yes", api.ErrArg}, {"vote *", api.ErrArg}, {"vote " + strings.Repeat("* ", 247) + "*", api.ErrArg},
		{"vote abcdefgh -------- * a - zz", api.OK}, {"summer 70000 50000 300", api.OK}, {"read 2 200 2700", api.OK}, {"jack 1", api.OK}, {"fail 1", api.OK}, {"order 2", api.OK},
	} {
		if text, bad := opened(t, town()).Do(x.line); text != "" || bad != x.want {
			t.Error(x.line, text, bad)
		}
	}
}

// TestWordsOfTownsWithOtherCouncils has as many words as each council has members.
func TestWordsOfTownsWithOtherCouncils(t *testing.T) {
	for many := 1; many <= api.SpeakMembers; many++ {
		x := changed(town(), func(x *api.EngineerTown) { x.Council.Languages = make([]int, many) })
		for words := 1; words <= api.SpeakMembers+1; words++ {
			want := api.ErrArg
			if words == many {
				want = api.OK
			}
			if _, bad := opened(t, x).Do("vote" + strings.Repeat(" abcdefgh", words)); bad != want {
				t.Error(many, words, bad)
			}
		}
	}
}

func TestLongLines(t *testing.T) {
	e := opened(t, town())
	for _, x := range []struct {
		line string
		want api.Errno
	}{
		{strings.Repeat("x", 500), api.ErrText}, {strings.Repeat("x", 501), api.ErrLong}, {strings.Repeat(" ", 501), api.ErrLong}, {strings.Repeat("x", 200000), api.ErrLong},
		{"vote " + strings.Repeat("yes ", 123) + "yes", api.ErrArg}, {"vote " + strings.Repeat("yes ", 124) + "y", api.ErrLong}, {"jack " + strings.Repeat("0", 496), api.ErrLong},
		{strings.Repeat("\u00e9", 251), api.ErrLong},
	} {
		if text, bad := e.Do(x.line); text != "" || bad != x.want {
			t.Error(len(x.line), text, bad)
		}
	}
}

// oneOfEach are lines of all acts, which can be done in this order.
var oneOfEach = []string{
	"jack 0", "summer 65000 60000 200", "vote yes - en * om -abc---", allFor, "buy 1", "break 1", "mend 1", "read 0 0 2700", "read 2 10 2650", "fail 0", "fail 1", "fix 0", "order 1", "jack 1", "summer 60000 90000 100",
}

// TestJournalIsAllActs does lines that ask for something, and such that return errors, between acts.
func TestJournalIsAllActs(t *testing.T) {
	e := opened(t, town())
	want := ""
	for _, line := range oneOfEach {
		for _, other := range []string{"thaws", "grants", "cause 2", "repairs 2", "first", "nothing", "", "jack 9", "summer 0 0 0", "vote yes", "buy 9", "read 0 0 6400"} {
			if _, bad := e.Do(other); bad == api.OK && !slices.Contains(asks(town()), other) && other != "cause 2" {
				t.Fatal(other)
			}
			if journal, bad := e.Journal(); journal != want || bad != api.OK {
				t.Fatal(other, journal, want, bad)
			}
		}
		if text, bad := e.Do(line); text != "" || bad != api.OK {
			t.Fatal(line, text, bad)
		}
		want += line + "\n"
		if journal, bad := e.Journal(); journal != want || bad != api.OK {
			t.Fatal(line, journal, want, bad)
		}
	}
}

// TestJournalOfMethods does by methods what lines do.
func TestJournalOfMethods(t *testing.T) {
	e := opened(t, town())
	mustStep(t, e,
		step{with((*Engineer).Jack, 0), api.OK}, step{summer(65000, 60000, 200), api.OK}, step{voted("yes - en * om -abc---"), api.OK}, step{voted(allFor[len("vote "):]), api.OK},
		step{with((*Engineer).Buy, 1), api.OK}, step{with((*Engineer).Break, 1), api.OK}, step{with((*Engineer).Mend, 1), api.OK}, step{reading(0, 0, 2700), api.OK}, step{reading(2, 10, 2650), api.OK},
		step{with((*Engineer).Fail, 0), api.OK}, step{with((*Engineer).Fail, 1), api.OK}, step{with((*Engineer).Fix, 0), api.OK}, step{with((*Engineer).Order, 1), api.OK}, step{with((*Engineer).Jack, 1), api.OK}, step{summer(60000, 90000, 100), api.OK},
	)
	journal, bad := e.Journal()
	if want := strings.Join(oneOfEach, "\n") + "\n"; journal != want || bad != api.OK {
		t.Error(journal, bad)
	}
	if !slices.Equal(seen(t, e), seen(t, opened(t, town(), oneOfEach...))) {
		t.Error("lines do something else")
	}
}

func replayed(t *testing.T, x api.EngineerTown, journal string) *Engineer {
	t.Helper()
	e, line, bad := Replay(x, journal)
	if e == nil || line != -1 || bad != api.OK {
		t.Fatal(journal, line, bad)
	}
	return e
}

// TestReplay plays random journals again, from their beginning to each of their lines, to the same ground, levels and results; and goes on with both towns.
func TestReplay(t *testing.T) {
	r := source()
	for range 40 {
		x := some(r)
		e, s := opened(t, x), &slow{EngineerTown: x}
		for range r.IntN(60) {
			line := someLine(r, s)
			if _, bad := e.Do(line); bad == api.OK {
				s.done = append(s.done, line)
			}
			if r.IntN(10) == 0 {
				journal, _ := e.Journal()
				if again := replayed(t, x, journal); !slices.Equal(seen(t, again), seen(t, e)) {
					t.Fatal(x, journal)
				}
			}
		}
		journal, _ := e.Journal()
		again := replayed(t, x, journal)
		mustTell(t, again, s)
		for range 10 {
			line := someLine(r, s)
			text, bad := e.Do(line)
			other, badOther := again.Do(line)
			if text != other || bad != badOther {
				t.Fatal(x, journal, line, text, bad, other, badOther)
			}
			if bad == api.OK {
				s.done = append(s.done, line)
			}
		}
		mustTell(t, again, s)
		mustTell(t, e, s)
	}
}

// TestReplayOfAWholeDecade plays ten years again, in which as much was done as is allowed.
func TestReplayOfAWholeDecade(t *testing.T) {
	x := changed(town(), func(x *api.EngineerTown) { x.Years = slices.Repeat(x.Years[:1], 10) })
	e := opened(t, x)
	for year := range 10 {
		for _, line := range []string{"jack 0", "jack 1", "fail 0", "fix 0", allFor, tooFew, "read 0 " + numbersText(year) + " 2700", "read 2 0 2650", "summer 65000 60000 200"} {
			if _, bad := e.Do(line); bad != api.OK {
				t.Fatal(year, line, bad)
			}
		}
	}
	for range 30 {
		if _, bad := e.Do("vote abcdefgh abcdefgh abcdefgh abcdefgh abcdefgh abcdefgh"); bad != api.OK {
			t.Fatal(bad)
		}
	}
	journal, _ := e.Journal()
	if !slices.Equal(seen(t, replayed(t, x, journal)), seen(t, e)) {
		t.Error(journal)
	}
	if again, line, bad := Replay(x, journal+"fail 0\n"); again != nil || line != 120 || bad != api.ErrState {
		t.Error(line, bad)
	}
}

func TestReplayOfWrongJournals(t *testing.T) {
	good := strings.Join(oneOfEach, "\n") + "\n"
	long := strings.Repeat("x", 501)
	for _, x := range []struct {
		journal string
		line    int
		want    api.Errno
	}{
		{"", -1, api.OK}, {good, -1, api.OK},
		{"\n", 0, api.ErrText}, {good + "\n", 15, api.ErrText}, {"jack 0\n\njack 1\n", 1, api.ErrText}, {"\njack 0\n", 0, api.ErrText},
		{"jack 0", 0, api.ErrText}, {"jack 0\njack 1", 1, api.ErrText}, {good + "order 0", 15, api.ErrText}, {good + " ", 15, api.ErrText},
		{"thaws\n", 0, api.ErrText}, {"levels\n", 0, api.ErrText}, {"fault\n", 0, api.ErrText}, {"uneven\n", 0, api.ErrText}, {"cause 1\n", 0, api.ErrText}, {"repairs 0\n", 0, api.ErrText}, {"first\n", 0, api.ErrText}, {"grants\n", 0, api.ErrText}, {good + "thaws\n", 15, api.ErrText},
		{"cause 99\n", 0, api.ErrText}, {"nothing\n", 0, api.ErrText}, {"jack 00\n", 0, api.ErrText}, {"jack 0\r\n", 0, api.ErrText}, {"vote\n", 0, api.ErrText},
		{"jack 0\njack 0\njack\n", 1, api.ErrState}, {"jack 2\n", 0, api.ErrArg}, {"buy 0\n", 0, api.ErrRule}, {"jack 1\nread 0 0 6400\n", 1, api.ErrRule}, {"vote yes\n", 0, api.ErrArg}, {good + "jack 0\n", 15, api.ErrState}, {good + "summer 0 0 0\n", 15, api.ErrState},
		{long + "\n", 0, api.ErrLong}, {"jack 0\n" + long + "\n", 1, api.ErrLong}, {"jack 0\njack 0\n" + long + "\n", 1, api.ErrState}, {long[1:] + "\n", 0, api.ErrText}, {long, 0, api.ErrText}, {good + long, 15, api.ErrText}, {"jack " + long + "\njack 2\n", 0, api.ErrLong},
		{"vote " + strings.Repeat("a ", 248) + "\n", 0, api.ErrLong}, {"vote " + strings.Repeat("a ", 247) + "a\n", 0, api.ErrArg},
		{good + strings.Repeat("x", 100000-len(good)), 15, api.ErrText}, {good + strings.Repeat("x", 100001-len(good)), -1, api.ErrLong}, {strings.Repeat("\n", 100001), -1, api.ErrLong}, {strings.Repeat("\n", 100000), 0, api.ErrText},
	} {
		e, line, bad := Replay(town(), x.journal)
		if line != x.line || bad != x.want || (e != nil) != (bad == api.OK) {
			t.Errorf("%.60q %v %v %v", x.journal, e, line, bad)
		}
	}
}

// TestReplayChecksInOrder has texts that are too long for towns that are not as defined.
func TestReplayChecksInOrder(t *testing.T) {
	if e, line, bad := Replay(api.EngineerTown{}, strings.Repeat("x", 100001)); e != nil || line != -1 || bad != api.ErrLong {
		t.Error(e, line, bad)
	}
	if e, line, bad := Replay(api.EngineerTown{}, strings.Repeat("x", 100000)); e != nil || line != -1 || bad != api.ErrArg {
		t.Error(e, line, bad)
	}
}

// TestReplayOfAnotherTown plays a journal in a town in which some line of it cannot be done.
func TestReplayOfAnotherTown(t *testing.T) {
	journal := "jack 1\nsummer 65000 60000 200\n"
	x := changed(town(), func(x *api.EngineerTown) { x.Years[0].Winter.Low = 60001 })
	if e, line, bad := Replay(x, journal); e != nil || line != 1 || bad != api.ErrRule {
		t.Error(e, line, bad)
	}
	x = changed(town(), func(x *api.EngineerTown) { x.Site.Piles, x.Site.Pairs = x.Site.Piles[:1], nil })
	if e, line, bad := Replay(x, journal); e != nil || line != 0 || bad != api.ErrArg {
		t.Error(e, line, bad)
	}
}
