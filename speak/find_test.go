package speak

import (
	"slices"
	"testing"

	"talik/api"
)

// P9.5 (Find), and P0.9 as far as places go

func up(count, kind, bank int) api.SpeakStep {
	return api.SpeakStep{Count: count, Kind: kind, Up: true, Bank: bank}
}

func down(count, kind, bank int) api.SpeakStep {
	return api.SpeakStep{Count: count, Kind: kind, Bank: bank}
}

// mustFind fails if a report does not allow the places that are wanted; nil if there are none.
func mustFind(t *testing.T, name string, river []api.SpeakSpot, kind int, steps []api.SpeakStep, want []int) {
	t.Helper()
	e := api.OK
	if want == nil {
		e = api.ErrNone
	}
	if got, gotE := Find(river, kind, steps); gotE != e || !slices.Equal(got, want) || want == nil && got != nil {
		t.Error(name, river, kind, steps, got, gotE, want)
	}
}

func TestFindExamples(t *testing.T) {
	mustFind(t, "1", riverR(), 1, []api.SpeakStep{up(2, 2, 0)}, []int{3})
	mustFind(t, "2", riverR(), 1, []api.SpeakStep{up(1, 2, 2)}, []int{1, 5})
	mustFind(t, "3", riverR(), 3, []api.SpeakStep{down(1, 1, 0), up(1, 2, 1)}, nil)
	mustFind(t, "4", riverR(), 4, nil, nil)
}

func TestFindEdges(t *testing.T) {
	same := slices.Repeat([]api.SpeakSpot{{Kind: 1}}, 20)
	two := []api.SpeakSpot{{Kind: 1}, {Kind: 2}, {Kind: 1, Left: true}}
	for _, x := range []struct {
		name  string
		river []api.SpeakSpot
		kind  int
		steps []api.SpeakStep
		want  []int
	}{
		{"no river", nil, 1, nil, nil},
		{"no river, and a step", nil, 1, []api.SpeakStep{up(1, 1, 0)}, nil},
		{"no steps", riverR(), 2, nil, []int{1, 3, 5}},
		{"a kind that there is once", two, 2, nil, []int{1}},
		{"the mouth", two, 2, []api.SpeakStep{down(1, 1, 0)}, []int{0}},
		{"the spring", two, 2, []api.SpeakStep{up(1, 1, 0)}, []int{2}},
		{"the spot itself does not count, up", two, 1, []api.SpeakStep{up(1, 1, 0)}, []int{2}},
		{"the spot itself does not count, down", two, 1, []api.SpeakStep{down(1, 1, 0)}, []int{0}},
		{"further up than there is", two, 2, []api.SpeakStep{up(2, 1, 0)}, nil},
		{"further down than there is", two, 2, []api.SpeakStep{down(2, 1, 0)}, nil},
		{"no spot of the kind", two, 1, []api.SpeakStep{up(1, 3, 0)}, nil},
		{"the left bank", two, 2, []api.SpeakStep{up(1, 1, 1)}, []int{2}},
		{"not the right bank", two, 2, []api.SpeakStep{up(1, 1, 2)}, nil},
		{"the right bank", two, 2, []api.SpeakStep{down(1, 1, 2)}, []int{0}},
		{"not the left bank", two, 2, []api.SpeakStep{down(1, 1, 1)}, nil},
		{"the bank does not change the count", riverR(), 1, []api.SpeakStep{up(1, 2, 1)}, nil},
		{"the count goes on over both banks", riverR(), 1, []api.SpeakStep{up(2, 2, 1)}, []int{3}},
		{"there and back", two, 1, []api.SpeakStep{up(1, 2, 0), down(1, 1, 0)}, []int{0}},
		{"several lead to one", riverR(), 2, []api.SpeakStep{down(1, 1, 0)}, []int{0, 4}},
		{"all lead to one", riverR(), 3, []api.SpeakStep{down(1, 3, 0), up(1, 1, 0)}, []int{4}},
		{"up is in order", riverR(), 2, []api.SpeakStep{up(1, 2, 0)}, []int{3, 5}},
		{"down is in order", riverR(), 2, []api.SpeakStep{down(1, 2, 0)}, []int{1, 3}},
		{"down counts away from there", riverR(), 3, []api.SpeakStep{down(2, 2, 0)}, []int{3}},
		{"up counts away from there", riverR(), 1, []api.SpeakStep{up(3, 2, 0)}, []int{5}},
		{"a later place that leads before an earlier one's", riverR(), 2, []api.SpeakStep{down(1, 3, 0), up(1, 1, 0)}, []int{4}},
		{"20 spots", same, 1, nil, []int{0, 1, 2, 3, 4, 5, 6, 7, 8, 9, 10, 11, 12, 13, 14, 15, 16, 17, 18, 19}},
		{"the ninth one up", same, 1, []api.SpeakStep{up(9, 1, 0)}, []int{9, 10, 11, 12, 13, 14, 15, 16, 17, 18, 19}},
		{"twice the ninth one up", same, 1, []api.SpeakStep{up(9, 1, 0), up(9, 1, 0)}, []int{18, 19}},
		{"the ninth one down, too", same, 1, []api.SpeakStep{up(9, 1, 0), up(9, 1, 0), down(9, 1, 0)}, []int{9, 10}},
		{"five steps", same, 1, []api.SpeakStep{up(4, 1, 0), up(4, 1, 0), up(4, 1, 0), up(4, 1, 0), up(3, 1, 2)}, []int{19}},
		{"five steps, one too far", same, 1, []api.SpeakStep{up(4, 1, 0), up(4, 1, 0), up(4, 1, 0), up(4, 1, 0), up(4, 1, 2)}, nil},
		{"a step that leads nowhere before others", two, 1, []api.SpeakStep{up(1, 4, 0), down(1, 1, 0)}, nil},
	} {
		mustFind(t, x.name, x.river, x.kind, x.steps, x.want)
	}
}

func TestFindErrors(t *testing.T) {
	spot, step := []api.SpeakSpot{{Kind: 1}}, []api.SpeakStep{up(1, 1, 0)}
	for _, x := range []struct {
		name  string
		river []api.SpeakSpot
		kind  int
		steps []api.SpeakStep
		e     api.Errno
	}{
		{"21 spots", slices.Repeat(spot, 21), 1, nil, api.ErrLong},
		{"6 steps", spot, 1, slices.Repeat(step, 6), api.ErrLong},
		{"21 spots that are none", make([]api.SpeakSpot, 21), 0, nil, api.ErrLong},
		{"6 steps that are none", make([]api.SpeakSpot, 1), 5, make([]api.SpeakStep, 6), api.ErrLong},
		{"many spots", slices.Repeat(spot, 1000000), 1, nil, api.ErrLong},
		{"many steps", spot, 1, slices.Repeat(step, 1000000), api.ErrLong},
		{"spot of kind 0", []api.SpeakSpot{{Kind: 1}, {Kind: 0}}, 1, nil, api.ErrArg},
		{"spot of kind 5", []api.SpeakSpot{{Kind: 5}, {Kind: 1}}, 1, nil, api.ErrArg},
		{"spot of kind -1", []api.SpeakSpot{{Kind: -1}}, 1, nil, api.ErrArg},
		{"kind 0", spot, 0, nil, api.ErrArg},
		{"kind 5", spot, 5, nil, api.ErrArg},
		{"kind -1", spot, -1, nil, api.ErrArg},
		{"kind 5, and no river", nil, 5, nil, api.ErrArg},
		{"count 0", spot, 1, []api.SpeakStep{up(0, 1, 0)}, api.ErrArg},
		{"count 10", spot, 1, []api.SpeakStep{up(10, 1, 0)}, api.ErrArg},
		{"count -1", spot, 1, []api.SpeakStep{down(-1, 1, 0)}, api.ErrArg},
		{"step of kind 0", spot, 1, []api.SpeakStep{up(1, 0, 0)}, api.ErrArg},
		{"step of kind 5", spot, 1, []api.SpeakStep{up(1, 5, 0)}, api.ErrArg},
		{"bank -1", spot, 1, []api.SpeakStep{up(1, 1, -1)}, api.ErrArg},
		{"bank 3", spot, 1, []api.SpeakStep{down(1, 1, 3)}, api.ErrArg},
		{"the last one of five steps", spot, 1, []api.SpeakStep{up(1, 1, 0), up(1, 1, 0), up(1, 1, 0), up(1, 1, 0), up(1, 1, 4)}, api.ErrArg},
		{"a step that nobody goes", nil, 1, []api.SpeakStep{up(1, 1, 3)}, api.ErrArg},
	} {
		if got, e := Find(x.river, x.kind, x.steps); e != x.e || got != nil {
			t.Error(x.name, got, e)
		}
	}
}

func TestFindSlowly(t *testing.T) {
	r := source()
	none, several, steps := 0, 0, 0
	for range 6000 {
		river, kind, s := someRiver(r), upTo(r, 1, 4), someSteps(r)
		want := slowFind(river, kind, s)
		mustFind(t, "slowly", river, kind, s, want)
		switch {
		case len(want) == 0:
			none++
		case len(want) > 1:
			several++
			steps += len(s)
		}
	}
	if none < 500 || several < 500 || steps < 500 {
		t.Error(none, several, steps)
	}
}

// TestWhoGoesComesThere sends somebody from each spot, and looks for one who comes to each place that is told.
func TestWhoGoesComesThere(t *testing.T) {
	r := source()
	came := 0
	for range 2000 {
		river, kind, steps := someRiver(r), upTo(r, 1, 3), someSteps(r)
		places, _ := Find(river, kind, steps)
		reached := map[int]bool{}
		for at, s := range river {
			end, can := walk(river, at, steps)
			if s.Kind != kind || !can {
				continue
			}
			if !slices.Contains(places, end) {
				t.Fatal(river, kind, steps, at, end, places)
			}
			reached[end] = true
			came++
		}
		if len(reached) != len(places) || !slices.IsSorted(places) {
			t.Fatal(river, kind, steps, places, reached)
		}
	}
	if came < 2000 {
		t.Error(came)
	}
}
