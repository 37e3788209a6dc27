package pipe

import (
	"math"
	"slices"
	"testing"

	"talik/api"
)

// P4.4 (Weak, Post)

func TestWeakExample(t *testing.T) {
	if i, e := Weak(net(), 0, []int{1, 2, 3}); e != api.OK || i != 2 {
		t.Error(i, e)
	}
	if i, e := Weak(net(), 0, []int{1, 2}); e != api.OK || i != -1 {
		t.Error(i, e)
	}
}

func TestPostExample(t *testing.T) {
	if place, slack, e := Post(net(), []int{1, 2}); e != api.OK || place != 0 || slack != 1 {
		t.Error(place, slack, e)
	}
	if place, slack, e := Post(net(), []int{1}); e != api.OK || place != 1 || slack != 2 {
		t.Error(place, slack, e)
	}
}

func TestWeakEdges(t *testing.T) {
	for _, x := range []struct {
		name   string
		net    api.PipeNet
		from   int
		faults []int
		want   int
	}{
		{"no faults", greatestNet(), 0, nil, -1},
		{"faults without loops", greatestNet(), 5, make([]int, 12), -1},
		{"the first one", net(), 0, []int{3, 1, 3}, 0},
		{"the first one of two", net(), 0, []int{1, 3, 2, 3}, 1},
		{"the last one of 12", net(), 0, []int{0, 1, 2, 0, 1, 2, 0, 1, 2, 1, 1, 3}, 11},
		{"the same one 12 times", net(), 0, slices.Repeat([]int{2}, 12), -1},
		{"from a loop that is due soon", net(), 2, []int{2, 3, 1}, -1},
		{"from a loop that is due later", net(), 1, []int{1, 2, 3, 0}, 2},
		{"just soon enough", timed([]int{3, 5}, []int{3, 2}), 0, []int{1, 2, 3}, -1},
		{"just too late", timed([]int{3, 5}, []int{3, 3}), 0, []int{1, 2, 3}, 2},
	} {
		if i, e := Weak(x.net, x.from, x.faults); e != api.OK || i != x.want {
			t.Error(x.name, i, e)
		}
	}
}

func TestPostEdges(t *testing.T) {
	far := func(due, fix []int, ways [][]int) api.PipeNet {
		n := timed(due, fix)
		n.Ways = ways
		return n
	}
	ten := []int{10, 10}
	none := []int{0, 0}
	for _, x := range []struct {
		name   string
		net    api.PipeNet
		faults []int
		place  int
		slack  int
		e      api.Errno
	}{
		{"no faults", greatestNet(), nil, 0, 72, api.OK},
		{"no faults in 8 hours", net(), nil, 0, 8, api.OK},
		{"faults without loops", greatestNet(), make([]int, 12), 0, 72, api.OK},
		{"from the second loop only", net(), []int{3}, 2, 0, api.OK},
		{"from no place", greatestNet(), []int{0, 1}, 0, 0, api.ErrNone},
		{"for each fault another place", far([]int{5, 5}, none, equalWays(2, 6)), []int{1, 2}, 0, 0, api.ErrNone},
		{"for each fault another place, but for the depot", far([]int{5, 5}, none, [][]int{{0, 5, 5}, {0, 0, 6}, {0, 6, 0}}), []int{1, 2}, 0, 0, api.OK},
		{"a slack of 0 is one", timed([]int{3}, []int{3}), []int{1}, 0, 0, api.OK},
		{"no slack is none", timed([]int{3}, []int{4}), []int{1}, 0, 0, api.ErrNone},
		{"all places are alike", timed(ten, none), []int{1, 2, 3}, 0, 10, api.OK},
		{"the first one of the best two", far(ten, none, [][]int{{0, 3, 3}, {9, 0, 2}, {9, 2, 0}}), []int{1, 2}, 1, 8, api.OK},
		{"the last place", far(ten, none, [][]int{{0, 3, 3}, {9, 0, 3}, {9, 2, 0}}), []int{1, 2}, 2, 8, api.OK},
		{"the least slack of all faults counts, not the sum", far(ten, none, [][]int{{0, 3, 3}, {9, 0, 4}, {9, 4, 0}}), []int{1, 2, 1, 1}, 0, 7, api.OK},
		{"a fault that is no matter", far(ten, none, [][]int{{0, 3, 3}, {9, 0, 4}, {9, 4, 0}}), []int{0, 2, 0}, 2, 10, api.OK},
		{"from the place between", far([]int{9, 9, 9}, []int{1, 1, 1}, [][]int{{0, 5, 3, 5}, {0, 0, 2, 4}, {0, 2, 0, 2}, {0, 4, 2, 0}}), []int{1, 2, 4}, 2, 6, api.OK},
	} {
		if place, slack, e := Post(x.net, x.faults); e != x.e || place != x.place || slack != x.slack {
			t.Error(x.name, place, slack, e)
		}
	}
}

func TestWeakOfAllOrders(t *testing.T) {
	r := source()
	weak, strong := 0, 0
	for range 800 {
		s := someSlow(r)
		from, faults := r.IntN(len(s.Loops)+1), someFaults(r, s.PipeNet, 12)
		want := s.weak(from, faults)
		if i, e := Weak(s.PipeNet, from, faults); e != api.OK || i != want {
			t.Fatal(s, from, faults, i, want, e)
		}
		if want < 0 {
			strong++
		} else {
			weak++
		}
	}
	if weak < 200 || strong < 200 {
		t.Error(weak, strong)
	}
}

func TestPostOfAllPlaces(t *testing.T) {
	r := source()
	var none, depot, loop int
	for range 800 {
		s := someSlow(r)
		faults := someFaults(r, s.PipeNet, 6)
		best, most, found := s.post(faults)
		place, slack, e := Post(s.PipeNet, faults)
		switch {
		case !found:
			none++
			if e != api.ErrNone || place != 0 || slack != 0 {
				t.Fatal(s, faults, place, slack, e)
			}
			continue
		case best == 0:
			depot++
		default:
			loop++
		}
		if e != api.OK || place != best || slack != most {
			t.Fatal(s, faults, place, slack, e, best, most)
		}
	}
	if none < 100 || depot < 100 || loop < 50 {
		t.Error(none, depot, loop)
	}
}

// TestFromTheBestPlace asks Weak and Order for what Post promises.
func TestFromTheBestPlace(t *testing.T) {
	r := source()
	found := 0
	for range 500 {
		n := some(r, 1+r.IntN(5), 1+r.IntN(40))
		faults := someFaults(r, n, 4)
		place, slack, e := Post(n, faults)
		if e != api.OK {
			continue
		}
		found++
		if i, e := Weak(n, place, faults); e != api.OK || i != -1 {
			t.Fatal(n, faults, place, i, e)
		}
		for from := range len(n.Loops) + 1 {
			least, none := len(n.Frost), false
			for _, fault := range faults {
				_, s, e := Order(n, from, fault)
				none = none || e != api.OK
				least = min(least, s)
			}
			i, e := Weak(n, from, faults)
			if e != api.OK || none != (i >= 0) {
				t.Fatal(n, faults, from, i, none, e)
			}
			if none && from == place || !none && (least > slack || least == slack && from < place || from == place && least != slack) {
				t.Fatal(n, faults, place, slack, from, least)
			}
		}
	}
	if found < 100 {
		t.Error(found)
	}
}

func TestWeakAndPostErrors(t *testing.T) {
	weak := func(name string, n api.PipeNet, from int, faults []int, want api.Errno) {
		t.Helper()
		if i, e := Weak(n, from, faults); i != 0 || e != want {
			t.Error(name, i, e)
		}
	}
	both := func(name string, n api.PipeNet, faults []int, want api.Errno) {
		t.Helper()
		weak(name, n, 0, faults, want)
		if place, slack, e := Post(n, faults); place != 0 || slack != 0 || e != want {
			t.Error(name, place, slack, e)
		}
	}
	for name, n := range badNets() {
		both(name, n, nil, api.ErrArg)
		both(name, n, make([]int, 12), api.ErrArg)
		both(name, n, make([]int, 13), api.ErrLong)
	}
	both("13 faults", net(), make([]int, 13), api.ErrLong)
	both("13 faults that are none", net(), slices.Repeat([]int{-1}, 13), api.ErrLong)
	weak("13 faults from no place", net(), 3, make([]int, 13), api.ErrLong)
	for _, from := range []int{-1, 3, 6, math.MinInt, math.MaxInt} {
		weak("place", net(), from, nil, api.ErrArg)
		weak("place", net(), from, []int{3}, api.ErrArg)
	}
	for _, fault := range []int{-1, 4, 5, 31, 1 << 40, math.MinInt, math.MaxInt} {
		both("fault", net(), []int{fault}, api.ErrArg)
		both("fault after good ones", net(), []int{1, 3, fault}, api.ErrArg)
	}
	if i, e := Weak(net(), 2, make([]int, 12)); e != api.OK || i != -1 {
		t.Error(i, e)
	}
}
