package pipe

import (
	"math/rand/v2"
	"testing"

	"talik/api"
)

// P4.6 (consequences)

// slackFor returns the slack of the best order, or of the best place for some faults; -1 if there is none.
func slackFor(t *testing.T, n api.PipeNet, from, fault int) int {
	t.Helper()
	_, slack, e := Order(n, from, fault)
	if e == api.ErrNone {
		return -1
	}
	if e != api.OK {
		t.Fatal(n, from, fault, e)
	}
	return slack
}

func slackOfPost(t *testing.T, n api.PipeNet, faults []int) int {
	t.Helper()
	_, slack, e := Post(n, faults)
	if e == api.ErrNone {
		return -1
	}
	if e != api.OK {
		t.Fatal(n, faults, e)
	}
	return slack
}

// weakest returns the first weak fault; more than all, if there is none.
func weakest(t *testing.T, n api.PipeNet, from int, faults []int) int {
	t.Helper()
	i, e := Weak(n, from, faults)
	if e != api.OK {
		t.Fatal(n, from, faults, e)
	}
	if i < 0 {
		return len(faults)
	}
	return i
}

// priceOf returns what the best wrapping costs; more than all, if there is none.
func priceOf(t *testing.T, n api.PipeNet, from int, faults []int) int {
	t.Helper()
	_, cost, e := Wrap(n, from, faults)
	if e == api.ErrNone {
		return api.PipeCost*api.PipeLoops + 1
	}
	if e != api.OK {
		t.Fatal(n, from, faults, e)
	}
	return cost
}

// mustBeWorse compares two nets, of which the second one must not leave more time. It reports whether it leaves less.
func mustBeWorse(t *testing.T, r *rand.Rand, better, worse api.PipeNet) bool {
	t.Helper()
	from, faults := r.IntN(len(better.Loops)+1), someFaults(r, better, 3)
	less := false
	for _, fault := range append(faults, 1<<len(better.Loops)-1) {
		a, b := slackFor(t, better, from, fault), slackFor(t, worse, from, fault)
		if a < b {
			t.Fatal("more slack", better, worse, from, fault, a, b)
		}
		less = less || b < a
	}
	if a, b := slackOfPost(t, better, faults), slackOfPost(t, worse, faults); a < b {
		t.Fatal("more slack of a place", better, worse, faults, a, b)
	}
	if a, b := weakest(t, better, from, faults), weakest(t, worse, from, faults); a < b {
		t.Fatal("less weak", better, worse, from, faults, a, b)
	}
	if a, b := priceOf(t, better, from, faults), priceOf(t, worse, from, faults); a > b {
		t.Fatal("cheaper", better, worse, from, faults, a, b)
	}
	return less
}

// TestLongerRepairsLeaveNoMoreSlack also has repairs that take longer at least only, which does not matter.
func TestLongerRepairsLeaveNoMoreSlack(t *testing.T) {
	r := source()
	less := 0
	for range 400 {
		n := some(r, 1+r.IntN(5), 10+r.IntN(30))
		longer := cloneNet(n)
		fix := &longer.Loops[r.IntN(len(n.Loops))].Fix
		fix.High += r.IntN(3)
		fix.Low += r.IntN(fix.High - fix.Low + 1)
		if mustBeWorse(t, r, n, longer) {
			less++
		}
	}
	if less < 50 {
		t.Error(less)
	}
}

func TestTheFastestRepairDoesNotMatter(t *testing.T) {
	r := source()
	for range 200 {
		n := some(r, 1+r.IntN(5), 10+r.IntN(30))
		slower := cloneNet(n)
		for i := range slower.Loops {
			slower.Loops[i].Fix.Low = slower.Loops[i].Fix.High
		}
		if mustBeWorse(t, r, n, slower) {
			t.Fatal(n)
		}
		mustBeWorse(t, r, slower, n)
	}
}

func TestLongerWaysLeaveNoMoreSlack(t *testing.T) {
	r := source()
	less := 0
	for range 400 {
		n := some(r, 1+r.IntN(5), 10+r.IntN(30))
		longer := cloneNet(n)
		for i, row := range longer.Ways {
			for j := range row {
				if i != j && r.IntN(3) == 0 {
					row[j] += r.IntN(4)
				}
			}
		}
		if mustBeWorse(t, r, n, longer) {
			less++
		}
	}
	if less < 50 {
		t.Error(less)
	}
}

// never is more than all hours: when a loop freezes that does not.
const never = api.PipeHours + 1

func freezing(t *testing.T, n api.PipeNet, loop int) (int, int) {
	t.Helper()
	can, surely, e := Freezes(n, loop)
	if e != api.OK || can == 0 || surely == 0 || can < 0 && surely > 0 || surely > 0 && surely < can {
		t.Fatal(n, loop, can, surely, e)
	}
	if can < 0 {
		can = never
	}
	if surely < 0 {
		surely = never
	}
	return can, surely
}

func TestWrappedLoopsFreezeNoSooner(t *testing.T) {
	r := source()
	later := 0
	for range 400 {
		n := some(r, 1+r.IntN(5), 10+r.IntN(60))
		better := wrap(n, r.IntN(1<<len(n.Loops)))
		bare, e := Warmth(n)
		if e != api.OK {
			t.Fatal(n, e)
		}
		warmer, e := Warmth(better)
		if e != api.OK {
			t.Fatal(better, e)
		}
		for loop := range n.Loops {
			can, surely := freezing(t, n, loop)
			wrappedCan, wrappedSurely := freezing(t, better, loop)
			if wrappedCan < can || wrappedSurely < surely {
				t.Fatal(n, better, loop, can, surely, wrappedCan, wrappedSurely)
			}
			if wrappedCan > can {
				later++
			}
			for hour, span := range bare[loop] {
				if w := warmer[loop][hour]; w.Low < span.Low || w.High < span.High {
					t.Fatal(n, better, loop, hour, span, w)
				}
			}
		}
		mustBeWorse(t, r, better, n)
	}
	if later < 100 {
		t.Error(later)
	}
}
