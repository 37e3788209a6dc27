package move

import (
	"slices"
	"testing"

	"talik/api"
)

// P8.3 (Best, Fairest), and P0.8

func TestBestExamples(t *testing.T) {
	if got, sum, e := Best(town()); e != api.OK || !slices.Equal(got, []int{1, 2, 3}) || sum != 3 {
		t.Error(got, sum, e)
	}
	if got, sum, e := Best(further()); e != api.OK || !slices.Equal(got, []int{3, 2, 1}) || sum != 2 {
		t.Error(got, sum, e)
	}
	if got, worst, e := Fairest(further()); e != api.OK || !slices.Equal(got, []int{3, 2, 1}) || worst != 2 {
		t.Error(got, worst, e)
	}
}

// justNear returns a town of seven lots of which only the two of each pair are within reach of each other.
func justNear(t api.MoveTown, pairs ...api.MovePair) api.MoveTown {
	return changed(t, func(t *api.MoveTown) {
		t.Reach = 5
		for i, row := range t.Walk {
			for k := range row {
				if i != k {
					row[k] = 6
				}
			}
		}
		for _, p := range pairs {
			t.Walk[p.One][p.Other], t.Walk[p.Other][p.One] = 5, 5
		}
	})
}

func TestBestEdges(t *testing.T) {
	kin := with(row(7, house(0, 2, 3, 4), house(1, 6, 1, 3, 5)), nil, nil, pair(0, 1))
	for _, x := range []struct {
		name    string
		town    api.MoveTown
		best    []int
		sum     int
		fairest []int
		worst   int
		e       api.Errno
	}{
		{"without wishes", row(1, house(0)), []int{0}, 0, []int{0}, 0, api.OK},
		{"all stay", row(3, house(2), house(0), house(1)), []int{2, 0, 1}, 0, []int{2, 0, 1}, 0, api.OK},
		{"the only lot is gone", with(row(1, house(0)), []int{0}, nil), nil, 0, nil, 0, api.ErrNone},
		{"one has no other lot", with(row(3, house(0), house(1, 2)), []int{0}, nil), nil, 0, nil, 0, api.ErrNone},
		{"two have only one lot", with(row(3, house(0, 2), house(1, 2)), []int{0, 1}, nil), nil, 0, nil, 0, api.ErrNone},
		{"no school", row(2, pupil(0, 1)), nil, 0, nil, 0, api.ErrNone},
		{"kin who are apart", with(row(3, house(0), house(2)), nil, nil, pair(0, 1)), nil, 0, nil, 0, api.ErrNone},
		{"all have their first wish", row(3, house(0, 1), house(1, 2), house(2, 0)), []int{1, 2, 0}, 0, []int{1, 2, 0}, 0, api.OK},
		{"one wish for two, the first one has it", row(4, house(0, 3, 2), house(1, 3, 2)), []int{2, 3}, 1, []int{2, 3}, 1, api.OK},
		{"one wish for two, and one bears more", row(4, house(0, 3), house(1, 3, 2, 1)), []int{0, 3}, 1, []int{0, 3}, 1, api.OK},
		{"one wish for two, and either goes without", row(4, house(0, 3, 1, 2), house(1, 3)), []int{1, 3}, 1, []int{1, 3}, 1, api.OK},
		{"a sum that is less, and a rank that is greater", justNear(kin, pair(2, 5), pair(3, 4)), []int{2, 5}, 3, []int{4, 3}, 2, api.OK},
		{"a sum and a rank that are less, and come later", justNear(kin, pair(2, 5), pair(3, 1)), []int{3, 1}, 2, []int{3, 1}, 1, api.OK},
		{"equal sums, the fairest one comes later", justNear(with(row(7, house(0, 6, 5, 4), house(1, 2, 3, 1)), nil, nil, pair(0, 1)), pair(4, 2), pair(5, 3)), []int{4, 2}, 2, []int{5, 3}, 1, api.OK},
		{"equal greatest ranks, the lesser sum comes later", justNear(with(row(7, house(0, 6, 5, 4), house(1, 2, 3, 1)), nil, nil, pair(0, 1)), pair(4, 3), pair(6, 1)), []int{6, 1}, 2, []int{6, 1}, 2, api.OK},
		{"equal sums, and equal greatest ranks", justNear(with(row(7, house(0, 6, 5, 4), house(1, 2, 3, 1)), nil, nil, pair(0, 1)), pair(4, 2), pair(6, 1)), []int{4, 2}, 2, []int{4, 2}, 2, api.OK},
		{"a lot gone, and wishes for it", with(row(3, house(0, 1, 2), house(2, 1)), []int{1}, nil), []int{0, 2}, 3, []int{0, 2}, 2, api.OK},
		{"a school", with(row(5, pupil(0, 4, 3, 1)), nil, []int{0}), []int{1}, 2, []int{1}, 2, api.OK},
		{"the most of all", greatestTown(), []int{1, 2, 3, 4, 5, 6}, 15, []int{1, 2, 3, 4, 5, 6}, 5, api.OK},
	} {
		if got, sum, e := Best(x.town); e != x.e || !slices.Equal(got, x.best) || sum != x.sum {
			t.Error(x.name, got, sum, e)
		}
		if got, worst, e := Fairest(x.town); e != x.e || !slices.Equal(got, x.fairest) || worst != x.worst {
			t.Error(x.name, got, worst, e)
		}
	}
}

func TestBestErrors(t *testing.T) {
	bad := badTowns()
	for _, name := range names(bad) {
		if got, sum, e := Best(bad[name]); e != api.ErrArg || got != nil || sum != 0 {
			t.Error(name, got, sum, e)
		}
		if got, worst, e := Fairest(bad[name]); e != api.ErrArg || got != nil || worst != 0 {
			t.Error(name, got, worst, e)
		}
	}
}

// mustBeBest fails if what Best and Fairest return is not what all plans show, and reports whether any plan is allowed.
func mustBeBest(t *testing.T, x api.MoveTown) bool {
	t.Helper()
	best, sum, bestE := Best(x)
	fairest, worst, fairestE := Fairest(x)
	allowed := slow{x}.allowed()
	if len(allowed) == 0 {
		if bestE != api.ErrNone || fairestE != api.ErrNone || best != nil || fairest != nil || sum != 0 || worst != 0 {
			t.Fatal(x, best, sum, bestE, fairest, worst, fairestE)
		}
		return false
	}
	want := slow{x}.best(allowed)
	if bestE != api.OK || !slices.Equal(best, want) || sum != (slow{x}).sum(want) {
		t.Fatal(x, best, sum, want, bestE)
	}
	want = slow{x}.fairest(allowed)
	if fairestE != api.OK || !slices.Equal(fairest, want) || worst != slices.Max(slow{x}.ranks(want)) {
		t.Fatal(x, fairest, worst, want, fairestE)
	}
	return true
}

func TestBestOfAllPlans(t *testing.T) {
	r := source()
	none, same, other := 0, 0, 0
	for i := range 1500 {
		x := small(r)
		if i%50 == 0 {
			x = large(r)
		}
		if !mustBeBest(t, x) {
			none++
			continue
		}
		best, _, _ := Best(x)
		if fairest, _, _ := Fairest(x); slices.Equal(best, fairest) {
			same++
		} else {
			other++
		}
	}
	if none < 100 || same < 100 || other < 15 {
		t.Error(none, same, other)
	}
}

// TestNoProposalIsBetter proposes all plans, and looks for exchanges.
func TestNoProposalIsBetter(t *testing.T) {
	r := source()
	proposed := 0
	for range 300 {
		x := small(r)
		best, sum, e := Best(x)
		fairest, worst, _ := Fairest(x)
		for _, plan := range (slow{x}).plans() {
			ranks, rankE := Ranks(x, plan)
			if rankE != api.OK {
				continue
			}
			proposed++
			whole := 0
			for _, rank := range ranks {
				whole += rank
			}
			if e != api.OK || whole < sum || slices.Max(ranks) < worst {
				t.Fatal(x, plan, best, sum, fairest, worst, e)
			}
		}
		if e != api.OK {
			continue
		}
		for _, plan := range [][]int{best, fairest} {
			if other, e := Exchange(x, plan); e != api.ErrNone {
				t.Fatal(x, plan, other, e)
			}
		}
	}
	if proposed < 1000 {
		t.Error(proposed)
	}
}
