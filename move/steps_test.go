package move

import (
	"slices"
	"testing"

	"talik/api"
)

// P8.4 (Steps)

func TestStepsExamples(t *testing.T) {
	if got, e := Steps(further(), []int{3, 2, 1}); e != api.OK || !slices.Equal(got, steps(1, 2, 2, 1, 0, 3)) {
		t.Error(got, e)
	}
	if got, e := Steps(town(), []int{2, 1, 3}); e != api.OK || !slices.Equal(got, steps(0, 2)) {
		t.Error(got, e)
	}
}

func TestStepsEdges(t *testing.T) {
	two := []api.MoveHouse{house(0, 1), house(1, 0)}
	round := []api.MoveHouse{house(0, 1), house(1, 2), house(2, 0)}
	for _, x := range []struct {
		name string
		town api.MoveTown
		plan []int
		want []api.MoveStep
		e    api.Errno
	}{
		{"nobody moves", row(3, house(0, 1)), []int{0}, nil, api.OK},
		{"nobody moves, and nobody can", row(2, two...), []int{0, 1}, nil, api.OK},
		{"the least of all", smallestTown(), []int{0}, nil, api.OK},
		{"to a lot that nobody has", row(3, house(2, 1)), []int{1}, steps(0, 1), api.OK},
		{"from a lot that is gone", with(row(2, house(0, 1)), []int{0}, nil), []int{1}, steps(0, 1), api.OK},
		{"two, as they come", row(5, house(0, 4), house(1, 3)), []int{4, 3}, steps(0, 4, 1, 3), api.OK},
		{"the second one first", row(3, house(0, 1), house(1, 2)), []int{1, 2}, steps(1, 2, 0, 1), api.OK},
		{"the last one first", row(4, house(0, 1), house(1, 2), house(2, 3)), []int{1, 2, 3}, steps(2, 3, 1, 2, 0, 1), api.OK},
		{"two exchange, without another lot", row(2, two...), []int{1, 0}, nil, api.ErrNone},
		{"two exchange, and the only other lot is gone", with(row(3, two...), []int{2}, nil), []int{1, 0}, nil, api.ErrNone},
		{"two exchange by another lot", row(3, two...), []int{1, 0}, steps(0, 2, 1, 0, 0, 1), api.OK},
		{"two exchange by the first one of other lots", row(4, two...), []int{1, 0}, steps(0, 2, 1, 0, 0, 1), api.OK},
		{"two exchange by a lot that is not gone", with(row(4, two...), []int{2}, nil), []int{1, 0}, steps(0, 3, 1, 0, 0, 1), api.OK},
		{"three exchange, without another lot", row(3, round...), []int{1, 2, 0}, nil, api.ErrNone},
		{"three exchange by another lot", row(4, round...), []int{1, 2, 0}, steps(0, 3, 2, 0, 1, 2, 0, 1), api.OK},
		{"a third one is not in the way", row(4, house(0, 1), house(2), house(1, 0)), []int{1, 2, 0}, steps(0, 3, 2, 0, 0, 1), api.OK},
		{"a third one leaves a lot to two", row(4, house(1, 2), house(2, 1), house(0, 3)), []int{2, 1, 3}, steps(0, 3, 1, 1, 0, 2, 2, 3), api.OK},
		{"a third one must wait, as its lot is gone", with(row(4, house(0, 3), house(1, 2), house(2, 1)), []int{0}, nil), []int{3, 2, 1}, steps(1, 3, 2, 1, 1, 2, 0, 3), api.OK},
		{"a third one is on a lot that is gone, and stays nowhere", with(row(4, house(0, 3), house(1, 2), house(2, 1)), []int{0}, nil), []int{3, 1, 2}, steps(0, 3), api.OK},
		{"a lot is gone, and nobody can exchange by it", with(row(5, house(3, 4), house(1, 2), house(2, 1)), []int{0}, nil), []int{4, 2, 1}, steps(0, 4, 1, 3, 2, 1, 1, 2), api.OK},
		{"on the way nobody needs a school or kin", with(row(7, pupil(0, 1), pupil(1, 0)), []int{2, 3, 4, 5}, []int{0, 1}, pair(0, 1)), []int{1, 0}, steps(0, 6, 1, 0, 0, 1), api.OK},
		{"three pairs exchange by one lot", row(7, house(0, 1), house(1, 0), house(2, 3), house(3, 2), house(4, 5), house(5, 4)), []int{1, 0, 3, 2, 5, 4}, steps(0, 6, 1, 0, 0, 1, 2, 6, 3, 2, 2, 3, 4, 6, 5, 4, 4, 5), api.OK},
		{"six exchange by one lot", greatestTown(), []int{1, 2, 3, 4, 5, 0}, steps(0, 6, 5, 0, 4, 5, 3, 4, 2, 3, 1, 2, 0, 1), api.OK},
	} {
		if got, e := Steps(x.town, x.plan); e != x.e || !slices.Equal(got, x.want) {
			t.Error(x.name, got, e)
		}
	}
}

func TestStepsErrors(t *testing.T) {
	bad, plans := badTowns(), badPlans()
	for _, name := range names(bad) {
		for _, plan := range [][]int{{1, 2, 3}, {2, 2, 2}, nil} {
			if got, e := Steps(bad[name], plan); e != api.ErrArg || got != nil {
				t.Error(name, plan, got, e)
			}
		}
	}
	for _, name := range names(plans) {
		if got, e := Steps(town(), plans[name]); e != api.ErrArg || got != nil {
			t.Error(name, got, e)
		}
	}
	for i, plan := range [][]int{{0, 1, 3}, {3, 2, 1}, {2, 2, 3}, {2, 3, 1}} {
		if got, e := Steps(town(), plan); e != api.ErrRule || got != nil {
			t.Error(i, got, e)
		}
	}
	full := with(row(2, house(0, 1), house(1, 0)), nil, nil)
	full.Reach, full.Kin = 0, []api.MovePair{pair(0, 1)}
	if got, e := Steps(full, []int{1, 0}); e != api.ErrRule || got != nil { // which could not be reached, either
		t.Error(got, e)
	}
}

func TestStepsOfAllLists(t *testing.T) {
	r := source()
	none, some := 0, 0
	long := map[int]int{}
	for range 500 {
		x := small(r)
		for i, plan := range (slow{x}).allowed() {
			if i%7 > 2 {
				continue
			}
			got, e := Steps(x, plan)
			want, found := slow{x}.way(plan)
			if !found {
				none++
				if e != api.ErrNone || got != nil {
					t.Fatal(x, plan, got, e)
				}
				continue
			}
			if e != api.OK || !slices.Equal(got, want) {
				t.Fatal(x, plan, got, want, e)
			}
			some++
			long[len(got)]++
		}
	}
	if none < 30 || some < 1000 || long[0] < 50 || long[3] < 100 || long[4] < 50 || long[5] < 10 {
		t.Error(none, some, long)
	}
}

func TestStepsOfCrowdedTowns(t *testing.T) {
	r := source()
	none, some, long := 0, 0, 0
	for range 30 {
		x, plan := crowded(r)
		got, e := Steps(x, plan)
		want, found := slow{x}.wayBy(slow{x}.distances(plan))
		if !found {
			none++
			if e != api.ErrNone || got != nil {
				t.Fatal(x, plan, got, e)
			}
			continue
		}
		if e != api.OK || !slices.Equal(got, want) {
			t.Fatal(x, plan, got, want, e)
		}
		mustLead(t, x, plan, got)
		some++
		if len(got) > len(x.Houses) {
			long++
		}
	}
	if none < 1 || some < 20 || long < 3 {
		t.Error(none, some, long)
	}
}

// TestEachStepIsPossible takes the steps one after the other.
func TestEachStepIsPossible(t *testing.T) {
	r := source()
	taken := 0
	for range 1000 {
		x := someTown(r, 7, upTo(r, 3, 5))
		for plan := range look(x).allowed() {
			if r.IntN(100) > 0 {
				continue
			}
			if way, e := Steps(x, plan); e == api.OK {
				mustLead(t, x, plan, way)
				taken += len(way)
			}
		}
	}
	if taken < 1000 {
		t.Error(taken)
	}
}

// TestNoProposedWayHasFewerSteps proposes to go on anyhow, and asks for the way to wherever that leads.
func TestNoProposedWayHasFewerSteps(t *testing.T) {
	r := source()
	longer := 0
	for range 1000 {
		x := small(r)
		at := slow{x}.lotsOfHouses()
		for proposed := range 8 {
			if fault, _ := Fault(x, at); fault.Rule == api.MoveFine {
				way, e := Steps(x, at)
				if e != api.OK || len(way) > proposed {
					t.Fatal(x, at, way, proposed, e)
				}
				if len(way) < proposed {
					longer++
				}
			}
			_, places := slow{x}.next(at)
			if len(places) == 0 {
				break
			}
			at = places[r.IntN(len(places))]
		}
	}
	if longer < 300 {
		t.Error(longer)
	}
}
