package move

import (
	"slices"
	"testing"

	"talik/api"
)

// P8.2 (Exchange), and P0.8

func TestExchangeExamples(t *testing.T) {
	if got, e := Exchange(town(), []int{1, 2, 3}); e != api.ErrNone || got != nil {
		t.Error(got, e)
	}
	if got, e := Exchange(further(), []int{3, 1, 2}); e != api.OK || !slices.Equal(got, []int{3, 2, 1}) {
		t.Error(got, e)
	}
}

func TestExchangeEdges(t *testing.T) {
	three := row(4, house(0, 1), house(1, 2), house(2, 0))
	for _, x := range []struct {
		name       string
		town       api.MoveTown
		plan, want []int
		e          api.Errno
	}{
		{"without wishes", row(2, house(0)), []int{0}, nil, api.ErrNone},
		{"a lot that nobody has", row(2, house(0, 1)), []int{0}, []int{1}, api.OK},
		{"the lot where it stood", row(2, house(0, 1)), []int{1}, nil, api.ErrNone},
		{"where it stands is its first wish", row(2, house(0, 0, 1)), []int{0}, nil, api.ErrNone},
		{"where it stands is its first wish, in another plan", row(2, house(0, 0, 1)), []int{1}, []int{0}, api.OK},
		{"where it stands is its second wish", row(2, house(0, 1, 0)), []int{0}, []int{1}, api.OK},
		{"a wish that is gone", with(row(2, house(0, 1)), []int{1}, nil), []int{0}, nil, api.ErrNone},
		{"the first lot, not the best one", row(3, house(0, 2, 1)), []int{0}, []int{1}, api.OK},
		{"the first one has a better lot before", row(3, house(2, 0, 1)), []int{2}, []int{0}, api.OK},
		{"two exchange", row(2, house(0, 1), house(1, 0)), []int{0, 1}, []int{1, 0}, api.OK},
		{"two exchange back", row(2, house(0, 0, 1), house(1, 1, 0)), []int{1, 0}, []int{0, 1}, api.OK},
		{"one of two would be worse off", row(2, house(0, 1), house(1, 1, 0)), []int{0, 1}, nil, api.ErrNone},
		{"one of two has no wish for it", row(2, house(0, 1), house(1)), []int{0, 1}, nil, api.ErrNone},
		{"three exchange", three, []int{0, 1, 2}, []int{1, 2, 0}, api.OK},
		{"three would, but one has its wish", changed(three, func(t *api.MoveTown) { t.Houses[2].Wishes = []int{2, 0} }), []int{0, 1, 2}, nil, api.ErrNone},
		{"two of three exchange", row(3, house(0, 2), house(1), house(2, 0)), []int{0, 1, 2}, []int{2, 1, 0}, api.OK},
		{"one follows another one", row(3, house(0, 1), house(1, 2)), []int{0, 1}, []int{0, 2}, api.OK},
		{"one must follow another one", with(row(3, house(0, 1), house(1, 2)), nil, nil, pair(0, 1)), []int{0, 1}, []int{1, 2}, api.OK},
		{"another one goes back, and nobody follows it", row(4, house(0, 3), house(1, 2)), []int{0, 2}, []int{3, 2}, api.OK},
		{"two do not go to one lot", row(3, house(0, 2), house(1, 2)), []int{0, 1}, []int{0, 2}, api.OK},
		{"the later ones first", row(5, house(0, 3), house(1, 4)), []int{0, 1}, []int{0, 4}, api.OK},
		{"all together have what no one has alone", with(row(6, house(0, 4), house(1, 5)), nil, nil, pair(0, 1)), []int{0, 1}, []int{4, 5}, api.OK},
		{"kin who would be apart", with(row(3, house(0, 2), house(1)), nil, nil, pair(0, 1)), []int{0, 1}, []int{2, 1}, api.OK},
		{"kin who would be too far apart", with(row(4, house(0, 3), house(1)), nil, nil, pair(0, 1)), []int{0, 1}, nil, api.ErrNone},
		{"a school within reach", with(row(4, pupil(0, 3, 2)), nil, []int{1}), []int{0}, []int{2}, api.OK},
		{"a school too far", with(row(4, pupil(0, 3)), nil, []int{1}), []int{0}, nil, api.ErrNone},
		{"all are as well off as they can be", greatestTown(), []int{6, 5, 4, 3, 2, 1}, nil, api.ErrNone},
		{"a lot is free that is better for all", greatestTown(), []int{0, 1, 2, 3, 4, 5}, []int{0, 1, 2, 3, 4, 6}, api.OK},
	} {
		if got, e := Exchange(x.town, x.plan); e != x.e || !slices.Equal(got, x.want) {
			t.Error(x.name, got, e)
		}
	}
}

func TestExchangeErrors(t *testing.T) {
	bad, plans := badTowns(), badPlans()
	for _, name := range names(bad) {
		for _, plan := range [][]int{{1, 2, 3}, {2, 2, 2}, nil} {
			if got, e := Exchange(bad[name], plan); e != api.ErrArg || got != nil {
				t.Error(name, plan, got, e)
			}
		}
	}
	for _, name := range names(plans) {
		if got, e := Exchange(town(), plans[name]); e != api.ErrArg || got != nil {
			t.Error(name, got, e)
		}
	}
	for i, plan := range [][]int{{0, 1, 3}, {3, 2, 1}, {2, 2, 3}, {2, 3, 1}} {
		if got, e := Exchange(town(), plan); e != api.ErrRule || got != nil {
			t.Error(i, got, e)
		}
	}
	apart := with(row(3, house(0, 1), house(2, 1)), nil, nil, pair(0, 1))
	if got, e := Exchange(apart, []int{0, 2}); e != api.ErrRule || got != nil {
		t.Error(got, e)
	}
}

// mustExchange fails if what Exchange returns is not the first one of all exchanges, and returns how many there are.
func mustExchange(t *testing.T, x api.MoveTown, allowed [][]int, plan []int) int {
	t.Helper()
	got, e := Exchange(x, plan)
	want := slow{x}.exchanges(allowed, plan)
	if len(want) == 0 {
		if e != api.ErrNone || got != nil {
			t.Fatal(x, plan, got, e)
		}
		return 0
	}
	if e != api.OK || !slices.Equal(got, want[0]) {
		t.Fatal(x, plan, got, want, e)
	}
	return len(want)
}

func TestExchangesOfAllPlans(t *testing.T) {
	r := source()
	none, some, several := 0, 0, 0
	for range 500 {
		x := small(r)
		allowed := slow{x}.allowed()
		for _, plan := range allowed {
			switch mustExchange(t, x, allowed, plan) {
			case 0:
				none++
			case 1:
				some++
			default:
				several++
			}
		}
	}
	if none < 300 || some < 300 || several < 300 {
		t.Error(none, some, several)
	}
}

func TestExchangesOfLargeTowns(t *testing.T) {
	r := source()
	none, some := 0, 0
	for range 25 {
		x := large(r)
		allowed := slow{x}.allowed()
		for range min(20, len(allowed)) {
			if mustExchange(t, x, allowed, allowed[r.IntN(len(allowed))]) == 0 {
				none++
			} else {
				some++
			}
		}
	}
	if none < 20 || some < 20 {
		t.Error(none, some)
	}
}

// TestNoProposalPleasesAllWhoTakePart proposes all plans to settled ones.
func TestNoProposalPleasesAllWhoTakePart(t *testing.T) {
	r := source()
	settled := 0
	for range 300 {
		x := small(r)
		for _, plan := range (slow{x}).allowed() {
			if _, e := Exchange(x, plan); e != api.ErrNone {
				continue
			}
			settled++
			ranks, _ := Ranks(x, plan)
			for _, other := range (slow{x}).plans() {
				others, e := Ranks(x, other)
				if e != api.OK || slices.Equal(plan, other) {
					continue
				}
				pleased := true
				for house := range plan {
					pleased = pleased && (plan[house] == other[house] || others[house] < ranks[house])
				}
				if pleased {
					t.Fatal(x, plan, other)
				}
			}
		}
	}
	if settled < 300 {
		t.Error(settled)
	}
}
