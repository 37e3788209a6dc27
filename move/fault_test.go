package move

import (
	"slices"
	"testing"

	"talik/api"
)

// P8.1 (Check, Fault, Ranks), and P0.8

func TestCheck(t *testing.T) {
	for name, x := range map[string]api.MoveTown{
		"t":                         town(),
		"u":                         further(),
		"the most of all":           greatestTown(),
		"the least of all":          smallestTown(),
		"all lots gone":             with(row(3, house(1)), []int{0, 1, 2}, nil),
		"as many houses as lots":    row(6, house(5), house(4), house(3), house(2), house(1), house(0)),
		"a wish for its own lot":    row(2, house(1, 1)),
		"a wish for a lot gone":     with(row(2, house(1, 0)), []int{0}, nil),
		"a school on a lot gone":    with(row(2, house(1)), []int{0}, []int{0}),
		"kin, and the other way":    with(row(2, house(0), house(1)), nil, nil, pair(0, 1), pair(1, 0), pair(0, 1)),
		"lots at the same place":    changed(town(), func(t *api.MoveTown) { t.Walk[0][3], t.Walk[3][0] = 0, 0 }),
		"a way round that is short": changed(town(), func(t *api.MoveTown) { t.Walk[0][1], t.Walk[1][0] = 1000, 1000 }),
		"reach 0":                   changed(town(), func(t *api.MoveTown) { t.Reach = 0 }),
		"reach 1000":                changed(town(), func(t *api.MoveTown) { t.Reach = 1000 }),
	} {
		if e := Check(x); e != api.OK {
			t.Error(name, e)
		}
	}
	bad := badTowns()
	for _, name := range names(bad) {
		if e := Check(bad[name]); e != api.ErrArg {
			t.Error(name, e)
		}
	}
}

func TestFaultExamples(t *testing.T) {
	for i, x := range []struct {
		town api.MoveTown
		plan []int
		rule api.MoveRule
		of   int
	}{
		{town(), []int{0, 1, 3}, api.MoveGone, 0},
		{town(), []int{3, 2, 1}, api.MoveSchool, 0},
		{town(), []int{1, 2, 3}, api.MoveFine, 0},
		{town(), []int{2, 2, 3}, api.MoveShared, 1},
		{town(), []int{2, 3, 1}, api.MoveUnwished, 1},
		{further(), []int{2, 1, 0}, api.MoveGone, 2},
	} {
		if got, e := Fault(x.town, x.plan); e != api.OK || got != (api.MoveFault{Rule: x.rule, Of: x.of}) {
			t.Error(i, got, e)
		}
	}
}

func TestFaultEdges(t *testing.T) {
	all := []int{0, 1, 2, 3, 4, 5}
	four := row(6, house(0, all...), house(1, all...), house(2, all...), house(3, all...))
	one := func(h api.MoveHouse, gone, schools []int) api.MoveTown { return with(row(6, h), gone, schools) }
	kin := func(pairs ...api.MovePair) api.MoveTown { return with(four, nil, nil, pairs...) }
	for _, x := range []struct {
		name string
		town api.MoveTown
		plan []int
		rule api.MoveRule
		of   int
	}{
		{"the least of all", smallestTown(), []int{0}, api.MoveFine, 0},
		{"without wishes, where it stands", one(house(3), nil, nil), []int{3}, api.MoveFine, 0},
		{"without wishes, elsewhere", one(house(3), nil, nil), []int{2}, api.MoveUnwished, 0},
		{"the first wish", one(house(3, 5, 4), nil, nil), []int{5}, api.MoveFine, 0},
		{"the last wish", one(house(3, 5, 4), nil, nil), []int{4}, api.MoveFine, 0},
		{"where it stands, which it did not wish for", one(house(3, 5, 4), nil, nil), []int{3}, api.MoveFine, 0},
		{"where it stands, which is gone", one(house(3), []int{3}, nil), []int{3}, api.MoveGone, 0},
		{"a wish that is gone", one(house(3, 5), []int{5}, nil), []int{5}, api.MoveGone, 0},
		{"another lot that is gone", one(house(3, 5), []int{3}, nil), []int{5}, api.MoveFine, 0},
		{"where another one stands", row(2, house(0, 1), house(1, 0)), []int{1, 0}, api.MoveFine, 0},
		{"where another one stands and stays", row(2, house(0, 1), house(1, 0)), []int{1, 1}, api.MoveShared, 1},
		{"where another one stands, without a wish", row(3, house(0), house(1, 2)), []int{1, 2}, api.MoveUnwished, 0},
		{"all on one lot", four, []int{5, 5, 5, 5}, api.MoveShared, 1},
		{"the last two", four, []int{1, 2, 3, 3}, api.MoveShared, 3},
		{"the first and the last one", four, []int{3, 1, 2, 3}, api.MoveShared, 3},
		{"two twos", four, []int{3, 1, 1, 3}, api.MoveShared, 2},
		{"the second one is gone", with(four, []int{1, 2}, nil), []int{0, 1, 2, 3}, api.MoveGone, 1},
		{"shared, and before that gone", with(four, []int{0}, nil), []int{0, 1, 2, 2}, api.MoveShared, 3},
		{"gone, and before that unwished", with(row(4, house(0), house(1), house(2)), []int{1}, nil), []int{3, 1, 2}, api.MoveGone, 1},
		{"gone and unwished", with(row(4, house(0)), []int{3}, nil), []int{3}, api.MoveGone, 0},
		{"unwished, and before that without a school", row(4, pupil(0), house(1), house(2)), []int{0, 3, 2}, api.MoveUnwished, 1},
		{"two unwished", row(5, house(0), house(1), house(2)), []int{0, 3, 4}, api.MoveUnwished, 1},
		{"without a school, and the first pair apart", with(row(4, house(0), house(3), pupil(1)), nil, nil, pair(0, 1)), []int{0, 3, 1}, api.MoveSchool, 2},
		{"no schools, and no need", one(house(0), nil, nil), []int{0}, api.MoveFine, 0},
		{"no schools", one(pupil(0), nil, nil), []int{0}, api.MoveSchool, 0},
		{"the school on its lot", one(pupil(0), nil, []int{0}), []int{0}, api.MoveFine, 0},
		{"a school as far as it can be", one(pupil(3), nil, []int{0, 2}), []int{3}, api.MoveFine, 0},
		{"a school too far", one(pupil(3), nil, []int{0, 1, 5}), []int{3}, api.MoveSchool, 0},
		{"a school on the other side", one(pupil(3), nil, []int{0, 4}), []int{3}, api.MoveFine, 0},
		{"a school where it stood", one(pupil(3, 5), nil, []int{3}), []int{5}, api.MoveSchool, 0},
		{"a school where it comes to", one(pupil(3, 5), nil, []int{5}), []int{5}, api.MoveFine, 0},
		{"a school on a lot that is gone", one(pupil(3), []int{2}, []int{2}), []int{3}, api.MoveFine, 0},
		{"the second one without a school", with(row(6, pupil(0), pupil(4), pupil(5)), nil, []int{1}), []int{0, 4, 5}, api.MoveSchool, 1},
		{"too far for one who needs none", with(row(6, pupil(0), house(5)), nil, []int{1}), []int{0, 5}, api.MoveFine, 0},
		{"kin as far as they can be", kin(pair(0, 1)), []int{1, 2, 5, 4}, api.MoveFine, 0},
		{"kin too far", kin(pair(0, 1)), []int{1, 3, 5, 4}, api.MoveApart, 0},
		{"kin too far, the other way", kin(pair(1, 0)), []int{3, 1, 5, 4}, api.MoveApart, 0},
		{"others too far", kin(pair(2, 3)), []int{1, 3, 5, 4}, api.MoveFine, 0},
		{"the second pair", kin(pair(0, 1), pair(1, 2), pair(2, 3)), []int{0, 1, 5, 3}, api.MoveApart, 1},
		{"the last one of ten", kin(append(slices.Repeat([]api.MovePair{pair(0, 1)}, 9), pair(3, 2))...), []int{0, 1, 5, 3}, api.MoveApart, 9},
		{"the first house is of the second pair", kin(pair(2, 3), pair(0, 1)), []int{0, 2, 3, 5}, api.MoveApart, 0},
		{"kin of kin", kin(pair(0, 1), pair(1, 2)), []int{0, 1, 2, 5}, api.MoveFine, 0},
	} {
		if got, e := Fault(x.town, x.plan); e != api.OK || got != (api.MoveFault{Rule: x.rule, Of: x.of}) {
			t.Error(x.name, got, e)
		}
	}
}

// TestReachIsDirect has a way round that is shorter than the way itself, and lots that are at the same place.
func TestReachIsDirect(t *testing.T) {
	x := with(row(3, pupil(0), house(2)), nil, []int{2}, pair(0, 1))
	x.Walk = [][]int{{0, 5, 30}, {5, 0, 5}, {30, 5, 0}}
	for i, want := range []struct {
		walk, reach int
		rule        api.MoveRule
	}{{30, 10, api.MoveSchool}, {30, 29, api.MoveSchool}, {30, 30, api.MoveFine}, {0, 0, api.MoveFine}, {1, 0, api.MoveSchool}, {1000, 1000, api.MoveFine}, {1000, 999, api.MoveSchool}} {
		x.Walk[0][2], x.Walk[2][0], x.Reach = want.walk, want.walk, want.reach
		if got, e := Fault(x, []int{0, 2}); e != api.OK || got != (api.MoveFault{Rule: want.rule}) {
			t.Error(i, got, e)
		}
	}
}

func TestFaultErrors(t *testing.T) {
	bad, plans := badTowns(), badPlans()
	for _, name := range names(bad) {
		if got, e := Fault(bad[name], []int{1, 2, 3}); e != api.ErrArg || got != (api.MoveFault{}) {
			t.Error(name, got, e)
		}
	}
	for _, name := range names(plans) {
		if got, e := Fault(town(), plans[name]); e != api.ErrArg || got != (api.MoveFault{}) {
			t.Error(name, got, e)
		}
	}
}

func TestFaultOfAllPlans(t *testing.T) {
	r := source()
	seen := map[api.MoveRule]int{}
	for range 500 {
		x := small(r)
		for _, plan := range (slow{x}).plans() {
			want := slow{x}.fault(plan)
			if got, e := Fault(x, plan); e != api.OK || got != want {
				t.Fatal(x, plan, got, want, e)
			}
			seen[want.Rule]++
		}
	}
	for rule := api.MoveFine; rule <= api.MoveApart; rule++ {
		if seen[rule] < 300 {
			t.Error(rule, seen[rule])
		}
	}
}

func TestFaultOfLargeTowns(t *testing.T) {
	r := source()
	seen := map[api.MoveRule]int{}
	for range 3000 {
		x := large(r)
		plan := r.Perm(7)[:len(x.Houses)]
		for house, h := range x.Houses {
			if len(h.Wishes) > 0 && r.IntN(2) == 0 {
				plan[house] = h.Wishes[0]
			}
		}
		want := slow{x}.fault(plan)
		if got, e := Fault(x, plan); e != api.OK || got != want {
			t.Fatal(x, plan, got, want, e)
		}
		seen[want.Rule]++
	}
	if seen[api.MoveShared] < 100 || seen[api.MoveGone] < 100 || seen[api.MoveUnwished] < 100 {
		t.Error(seen)
	}
}

func TestRanksExample(t *testing.T) {
	if got, e := Ranks(town(), []int{1, 2, 3}); e != api.OK || !slices.Equal(got, []int{1, 0, 2}) {
		t.Error(got, e)
	}
}

func TestRanksEdges(t *testing.T) {
	for _, x := range []struct {
		name       string
		town       api.MoveTown
		plan, want []int
	}{
		{"without wishes", row(1, house(0)), []int{0}, []int{0}},
		{"where it stands, which is its first wish", row(3, house(1, 1, 2)), []int{1}, []int{0}},
		{"where it stands, which is its last wish", row(3, house(1, 2, 1)), []int{1}, []int{1}},
		{"where it stands, which it did not wish for", row(3, house(1, 2, 0)), []int{1}, []int{2}},
		{"wishes that are gone count", with(row(4, house(0, 1, 2, 3)), []int{0, 1, 2}, nil), []int{3}, []int{2}},
		{"as many wishes as lots", greatestTown(), []int{0, 1, 2, 3, 4, 5}, []int{6, 5, 4, 3, 2, 1}},
		{"the most wishes without where it stands", row(7, house(6, 0, 1, 2, 3, 4, 5)), []int{6}, []int{6}},
	} {
		if got, e := Ranks(x.town, x.plan); e != api.OK || !slices.Equal(got, x.want) {
			t.Error(x.name, got, e)
		}
	}
}

func TestRanksErrors(t *testing.T) {
	bad, plans := badTowns(), badPlans()
	for _, name := range names(bad) {
		if got, e := Ranks(bad[name], []int{1, 2, 3}); e != api.ErrArg || got != nil {
			t.Error(name, got, e)
		}
		if got, e := Ranks(bad[name], []int{1, 1, 1}); e != api.ErrArg || got != nil {
			t.Error(name, got, e)
		}
	}
	for _, name := range names(plans) {
		if got, e := Ranks(town(), plans[name]); e != api.ErrArg || got != nil {
			t.Error(name, got, e)
		}
	}
	apart := with(row(3, house(0), house(2)), nil, nil, pair(0, 1))
	for i, plan := range [][]int{{0, 1, 3}, {3, 2, 1}, {2, 2, 3}, {2, 3, 1}} {
		if got, e := Ranks(town(), plan); e != api.ErrRule || got != nil {
			t.Error(i, got, e)
		}
	}
	if got, e := Ranks(apart, []int{0, 2}); e != api.ErrRule || got != nil {
		t.Error(got, e)
	}
}

// TestRanksOfAllPlans also looks at what an allowed plan promises.
func TestRanksOfAllPlans(t *testing.T) {
	r := source()
	schools, kin := 0, 0
	for range 500 {
		x := small(r)
		for _, plan := range (slow{x}).plans() {
			got, e := Ranks(x, plan)
			if fault := (slow{x}).fault(plan); fault.Rule != api.MoveFine {
				if e != api.ErrRule || got != nil {
					t.Fatal(x, plan, got, e)
				}
				continue
			}
			if e != api.OK || !slices.Equal(got, slow{x}.ranks(plan)) {
				t.Fatal(x, plan, got, e)
			}
			for house, lot := range plan {
				if h := x.Houses[house]; h.School {
					schools++
					if !slices.ContainsFunc(x.Schools, func(at int) bool { return x.Walk[lot][at] <= x.Reach }) {
						t.Fatal(x, plan)
					}
				}
			}
			for _, p := range x.Kin {
				kin++
				if x.Walk[plan[p.One]][plan[p.Other]] > x.Reach {
					t.Fatal(x, plan)
				}
			}
		}
	}
	if schools < 300 || kin < 300 {
		t.Error(schools, kin)
	}
}
