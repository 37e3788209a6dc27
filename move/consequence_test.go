package move

import (
	"math/rand/v2"
	"slices"
	"testing"

	"talik/api"
)

// P8.5 (consequences)

// easier returns towns that ask for less, where there are any: with a school more, with fewer kin, and with a longer reach.
func easier(r *rand.Rand, t api.MoveTown) map[string]api.MoveTown {
	all := map[string]api.MoveTown{}
	if lot := r.IntN(len(t.Walk)); !slices.Contains(t.Schools, lot) {
		all["school"] = changed(t, func(t *api.MoveTown) {
			t.Schools = append(t.Schools, lot)
			slices.Sort(t.Schools)
		})
	}
	if len(t.Kin) > 0 {
		i := r.IntN(len(t.Kin))
		all["kin"] = changed(t, func(t *api.MoveTown) { t.Kin = slices.Delete(t.Kin, i, i+1) })
	}
	all["reach"] = changed(t, func(t *api.MoveTown) { t.Reach = upTo(r, t.Reach, 50) })
	return all
}

func TestWhatIsAllowedStaysSo(t *testing.T) {
	r := source()
	allowed, more := map[string]int{}, map[string]int{}
	for range 500 {
		x := small(r)
		easy := easier(r, x)
		for _, plan := range (slow{x}).plans() {
			before, e := Fault(x, plan)
			for _, name := range names(easy) {
				after, late := Fault(easy[name], plan)
				if e != api.OK || late != api.OK || before.Rule == api.MoveFine && after.Rule != api.MoveFine || after.Rule != api.MoveFine && after.Rule < before.Rule {
					t.Fatal(name, x, easy[name], plan, before, after, e, late)
				}
				switch {
				case before.Rule == api.MoveFine:
					allowed[name]++
				case after.Rule == api.MoveFine:
					more[name]++
				}
			}
		}
	}
	for _, name := range []string{"school", "kin", "reach"} {
		if allowed[name] < 100 || more[name] < 30 {
			t.Error(name, allowed[name], more[name])
		}
	}
}

func TestTheBestPlanIsNoWorse(t *testing.T) {
	r := source()
	less, found := map[string]int{}, map[string]int{}
	for range 2000 {
		x := someTown(r, upTo(r, 3, 7), 3)
		easy := easier(r, x)
		_, sum, e := Best(x)
		_, worst, _ := Fairest(x)
		for _, name := range names(easy) {
			_, easySum, bestE := Best(easy[name])
			_, easyWorst, fairestE := Fairest(easy[name])
			if bestE != fairestE || e == api.OK && (bestE != api.OK || easySum > sum || easyWorst > worst) {
				t.Fatal(name, x, easy[name], sum, easySum, worst, easyWorst, e, bestE, fairestE)
			}
			switch {
			case e == api.OK && easySum < sum:
				less[name]++
			case e != api.OK && bestE == api.OK:
				found[name]++
			}
		}
	}
	for _, name := range []string{"school", "kin", "reach"} {
		if less[name] < 20 || found[name] < 10 {
			t.Error(name, less[name], found[name])
		}
	}
}

// TestExchangesEnd exchanges lots until nobody can any more.
func TestExchangesEnd(t *testing.T) {
	r := source()
	several := 0
	for i := range 500 {
		x := small(r)
		if i%10 == 0 {
			x = someTown(r, 7, 4)
		}
		for plan := range look(x).allowed() {
			if r.IntN(10) > 0 {
				continue
			}
			done := exchangeAll(t, x, plan)
			if done > 1 {
				several++
			}
		}
	}
	if several < 100 {
		t.Error(several)
	}
}

// exchangeAll returns after how many exchanges a plan is settled. It fails if these are more than there are ranks to lose.
func exchangeAll(t *testing.T, x api.MoveTown, plan []int) int {
	t.Helper()
	most := slow{x}.sum(plan)
	for done := 0; ; done++ {
		other, e := Exchange(x, plan)
		if e == api.ErrNone {
			return done
		}
		before, after := slow{x}.sum(plan), slow{x}.sum(other)
		if e != api.OK || after >= before || done >= most {
			t.Fatal(x, plan, other, before, after, done, e)
		}
		plan = other
	}
}
