package move

import (
	"math/rand/v2"
	"slices"
	"testing"

	"talik/api"
)

// source returns a source of numbers that are the same in each run.
func source() *rand.Rand { return rand.New(rand.NewPCG(1, 2)) }

// town returns the town t of the chapter's examples.
func town() api.MoveTown {
	return api.MoveTown{
		Walk:    [][]int{{0, 10, 20, 30}, {10, 0, 10, 20}, {20, 10, 0, 10}, {30, 20, 10, 0}},
		Reach:   10,
		Schools: []int{1},
		Gone:    []bool{true, false, false, false},
		Houses: []api.MoveHouse{
			{Lot: 0, Wishes: []int{2, 1, 3}, School: true},
			{Lot: 1, Wishes: []int{2}},
			{Lot: 3, Wishes: []int{1, 2}},
		},
		Kin: []api.MovePair{{One: 0, Other: 1}},
	}
}

// further returns the town u of the chapter's examples.
func further() api.MoveTown { return changed(town(), func(t *api.MoveTown) { t.Reach = 20 }) }

// house returns a house that needs no school.
func house(lot int, wishes ...int) api.MoveHouse { return api.MoveHouse{Lot: lot, Wishes: wishes} }

// pupil returns a house that needs a school.
func pupil(lot int, wishes ...int) api.MoveHouse {
	return api.MoveHouse{Lot: lot, Wishes: wishes, School: true}
}

// row returns a town with so many lots in a row, ten minutes from each to the next one, with a reach of ten minutes, no schools, no kin, and some houses.
func row(lots int, houses ...api.MoveHouse) api.MoveTown {
	t := api.MoveTown{Reach: 10, Gone: make([]bool, lots), Houses: houses}
	for lot := range lots {
		t.Walk = append(t.Walk, nil)
		for other := range lots {
			t.Walk[lot] = append(t.Walk[lot], 10*max(lot-other, other-lot))
		}
	}
	return t
}

// with returns a town with lots that are gone, schools and pairs of kin.
func with(t api.MoveTown, gone, schools []int, kin ...api.MovePair) api.MoveTown {
	return changed(t, func(t *api.MoveTown) {
		for _, lot := range gone {
			t.Gone[lot] = true
		}
		t.Schools, t.Kin = schools, kin
	})
}

// pair returns a pair of kin.
func pair(one, other int) api.MovePair { return api.MovePair{One: one, Other: other} }

// steps returns a list of steps from the numbers of houses and lots.
func steps(numbers ...int) []api.MoveStep {
	var list []api.MoveStep
	for pair := range slices.Chunk(numbers, 2) {
		list = append(list, api.MoveStep{House: pair[0], Lot: pair[1]})
	}
	return list
}

// greatestTown returns a town with the most of all, in which each plan without a shared lot is allowed.
func greatestTown() api.MoveTown {
	t := row(7)
	t.Reach, t.Schools = 1000, []int{0, 1, 2, 3, 4, 5, 6}
	for lot := range 6 {
		t.Houses = append(t.Houses, pupil(lot, 6, 5, 4, 3, 2, 1, 0))
	}
	for i := range 10 {
		t.Kin = append(t.Kin, pair(i%6, (i+1)%6))
	}
	for i, row := range t.Walk {
		for k := range row {
			if i != k {
				row[k] = 1000
			}
		}
	}
	return t
}

// smallestTown returns a town with the least of all.
func smallestTown() api.MoveTown {
	return api.MoveTown{Walk: [][]int{{0}}, Gone: []bool{false}, Houses: []api.MoveHouse{{}}}
}

func cloneTown(t api.MoveTown) api.MoveTown {
	t.Walk, t.Schools, t.Gone = slices.Clone(t.Walk), slices.Clone(t.Schools), slices.Clone(t.Gone)
	t.Houses, t.Kin = slices.Clone(t.Houses), slices.Clone(t.Kin)
	for i, row := range t.Walk {
		t.Walk[i] = slices.Clone(row)
	}
	for i, h := range t.Houses {
		t.Houses[i].Wishes = slices.Clone(h.Wishes)
	}
	return t
}

// changed returns a town after something was done to a copy of it.
func changed(t api.MoveTown, do func(t *api.MoveTown)) api.MoveTown {
	t = cloneTown(t)
	do(&t)
	return t
}

// badTowns returns towns that are not as defined, each for one reason.
func badTowns() map[string]api.MoveTown {
	all := map[string]api.MoveTown{"nothing": {}}
	change := func(name string, do func(t *api.MoveTown)) { all[name] = changed(town(), do) }
	change("no lots", func(t *api.MoveTown) { t.Walk, t.Gone, t.Schools = nil, nil, nil })
	all["8 lots"] = row(8, house(0))
	change("a row less", func(t *api.MoveTown) { t.Walk = t.Walk[:3] })
	change("a row more", func(t *api.MoveTown) { t.Walk = append(t.Walk, []int{30, 20, 10, 0}) })
	change("a short row", func(t *api.MoveTown) { t.Walk[3] = t.Walk[3][:3] })
	change("a long row", func(t *api.MoveTown) { t.Walk[0] = append(t.Walk[0], 40) })
	change("an empty row", func(t *api.MoveTown) { t.Walk[2] = nil })
	change("walk -1", func(t *api.MoveTown) { t.Walk[0][3], t.Walk[3][0] = -1, -1 })
	change("walk 1001", func(t *api.MoveTown) { t.Walk[0][3], t.Walk[3][0] = 1001, 1001 })
	change("a walk to the lot itself", func(t *api.MoveTown) { t.Walk[3][3] = 1 })
	change("a longer way back", func(t *api.MoveTown) { t.Walk[3][1] = 21 })
	change("a longer way there", func(t *api.MoveTown) { t.Walk[0][1] = 11 })
	change("reach -1", func(t *api.MoveTown) { t.Reach = -1 })
	change("reach 1001", func(t *api.MoveTown) { t.Reach = 1001 })
	change("school -1", func(t *api.MoveTown) { t.Schools = []int{-1} })
	change("school 4", func(t *api.MoveTown) { t.Schools = []int{1, 4} })
	change("a school twice", func(t *api.MoveTown) { t.Schools = []int{1, 1} })
	change("decreasing schools", func(t *api.MoveTown) { t.Schools = []int{0, 2, 1} })
	change("gone of no lots", func(t *api.MoveTown) { t.Gone = nil })
	change("gone of a lot less", func(t *api.MoveTown) { t.Gone = t.Gone[:3] })
	change("gone of a lot more", func(t *api.MoveTown) { t.Gone = append(t.Gone, false) })
	change("no houses", func(t *api.MoveTown) { t.Houses, t.Kin = nil, nil })
	all["7 houses"] = row(7, house(0), house(1), house(2), house(3), house(4), house(5), house(6))
	change("house on -1", func(t *api.MoveTown) { t.Houses[0].Lot = -1 })
	change("house on 4", func(t *api.MoveTown) { t.Houses[2].Lot = 4 })
	change("two houses on a lot", func(t *api.MoveTown) { t.Houses[2].Lot = 0 })
	change("wish -1", func(t *api.MoveTown) { t.Houses[0].Wishes[0] = -1 })
	change("wish 4", func(t *api.MoveTown) { t.Houses[2].Wishes[1] = 4 })
	change("a wish twice", func(t *api.MoveTown) { t.Houses[0].Wishes[2] = 2 })
	change("wishes for all lots, and for one of them again", func(t *api.MoveTown) { t.Houses[1].Wishes = []int{0, 1, 2, 3, 0} })
	change("11 pairs of kin", func(t *api.MoveTown) { t.Kin = slices.Repeat(t.Kin, 11) })
	for name, p := range map[string]api.MovePair{"one -1": pair(-1, 1), "other -1": pair(1, -1), "one 3": pair(3, 1), "other 3": pair(1, 3), "a house with itself": pair(1, 1)} {
		change("kin: "+name, func(t *api.MoveTown) { t.Kin = append(t.Kin, p) })
	}
	return all
}

// badPlans returns lists that are no plans of the chapter's towns.
func badPlans() map[string][]int {
	return map[string][]int{
		"nothing":       nil,
		"a house less":  {1, 2},
		"a house more":  {1, 2, 3, 0},
		"-1":            {-1, 2, 3},
		"a lot too far": {1, 2, 4},
		"two lots far":  {1, 4, 4},
		"no lot, later": {0, 0, -1},
	}
}

// names returns the names of some things in order.
func names[T any](things map[string]T) []string {
	var all []string
	for name := range things {
		all = append(all, name)
	}
	slices.Sort(all)
	return all
}

// upTo returns some number from low to high.
func upTo(r *rand.Rand, low, high int) int { return low + r.IntN(high-low+1) }

// someWalk returns how far it is between lots that lie in a row, or anywhere.
func someWalk(r *rand.Rand, lots, far int) [][]int {
	walk := row(lots).Walk
	if r.IntN(2) == 0 {
		return walk
	}
	for i := range lots {
		for k := range i {
			walk[i][k] = upTo(r, 0, far)
			walk[k][i] = walk[i][k]
		}
	}
	return walk
}

// someTown returns a town with so many lots and houses.
func someTown(r *rand.Rand, lots, houses int) api.MoveTown {
	t := api.MoveTown{Walk: someWalk(r, lots, 40), Reach: upTo(r, 0, 40), Gone: make([]bool, lots)}
	for lot := range lots {
		t.Gone[lot] = r.IntN(6) == 0
		if r.IntN(3) == 0 {
			t.Schools = append(t.Schools, lot)
		}
	}
	stand := r.Perm(lots)
	for number := range houses {
		wishes := r.Perm(lots)[:max(upTo(r, 0, lots), upTo(r, 0, lots))]
		t.Houses = append(t.Houses, api.MoveHouse{Lot: stand[number], Wishes: wishes, School: r.IntN(4) == 0})
	}
	for range upTo(r, 0, houses) - 1 {
		one := r.IntN(houses)
		t.Kin = append(t.Kin, pair(one, (one+upTo(r, 1, houses-1))%houses))
	}
	return t
}

// small returns a town of which all plans, and all lists of a few steps, can be gone through.
func small(r *rand.Rand) api.MoveTown {
	lots := max(upTo(r, 1, 5), upTo(r, 1, 5))
	return someTown(r, lots, upTo(r, 1, min(lots, 4)))
}

// large returns a town with about as many of all as is allowed.
func large(r *rand.Rand) api.MoveTown {
	t := someTown(r, 7, upTo(r, 5, 6))
	t.Reach = upTo(r, 20, 40)
	return t
}

// crowded returns a town of seven lots, in which everybody wishes for all of them, and a plan that is allowed, in which most houses move.
func crowded(r *rand.Rand) (api.MoveTown, []int) {
	t := row(7)
	stand := r.Perm(7)
	for _, lot := range stand[:upTo(r, 4, 6)] {
		t.Houses = append(t.Houses, house(lot, r.Perm(7)...))
	}
	for range 7 - len(t.Houses) { // some lots, of which others are left for all houses
		t.Gone[r.IntN(7)] = r.IntN(3) > 0
	}
	return t, slices.DeleteFunc(r.Perm(7), func(lot int) bool { return t.Gone[lot] })[:len(t.Houses)]
}

// lists returns all lists of so many numbers, from 0 to some one less than below, in lexicographic order.
func lists(many, below int) [][]int {
	all := [][]int{nil}
	for range many {
		var longer [][]int
		for _, list := range all {
			for n := range below {
				longer = append(longer, append(slices.Clone(list), n))
			}
		}
		all = longer
	}
	return all
}

// arrangements returns all lists of so many different numbers, from 0 to some one less than below.
func arrangements(many, below int) [][]int {
	if many == 0 {
		return [][]int{nil}
	}
	var all [][]int
	for _, list := range arrangements(many-1, below) {
		for n := range below {
			if !slices.Contains(list, n) {
				all = append(all, append(slices.Clone(list), n))
			}
		}
	}
	return all
}

// slow does what the chapter says, as it says it.
type slow struct{ api.MoveTown }

// plans returns all plans, in lexicographic order.
func (s slow) plans() [][]int { return lists(len(s.Houses), len(s.Walk)) }

// rankOf returns the ranks of all lots that have any for a house.
func (s slow) rankOf(house int) map[int]int {
	h := s.Houses[house]
	ranks := map[int]int{h.Lot: len(h.Wishes)}
	for rank, lot := range h.Wishes {
		ranks[lot] = rank
	}
	return ranks
}

func (s slow) ranks(plan []int) []int {
	var ranks []int
	for house, lot := range plan {
		ranks = append(ranks, s.rankOf(house)[lot])
	}
	return ranks
}

func (s slow) sum(plan []int) int {
	whole := 0
	for _, rank := range s.ranks(plan) {
		whole += rank
	}
	return whole
}

// schooled reports whether a house has a school within reach, or needs none.
func (s slow) schooled(house, lot int) bool {
	for _, at := range s.Schools {
		if s.Reach >= s.Walk[at][lot] {
			return true
		}
	}
	return !s.Houses[house].School
}

// wrong returns, for each rule, all that it is wrong with.
func (s slow) wrong(plan []int) map[api.MoveRule][]int {
	wrong := map[api.MoveRule][]int{}
	note := func(rule api.MoveRule, is bool, of int) {
		if is {
			wrong[rule] = append(wrong[rule], of)
		}
	}
	for house, lot := range plan {
		for other := range house {
			note(api.MoveShared, plan[other] == lot, house)
		}
		_, ranked := s.rankOf(house)[lot]
		note(api.MoveGone, s.Gone[lot], house)
		note(api.MoveUnwished, !ranked, house)
		note(api.MoveSchool, !s.schooled(house, lot), house)
	}
	for i, p := range s.Kin {
		note(api.MoveApart, s.Walk[plan[p.One]][plan[p.Other]] > s.Reach, i)
	}
	return wrong
}

func (s slow) fault(plan []int) api.MoveFault {
	wrong := s.wrong(plan)
	for _, rule := range []api.MoveRule{api.MoveShared, api.MoveGone, api.MoveUnwished, api.MoveSchool, api.MoveApart} {
		if len(wrong[rule]) > 0 {
			return api.MoveFault{Rule: rule, Of: wrong[rule][0]}
		}
	}
	return api.MoveFault{Rule: api.MoveFine}
}

// allowed returns all allowed plans, in lexicographic order.
func (s slow) allowed() [][]int {
	return slices.DeleteFunc(s.plans(), func(plan []int) bool { return len(s.wrong(plan)) > 0 })
}

// isExchange reports whether an allowed plan is an exchange for another one.
func (s slow) isExchange(plan, other []int) bool {
	one, two := s.ranks(plan), s.ranks(other)
	moved := 0
	for house := range plan {
		if plan[house] != other[house] {
			moved++
			if two[house] >= one[house] {
				return false
			}
		}
	}
	return moved > 0
}

// exchanges returns all exchanges for a plan, in lexicographic order.
func (s slow) exchanges(allowed [][]int, plan []int) [][]int {
	var all [][]int
	for _, other := range allowed {
		if s.isExchange(plan, other) {
			all = append(all, other)
		}
	}
	return all
}

// first returns the first one of some plans, if a measure of each is what counts most, and their order then.
func first(plans [][]int, measure func(plan []int) int) []int {
	sorted := slices.Clone(plans)
	slices.SortFunc(sorted, func(a, b []int) int {
		if n := measure(a) - measure(b); n != 0 {
			return n
		}
		return slices.Compare(a, b)
	})
	return sorted[0]
}

func (s slow) best(allowed [][]int) []int { return first(allowed, s.sum) }

// fairest takes the greatest rank a thousand times, as sums are less than that.
func (s slow) fairest(allowed [][]int) []int {
	return first(allowed, func(plan []int) int { return 1000*slices.Max(s.ranks(plan)) + s.sum(plan) })
}

// lotsOfHouses returns where the houses stand.
func (s slow) lotsOfHouses() []int {
	var lots []int
	for _, h := range s.Houses {
		lots = append(lots, h.Lot)
	}
	return lots
}

// next returns all steps that are possible from where houses are, in order, and where they are afterwards.
func (s slow) next(at []int) ([]api.MoveStep, [][]int) {
	var list []api.MoveStep
	var places [][]int
	for house := range at {
		for lot := range s.Walk {
			if !s.Gone[lot] && !slices.Contains(at, lot) {
				after := slices.Clone(at)
				after[house] = lot
				list, places = append(list, api.MoveStep{House: house, Lot: lot}), append(places, after)
			}
		}
	}
	return list, places
}

// way tries all lists of steps, the shorter ones first. Six steps suffice for four houses: each moves once, and one more time for each round in which houses follow each other, of which there are two at most.
func (s slow) way(plan []int) ([]api.MoveStep, bool) {
	for length := range 7 {
		if list, found := s.wayOf(s.lotsOfHouses(), plan, length); found {
			return list, true
		}
	}
	return nil, false
}

// wayOf returns the first list of so many steps to a plan.
func (s slow) wayOf(at, plan []int, length int) ([]api.MoveStep, bool) {
	if length == 0 {
		return nil, slices.Equal(at, plan)
	}
	list, places := s.next(at)
	for i, after := range places {
		if rest, found := s.wayOf(after, plan, length-1); found {
			return append([]api.MoveStep{list[i]}, rest...), true
		}
	}
	return nil, false
}

// farAway is more than any number of steps that is needed.
const farAway = 1000

// distances returns, for all places of houses on different lots, how many steps it takes from there to a plan, by looking at each as often as anything changes.
func (s slow) distances(plan []int) map[[6]int]int {
	far := map[[6]int]int{key(plan): 0}
	places := arrangements(len(s.Houses), len(s.Walk))
	for change := true; change; {
		change = false
		for _, at := range places {
			_, after := s.next(at)
			for _, next := range after {
				if n, known := far[key(next)]; known && n+1 < distance(far, at) {
					far[key(at)], change = n+1, true
				}
			}
		}
	}
	return far
}

func key(at []int) (k [6]int) {
	copy(k[:], at)
	return k
}

func distance(far map[[6]int]int, at []int) int {
	if n, known := far[key(at)]; known {
		return n
	}
	return farAway
}

// wayBy goes down the distances to a plan by the first step that comes nearer.
func (s slow) wayBy(far map[[6]int]int) ([]api.MoveStep, bool) {
	at := s.lotsOfHouses()
	if distance(far, at) == farAway {
		return nil, false
	}
	var way []api.MoveStep
	for distance(far, at) > 0 {
		list, places := s.next(at)
		i := slices.IndexFunc(places, func(next []int) bool { return distance(far, next) < distance(far, at) })
		way, at = append(way, list[i]), places[i]
	}
	return way, true
}

// mustLead fails if a step of a list is not possible, or if they do not lead to a plan.
func mustLead(t *testing.T, town api.MoveTown, plan []int, way []api.MoveStep) {
	t.Helper()
	at := slow{town}.lotsOfHouses()
	for _, step := range way {
		list, places := slow{town}.next(at)
		i := slices.Index(list, step)
		if i < 0 {
			t.Fatal(town, plan, way, step)
		}
		at = places[i]
	}
	if !slices.Equal(at, plan) {
		t.Fatal(town, plan, way, at)
	}
}
