package cool

import (
	"cmp"
	"iter"
	"slices"

	"talik/api"
)

// strongest returns the coolers, those first that surely give the most to a house.
func (c cooled) strongest(house int) []int {
	return greatestFirst(sitesOf(c.bought), func(site int) int { return c.leastGiven(site, house) })
}

// A house is surely level if it is so where each cooler gives the least, and the house needs the most.

func (c cooled) leastGiven(site, house int) int { return c.Sites[site].Gives[house].Low }

// surelyLevel reports whether a house is surely level with the coolers.
func (c cooled) surelyLevel(house int) bool { return c.bears(house) >= 0 }

// bears returns with how many failures, at most api.CoolFails, the coolers keep a house; -1 if they do not even with 0. No failures are worse than those of the strongest coolers.
func (c cooled) bears(house int) int {
	a := asked{house, c.bought}
	if known, is := c.borne[a]; is {
		return known
	}
	var given []int
	for _, site := range c.strongest(house) {
		given = append(given, c.leastGiven(site, house))
	}
	borne := -1
	for fails := range api.CoolFails + 1 {
		if sum(given[min(fails, len(given)):]...) < c.Houses[house].Need.High {
			break
		}
		borne = fails
	}
	c.borne[a] = borne
	return borne
}

// uneven is the panic of a look at houses, one of which is not surely level.
type uneven struct{ house int }

// mustKeep gives up at the first house that is not surely level with some number of failures.
func (c cooled) mustKeep(fails int) {
	for house := range c.Houses {
		if c.bears(house) < fails {
			panic(uneven{house})
		}
	}
}

// firstUneven returns the first house that is not surely level with some number of failures, and whether there is one.
func (c cooled) firstUneven(fails int) (house int, found bool) {
	defer func() {
		if u, is := recover().(uneven); is {
			house, found = u.house, true
		}
	}()
	c.mustKeep(fails)
	return 0, false
}

// breaking returns the fewest coolers after whose failure a house is not surely level, which is not kept with any failures.
func (c cooled) breaking(house int) []int {
	for failed := range setsOf(c.bought, c.bears(house)+1) {
		if !c.without(failed).surelyLevel(house) {
			return c.with(failed).list()
		}
	}
	return nil
}

// best returns the town with the best coolers, and whether there are any.
func (c cooled) best(fails int) (best cooled, found bool) {
	for set := range 1 << len(c.Sites) {
		next := c.with(set)
		if found && !next.before(best) {
			continue
		}
		if _, is := next.firstUneven(fails); !is {
			best, found = next, true
		}
	}
	return best, found
}

// before reports whether the coolers are better than other ones, if both keep the town.
func (c cooled) before(other cooled) bool {
	ways := [...]func(cooled) int{c.byCost, c.byNumber, c.byOrder}
	for _, way := range ways {
		if n := way(other); n != 0 {
			return n < 0
		}
	}
	return false
}

func (c cooled) byCost(other cooled) int { return cmp.Compare(c.cost(), other.cost()) }

func (c cooled) byNumber(other cooled) int { return cmp.Compare(len(c.list()), len(other.list())) }

func (c cooled) byOrder(other cooled) int { return slices.Compare(c.list(), other.list()) }

// floor returns the floor, and whether there is one.
func (c cooled) floor(fails int) (int, bool) {
	floor := 0
	for house := range c.Houses {
		least := c.fewest(house, fails)
		if least < 0 {
			return 0, false
		}
		floor = max(floor, least)
	}
	return floor, true
}

// fewest returns how many sites a house needs at least if it is alone; -1 if all are too few. No sites are better than those of the strongest coolers.
func (c cooled) fewest(house, fails int) int {
	all := c.with(1<<len(c.Sites) - 1).strongest(house)
	for many := range len(all) + 1 {
		if c.with(setOf(all[:many]...)).bears(house) >= fails {
			return many
		}
	}
	return -1
}

// greatestFirst returns things from the greatest one to the least one, and equal ones in the order in which they come.
func greatestFirst[T any](things iter.Seq[T], size func(T) int) []T {
	return slices.SortedStableFunc(things, func(a, b T) int { return cmp.Compare(size(b), size(a)) })
}
