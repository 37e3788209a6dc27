package cool

import (
	"iter"
	"slices"

	"talik/api"
)

// cooled is a town with coolers that were bought.
type cooled struct {
	api.CoolTown
	bought int // a set of bits
	borne  map[asked]int
}

// asked is a house with a set of coolers, of which it was asked how many failures it bears.
type asked struct {
	house   int
	coolers int
}

// look looks at a town with coolers.
func look(t api.CoolTown, coolers []int) cooled {
	return cooled{CoolTown: t, bought: setOf(coolers...), borne: map[asked]int{}}
}

// with returns the same town with other coolers. What was found for a set is remembered for both.
func (c cooled) with(coolers int) cooled {
	c.bought = coolers
	return c
}

// without returns the town after some coolers have failed.
func (c cooled) without(failed int) cooled { return c.with(c.bought &^ failed) }

// list returns the coolers as a list.
func (c cooled) list() []int { return slices.Collect(sitesOf(c.bought)) }

// each returns some number of each cooler.
func (c cooled) each(number func(site int) int) []int {
	var numbers []int
	for site := range sitesOf(c.bought) {
		numbers = append(numbers, number(site))
	}
	return numbers
}

// cost returns what the coolers cost together.
func (c cooled) cost() int {
	return sum(c.each(func(site int) int { return c.Sites[site].Cost })...)
}

// weeks returns how long it takes to repair the coolers, one after the other.
func (c cooled) weeks() int {
	return sum(c.each(func(site int) int { return c.Sites[site].Weeks })...)
}

// setOf returns the set of some sites.
func setOf(sites ...int) int {
	set := 0
	for _, site := range sites {
		set |= 1 << site
	}
	return set
}

// sitesOf goes through the sites of a set, the first one first.
func sitesOf(set int) iter.Seq[int] {
	return func(yield func(int) bool) {
		for site := range api.CoolSites {
			if set>>site&1 == 1 && !yield(site) {
				return
			}
		}
	}
}

// setsOf goes through all sets of so many sites of a set, in the lexicographic order of their lists.
func setsOf(set, many int) iter.Seq[int] {
	return func(yield func(int) bool) {
		var choose func(chosen, rest, many int) bool
		choose = func(chosen, rest, many int) bool {
			if many == 0 {
				return yield(chosen)
			}
			for site := range sitesOf(rest) {
				rest &^= setOf(site)
				if !choose(chosen|setOf(site), rest, many-1) {
					return false
				}
			}
			return true
		}
		choose(0, set, many)
	}
}

// ordersOf goes through all orders of the sites of a set, in lexicographic order.
func ordersOf(set int) iter.Seq[[]int] {
	return func(yield func([]int) bool) {
		var order []int
		var add func(rest int) bool
		add = func(rest int) bool {
			if rest == 0 {
				return yield(slices.Clone(order))
			}
			for site := range sitesOf(rest) {
				order = append(order, site)
				if !add(rest &^ setOf(site)) {
					return false
				}
				order = order[:len(order)-1]
			}
			return true
		}
		add(set)
	}
}

func sum(numbers ...int) int {
	whole := 0
	for _, n := range numbers {
		whole += n
	}
	return whole
}
