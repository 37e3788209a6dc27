package cool

import (
	"math/rand/v2"
	"slices"
	"testing"

	"talik/api"
)

// P3.5 (consequences)

// keptTown returns a town, coolers that keep it with some number of failures, and this number.
func keptTown(t *testing.T, r *rand.Rand) (api.CoolTown, []int, int) {
	for {
		c := large(r, 1+r.IntN(api.CoolHouses), 2+r.IntN(api.CoolSites-1))
		fails := r.IntN(api.CoolFails + 1)
		best, _, e := Best(c, fails)
		if e == api.OK && len(best) > 0 {
			return c, best, fails
		}
		if e != api.OK && e != api.ErrNone {
			t.Fatal(c, fails, e)
		}
	}
}

func mustKeepTown(t *testing.T, c api.CoolTown, bought []int, fails int) {
	t.Helper()
	if keeps, e := Keeps(c, bought, fails); e != api.OK || !keeps {
		t.Fatal(c, bought, fails, keeps, e)
	}
	if n, e := Bears(c, bought); e != api.OK || n < fails {
		t.Fatal(c, bought, fails, n, e)
	}
}

func TestACoolerMoreBreaksNothing(t *testing.T) {
	r := source()
	for range 500 {
		c, bought, fails := keptTown(t, r)
		for range c.Sites {
			if others := minus(numbers(len(c.Sites)), bought); len(others) > 0 {
				bought = append(bought, others[r.IntN(len(others))])
				slices.Sort(bought)
			}
			mustKeepTown(t, c, bought, fails)
		}
	}
}

func TestAHouseThatNeedsLessBreaksNothing(t *testing.T) {
	r := source()
	for range 500 {
		c, bought, fails := keptTown(t, r)
		house := r.IntN(len(c.Houses))
		need := &c.Houses[house].Need
		need.High = r.IntN(need.High + 1)
		need.Low = min(need.Low, need.High)
		mustKeepTown(t, c, bought, fails)
		_, cost, e := Best(c, fails)
		if price := (slow{c, ends}).cost(bought); e != api.OK || cost > price {
			t.Fatal(c, bought, fails, cost, price, e)
		}
	}
}

// better returns the same town, of which more is known.
func better(r *rand.Rand, c api.CoolTown) api.CoolTown {
	narrow := func(s api.Span) api.Span { return someSpan(r, s.Low, s.High, s.High-s.Low) }
	c = cloneTown(c)
	for i := range c.Houses {
		c.Houses[i].Need = narrow(c.Houses[i].Need)
	}
	for _, s := range c.Sites {
		for i := range s.Gives {
			s.Gives[i] = narrow(s.Gives[i])
		}
	}
	return c
}

func TestKnownBetterBreaksNothing(t *testing.T) {
	r := source()
	cheaper := 0
	for range 500 {
		c, bought, fails := keptTown(t, r)
		known := better(r, c)
		mustKeepTown(t, known, bought, fails)
		_, before, e := Best(c, fails)
		if e != api.OK {
			t.Fatal(c, fails, e)
		}
		_, cost, e := Best(known, fails)
		if e != api.OK || cost > before {
			t.Fatal(c, known, fails, before, cost, e)
		}
		if cost < before {
			cheaper++
		}
		floor, e := Floor(c, fails)
		if e != api.OK {
			t.Fatal(c, fails, e)
		}
		if less, e := Floor(known, fails); e != api.OK || less > floor {
			t.Fatal(c, known, fails, floor, less, e)
		}
	}
	if cheaper < 50 {
		t.Error(cheaper)
	}
}

func TestNoHouseWaitsLongerIfMoreIsKnown(t *testing.T) {
	r := source()
	for range 500 {
		c := repairable(r, 1+r.IntN(4), 1+r.IntN(api.CoolSites))
		bought := numbers(len(c.Sites))
		order := shuffled(r, failures(r, bought))
		before, e := Again(c, bought, order)
		if e != api.OK {
			t.Fatal(c, order, e)
		}
		after, e := Again(better(r, c), bought, order)
		if e != api.OK {
			t.Fatal(c, order, e)
		}
		for house, week := range before {
			if week >= 0 && !from(0, after[house], week) {
				t.Fatal(c, bought, order, before, after)
			}
		}
	}
}

func TestMoreFailuresAreNotEasier(t *testing.T) {
	r := source()
	for range 300 {
		c := large(r, 1+r.IntN(api.CoolHouses), 1+r.IntN(api.CoolSites))
		least, few := 0, 0
		none := false
		for fails := range api.CoolFails + 1 {
			_, cost, e := Best(c, fails)
			floor, floorE := Floor(c, fails)
			if e != floorE || none && e == api.OK || e == api.OK && (cost < least || floor < few) {
				t.Fatal(c, fails, cost, floor, e, floorE)
			}
			least, few, none = cost, floor, e != api.OK
		}
	}
}
