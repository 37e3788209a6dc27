package cool

// again returns in which week a house is level again if failed coolers are repaired in an order; -1 if it never is.
func (c cooled) again(house int, order []int) int {
	for done := range len(order) + 1 {
		if c.without(setOf(order[done:]...)).surelyLevel(house) {
			return c.with(setOf(order[:done]...)).weeks()
		}
	}
	return -1
}

// firstGood returns the first good order in which failed coolers are repaired, and whether there is one.
func (c cooled) firstGood(failed []int) (good []int, found bool) {
search:
	for order := range ordersOf(setOf(failed...)) {
		for house := range c.Houses {
			if !c.bearsUntil(house, c.again(house, order)) {
				continue search
			}
		}
		good, found = order, true
		break search
	}
	return good, found
}

// bearsUntil reports whether a house bears to be level again in some week.
func (c cooled) bearsUntil(house, week int) bool {
	return from(0, week, c.Houses[house].Grace)
}
