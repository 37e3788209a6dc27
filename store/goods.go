package store

import "talik/api"

// kinds is how many kinds of goods there are: fuel, food, and others.
const kinds = 3

// sum returns some goods together.
func sum(some ...api.StoreGoods) api.StoreGoods {
	var whole api.StoreGoods
	for _, goods := range some {
		for kind := range kinds {
			whole[kind] += goods[kind]
		}
	}
	return whole
}

// less returns what is left of goods without some of them.
func less(goods, some api.StoreGoods) api.StoreGoods {
	for kind := range kinds {
		goods[kind] -= some[kind]
	}
	return goods
}

// least returns of each kind what there is less of.
func least(a, b api.StoreGoods) api.StoreGoods {
	for kind := range kinds {
		a[kind] = min(a[kind], b[kind])
	}
	return a
}

// units returns how many units goods are.
func units(goods api.StoreGoods) int { return worth(goods, api.StoreGoods{1, 1, 1}) }

// worth returns what goods are worth by prices.
func worth(goods, prices api.StoreGoods) int {
	whole := 0
	for kind := range kinds {
		whole += goods[kind] * prices[kind]
	}
	return whole
}

// fair reports whether prices are fair.
func fair(ships []api.StoreShip, prices api.StoreGoods) bool {
	for _, ship := range ships {
		if worth(ship.Cargo, prices) > ship.Cost {
			return false
		}
	}
	return true
}

// missing returns what must be landed at least so that nothing is lacking in a winter.
func missing(s api.Store, winter int) api.StoreGoods {
	need := sum(s.Winters[winter]...)
	return less(need, least(need, s.Stock))
}
