package store_test

import (
	"fmt"

	"talik/api"
	"talik/store"
)

// The example of README.md.
func Example() {
	town := api.Store{
		Stock: api.StoreGoods{2, 1, 0}, // of fuel, of food, and of others
		Yard:  api.StoreGoods{10, 8, 5},
		Rate:  4,
		Weeks: 4,
		Land:  3,
		Ships: []api.StoreShip{
			{Week: 0, Cargo: api.StoreGoods{4, 2, 1}, Cost: 50},
			{Week: 1, Cargo: api.StoreGoods{2, 4, 1}, Cost: 40},
			{Week: 0, Cargo: api.StoreGoods{6, 6, 3}, Cost: 100},
		},
		Ices:    [][]bool{{true, true, true}, {false, true, true}},
		Winters: [][]api.StoreGoods{{{1, 1, 0}, {1, 1, 0}, {1, 1, 0}, {1, 1, 1}}},
	}
	plan, cost, e := store.Best(town)
	if e != api.OK {
		return
	}
	fmt.Println(plan, cost) // the ship 1
	fault, _ := store.Fault(town, 1)
	fmt.Println(fault.Lacks, fault.Ice, fault.Winter, fault.Week, fault.Kind)
	week, kind, _ := store.First(town, 1)
	fmt.Println(week, kind)
	trace, _ := store.Run(town, plan, 0, 0) // with the ice 0, in the winter 0
	fmt.Println(trace.Landed[1], trace.Stocks)
	floor, _ := store.Floor(town, 0, api.StoreGoods{0, 10, 0})
	fmt.Println(floor)
	text, _ := store.Print(town.Ships)
	fmt.Print(text)
	// Output:
	// 2 40
	// true 0 0 3 1
	// 1 1
	// [2 4 1] [[1 0 0] [2 1 0] [1 2 1] [0 1 0]]
	// 30
	// ship 0 0 50 4 2 1
	// ship 1 1 40 2 4 1
	// ship 2 0 100 6 6 3
	// end 3 34
}
