package cool_test

import (
	"fmt"

	"talik/api"
	"talik/cool"
)

// The example of README.md.
func Example() {
	town := api.CoolTown{
		Houses: []api.CoolHouse{
			{Need: api.Span{Low: 80, High: 100}, Grace: 3},
			{Need: api.Span{Low: 50, High: 60}, Grace: 5},
		},
		Sites: []api.CoolSite{ // what each gives to the two houses
			{Cost: 300, Weeks: 2, Gives: []api.Span{{Low: 60, High: 70}, {}}},
			{Cost: 500, Weeks: 3, Gives: []api.Span{{Low: 50, High: 60}, {Low: 40, High: 50}}},
			{Cost: 400, Weeks: 1, Gives: []api.Span{{}, {Low: 60, High: 80}}},
			{Cost: 450, Weeks: 4, Gives: []api.Span{{Low: 50, High: 55}, {Low: 30, High: 35}}},
		},
	}
	bought, cost, e := cool.Best(town, 0) // if none fails
	if e != api.OK {
		return
	}
	fmt.Println(bought, cost)
	house, failed, _ := cool.Break(town, bought, 1)
	fmt.Println(house, failed)
	bought, cost, _ = cool.Best(town, 1) // whichever one fails
	fmt.Println(bought, cost)
	order, _ := cool.Repair(town, bought, []int{1, 3})
	fmt.Println(order)
	// Output:
	// [1 3] 950
	// 0 [1]
	// [0 1 2 3] 1650
	// [1 3]
}
