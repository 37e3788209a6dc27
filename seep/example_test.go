package seep_test

import (
	"fmt"

	"talik/api"
	"talik/seep"
)

// The example of README.md.
func Example() {
	m := api.SeepMap{
		Points: 5, // a dump, a ditch, a bog, a well and a lake
		Edges: []api.SeepEdge{
			{From: 0, To: 1, Depth: 0, Cost: 300},
			{From: 1, To: 3, Depth: 900, Cost: 500},
			{From: 0, To: 2, Depth: 600, Cost: 200},
			{From: 2, To: 3, Depth: 700, Cost: 250},
			{From: 2, To: 4, Depth: 0, Cost: -1},
			{From: 1, To: 2, Depth: 800, Cost: 100},
		},
		Wastes: []int{0},
		Wells:  []int{3},
		Thaws:  []api.Span{{Low: 500, High: 650}, {Low: 550, High: 750}, {Low: 600, High: 850}, {Low: 650, High: 950}},
		Lakes: []api.SeepLake{
			{Into: 1, Rim: 620, Volume: api.Span{Low: 100, High: 120}, Room: api.Span{Low: 10, High: 20}},
			{Into: -1, Rim: 5000, Volume: api.Span{Low: 200, High: 250}, Room: api.Span{Low: 90, High: 130}},
		},
	}
	years, e := seep.Years(m, nil) // without dykes
	if e != api.OK {
		return
	}
	fmt.Println(years[3]) // the well can be foul in the year 1, and surely is in none of the four
	route, _ := seep.Route(m, nil, 3)
	fmt.Println(route)
	dykes, cost, _ := seep.Dykes(m)
	fmt.Println(dykes, cost)
	floor, _ := seep.Floor(m, [][]int{{0, 1}, {2, 3}}, []int{300, 200})
	fmt.Println(floor) // no dykes that keep the well are cheaper
	drained, ledger, _ := seep.Pour(m, api.SeepTruth{Thaws: []int{500, 600, 640, 700}, Volumes: []int{110, 220}, Rooms: []int{15, 100}})
	fmt.Println(drained, ledger)
	known, _ := seep.Drain(m)
	fmt.Println(known)
	// Output:
	// {1 4}
	// [2 3]
	// [0 2] 500
	// 500
	// [2 2] {330 330 0}
	// [{0 3} {0 4}]
}
