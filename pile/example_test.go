package pile_test

import (
	"fmt"

	"talik/api"
	"talik/pile"
)

// The example of README.md.
func Example() {
	site := api.PileSite{
		Piles: []api.Pile{
			{Depth: 8000, Point: 20, Skin: 30, Load: api.Span{Low: 100, High: 120}, Design: 230, Cost: 5},
			{Depth: 10000, Point: 0, Skin: 40, Load: api.Span{Low: 100, High: 100}, Design: 360, Cost: 5},
		},
		Pairs: []api.PilePair{{One: 0, Other: 1}},
		Rows: []api.PileRow{
			{Use: 500, Settle: api.Span{Low: 2, High: 4}},
			{Use: 700, Settle: api.Span{Low: 5, High: 9}},
			{Use: 900, Settle: api.Span{Low: 10, High: 20}},
		},
		May: 200, Sink: 25, Tilt: 10,
	}
	year := []api.Span{{Low: 1000, High: 2000}, {Low: 1000, High: 2000}}
	thaws := [][]api.Span{year, year}
	fault, e := pile.Fault(site, thaws, []int{0, 0})
	if e != api.OK {
		return
	}
	fmt.Println(fault.Rule == api.PileTilts, fault.Year, fault.Of)
	plan, cost, _ := pile.Best(site, thaws)
	levels, _ := pile.Levels(site, thaws, plan)
	fmt.Println(plan, cost, levels[1])
	// Output:
	// true 1 0
	// [1 0] 5 [{-9 -2} {-8 -4}]
}
