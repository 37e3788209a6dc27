package move_test

import (
	"fmt"

	"talik/api"
	"talik/move"
)

// The example of README.md.
func Example() {
	town := api.MoveTown{
		Walk:    [][]int{{0, 10, 20, 30}, {10, 0, 10, 20}, {20, 10, 0, 10}, {30, 20, 10, 0}}, // four lots in a row
		Reach:   20,
		Schools: []int{1},
		Gone:    []bool{true, false, false, false},
		Houses: []api.MoveHouse{
			{Lot: 0, Wishes: []int{2, 1, 3}, School: true},
			{Lot: 1, Wishes: []int{2}},
			{Lot: 3, Wishes: []int{1, 2}},
		},
		Kin: []api.MovePair{{One: 0, Other: 1}},
	}
	fault, e := move.Fault(town, []int{0, 2, 1})
	if e != api.OK {
		return
	}
	fmt.Println(fault.Rule == api.MoveGone, fault.Of) // the house 0 cannot stay
	plan := []int{3, 1, 2}
	ranks, _ := move.Ranks(town, plan)
	other, _ := move.Exchange(town, plan)
	fmt.Println(ranks, other) // the houses 1 and 2 are better off
	best, sum, _ := move.Best(town)
	fmt.Println(best, sum)
	fairest, worst, _ := move.Fairest(town)
	fmt.Println(fairest, worst)
	way, _ := move.Steps(town, best)
	fmt.Println(way) // the house 1 to 2, 2 to 1, 0 to 3
	// Output:
	// true 0
	// [2 1 1] [3 2 1]
	// [3 2 1] 2
	// [3 2 1] 2
	// [{1 2} {2 1} {0 3}]
}
