package engineer_test

import (
	"fmt"
	"slices"

	"talik/api"
	"talik/engineer"
)

// readmeTown returns a town whose parts are those of the examples of README.md.
func readmeTown() api.EngineerTown {
	y := api.GroundYear{
		Summer: api.Span{Low: 60000, High: 70000},
		Winter: api.Span{Low: 50000, High: 90000},
		Snow:   api.Span{Low: 100, High: 300},
	}
	return api.EngineerTown{
		Place: api.GroundPlace{
			Layers: []api.GroundLayer{{Thick: 500, Melt: api.Span{Low: 100, High: 120}}, {Thick: 1000, Melt: api.Span{Low: 200, High: 300}}},
			Warm:   api.Span{Low: 0, High: 2000},
		},
		Years: []api.GroundYear{y, y},
		Site: api.PileSite{
			Piles: []api.Pile{
				{Depth: 8000, Point: 20, Skin: 30, Load: api.Span{Low: 100, High: 120}, Design: 230, Cost: 5},
				{Depth: 10000, Point: 0, Skin: 40, Load: api.Span{Low: 100, High: 100}, Design: 360, Cost: 5},
			},
			Pairs: []api.PilePair{{One: 0, Other: 1}},
			Rows: []api.PileRow{
				{Use: 500, Settle: api.Span{Low: 2, High: 4}},
				{Use: 700, Settle: api.Span{Low: 5, High: 9}},
				{Use: 900, Settle: api.Span{Low: 10, High: 20}},
			},
			May: 200, Sink: 25, Tilt: 10,
		},
		Cool: api.CoolTown{
			Houses: []api.CoolHouse{
				{Need: api.Span{Low: 80, High: 100}, Grace: 3},
				{Need: api.Span{Low: 50, High: 60}, Grace: 5},
			},
			Sites: []api.CoolSite{
				{Cost: 300, Weeks: 2, Gives: []api.Span{{Low: 60, High: 70}, {}}},
				{Cost: 500, Weeks: 3, Gives: []api.Span{{Low: 50, High: 60}, {Low: 40, High: 50}}},
				{Cost: 400, Weeks: 1, Gives: []api.Span{{}, {Low: 60, High: 80}}},
				{Cost: 450, Weeks: 4, Gives: []api.Span{{Low: 50, High: 55}, {Low: 30, High: 35}}},
			},
		},
		Net: api.PipeNet{
			Loops: []api.PipeLoop{
				{
					Warm: api.Span{Low: 300, High: 400}, Leak: api.Span{Low: 100, High: 150}, Wrap: api.Span{Low: 50, High: 80},
					Cost: 30, Mass: 50, Ground: 200, Feed: 60, Fix: api.Span{Low: 1, High: 2},
				},
				{
					Warm: api.Span{Low: 300, High: 300}, Leak: api.Span{Low: 200, High: 200}, Wrap: api.Span{Low: 60, High: 60},
					Cost: 40, Mass: 50, Ground: 200, Feed: 80, Fix: api.Span{Low: 1, High: 1},
				},
			},
			Frost: slices.Repeat([]api.Span{{Low: 200, High: 300}}, 8),
			Ways:  [][]int{{0, 1, 1}, {1, 0, 1}, {1, 1, 0}},
		},
		String: api.SenseString{Error: 2, Drift: 3, Warm: 2, Depths: 2, At: []int{0, 0, 1}},
		Store: api.Store{
			Stock: api.StoreGoods{2, 1, 0},
			Yard:  api.StoreGoods{10, 8, 5},
			Rate:  4,
			Weeks: 4,
			Land:  3,
			Ships: []api.StoreShip{
				{Week: 0, Cargo: api.StoreGoods{4, 2, 1}, Cost: 50},
				{Week: 1, Cargo: api.StoreGoods{2, 4, 1}, Cost: 40},
				{Week: 0, Cargo: api.StoreGoods{6, 6, 3}, Cost: 100},
			},
			Ices:    [][]bool{{true, true, true}, {false, true, true}},
			Winters: [][]api.StoreGoods{{{1, 1, 0}, {1, 1, 0}, {1, 1, 0}, {1, 1, 1}}},
		},
		Council: api.SpeakCouncil{
			Languages: []int{0, 1, 1, 2},
			Quorum:    3,
			Rule:      api.SpeakThirds,
			Negative:  [3]bool{false, true, true},
		},
	}
}

// The example of README.md.
func Example() {
	town := readmeTown()
	e, bad := engineer.Open(town)
	if bad != api.OK {
		return
	}
	thaws, _ := e.Thaws()
	fmt.Println(thaws[0].Thaw, thaws[1].Thaw)
	fmt.Println(e.Summer(65000, 60000, 200) == api.OK) // the first year was like this
	thaws, _ = e.Thaws()
	fmt.Println(thaws[0].Thaw, thaws[1].Thaw)
	fmt.Println(e.Buy(1) == api.ErrRule) // no motion has passed yet
	result, _ := e.Vote([]string{"yes", "en", "", "um"})
	fmt.Println(result.Passed, e.Buy(1) == api.OK)
	text, _ := e.Do("levels")
	fmt.Println(text)
	journal, _ := e.Journal()
	fmt.Print(journal)
	again, _, _ := engineer.Replay(town, journal)
	thaws, _ = again.Thaws()
	fmt.Println(thaws[1].Thaw)
	told, _ := engineer.Console(town, "fail 0\nrepairs 0\norder 1\nfirst\n")
	fmt.Print(told)
	// Output:
	// {500 610} {500 795}
	// true
	// {516 585} {556 705}
	// true
	// true true
	// -13 -4 -8 -4
	// summer 65000 60000 200
	// vote yes en * um
	// buy 1
	// {556 705}
	// ok
	// 1 0
	// ok
	// error 5
}
