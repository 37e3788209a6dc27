package ground_test

import (
	"fmt"

	"talik/api"
	"talik/ground"
)

// The example of README.md.
func Example() {
	p, e := ground.Read("hole 2 0 2000\nlayer 500 100 120\nlayer 1000 200 300\nend 1f\n")
	if e != api.OK {
		return
	}
	y := api.GroundYear{
		Summer: api.Span{Low: 60000, High: 70000},
		Winter: api.Span{Low: 50000, High: 90000},
		Snow:   api.Span{Low: 100, High: 300},
	}
	seen, _ := ground.Years(p, []api.GroundYear{y, y})
	fmt.Println(seen[0].Thaw, seen[1].Thaw, seen[1].Talik == api.GroundMay)
	heat, _ := ground.Allow(p, []api.GroundYear{y}, 700)
	fmt.Println(heat)
	// Output:
	// {500 610} {500 795} true
	// 20199
}
