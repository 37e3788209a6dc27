package pipe_test

import (
	"fmt"
	"slices"

	"talik/api"
	"talik/pipe"
)

// The example of README.md.
func Example() {
	net := api.PipeNet{
		Loops: []api.PipeLoop{
			{
				Warm: api.Span{Low: 300, High: 400}, Leak: api.Span{Low: 100, High: 150}, Wrap: api.Span{Low: 50, High: 80},
				Cost: 30, Mass: 50, Ground: 200, Feed: 60, Fix: api.Span{Low: 1, High: 2},
			},
			{
				Warm: api.Span{Low: 300, High: 300}, Leak: api.Span{Low: 200, High: 200}, Wrap: api.Span{Low: 60, High: 60},
				Cost: 40, Mass: 50, Ground: 200, Feed: 80, Fix: api.Span{Low: 1, High: 1},
			},
		},
		Frost: slices.Repeat([]api.Span{{Low: 200, High: 300}}, 8), // of 8 hours
		Ways:  [][]int{{0, 1, 1}, {1, 0, 1}, {1, 1, 0}},            // from the depot, and from each loop
	}
	can, surely, e := pipe.Freezes(net, 1)
	if e != api.OK {
		return
	}
	fmt.Println(can, surely)
	faults := []int{1, 2, 3} // the loop 0, the loop 1, and both
	weak, _ := pipe.Weak(net, 0, faults)
	fmt.Println(weak)
	wrapping, cost, _ := pipe.Wrap(net, 0, faults)
	fmt.Println(wrapping, cost)
	net.Loops[0].Leak = net.Loops[0].Wrap // the loop 0 is wrapped
	order, slack, _ := pipe.Order(net, 0, 3)
	fmt.Println(order, slack)
	// Output:
	// 4 5
	// 2
	// 1 30
	// [1 0] 1
}
