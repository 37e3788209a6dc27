package sense_test

import (
	"fmt"

	"talik/api"
	"talik/sense"
)

// The example of README.md.
func Example() {
	hung := api.SenseString{Error: 2, Drift: 3, Warm: 2, Depths: 2, At: []int{0, 0, 1}} // two sensors at one depth, and one at another
	readings := []api.SenseReading{
		{Sensor: 0, Week: 0, Temp: 2700}, {Sensor: 0, Week: 10, Temp: 2720},
		{Sensor: 1, Week: 0, Temp: 2701}, {Sensor: 1, Week: 10, Temp: 2702},
		{Sensor: 2, Week: 0, Temp: 2650}, {Sensor: 2, Week: 10, Temp: 2651},
	}
	causes, e := sense.Least(hung, readings)
	if e != api.OK {
		return
	}
	fmt.Println(causes) // the sensor 0 drifts
	truth, _ := sense.Witness(hung, readings, causes[0])
	fmt.Println(truth)
	words, _ := sense.Known(hung, readings, 1) // with at most one cause
	fmt.Println(words[0] == api.SenseSurely, words[1] == api.SenseNot)
	bounds, _ := sense.Where(hung, readings, 1, 0, 10) // at the depth 0 in the week 10
	fmt.Println(bounds)
	text, _ := sense.PrintFile(hung, readings[:1])
	fmt.Print(text)
	// Output:
	// [{[0] []}]
	// {[2700 2649] [0 0] [2 0 0]}
	// true true
	// {2700 2702}
	// string 2 3 2 2 3 o
	// sensor 0 a
	// sensor 0 a
	// sensor 1 b
	// read 0 0 2700 l
	// end 1 b
}
