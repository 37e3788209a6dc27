package speak_test

import (
	"fmt"

	"talik/api"
	"talik/speak"
)

// The example of README.md.
func Example() {
	motion, e := speak.Read("build 3 houses and not close 2 roads or pay 5 lakes", 0)
	if e != api.OK {
		return
	}
	text, _ := speak.Print(motion, 1)
	fmt.Println(text)
	text, _ = speak.Translate(text, 1, 2)
	fmt.Println(text)
	holds, _ := speak.Holds(motion, []api.SpeakDeed{{Act: 1, Number: 4, Thing: 1}}) // 4 houses are built
	fmt.Println(holds)
	other, _ := speak.Read("build 3 houses or pay 5 lakes", 0)
	deeds, _ := speak.Apart(motion, other)
	fmt.Println(deeds) // 3 houses are built, and 2 roads are closed
	council := api.SpeakCouncil{
		Languages: []int{0, 1, 1, 2}, // of four members
		Quorum:    3,
		Rule:      api.SpeakThirds,
		Negative:  [3]bool{false, true, true}, // "Do you not want it?", in the languages 1 and 2
	}
	word, _ := speak.Word(1, true, api.SpeakFor)
	fmt.Println(word)
	result, _ := speak.Count(council, []string{"yes", "en", "", "om"}) // the third member is absent
	fmt.Println(result)
	river := []api.SpeakSpot{{Kind: 1, Left: true}, {Kind: 2}, {Kind: 3}, {Kind: 1}, {Kind: 2}} // from its mouth up
	places, _ := speak.Find(river, 1, []api.SpeakStep{{Count: 1, Kind: 2, Up: true, Bank: 2}})
	fmt.Println(places) // the first spot of kind 2 up from one of kind 1, on the right bank
	// Output:
	// vai ja tupa 3 rako ei reda 2 sulo lamu 5 mako
	// kir3a tor2e ku le pan5i no
	// true
	// [{1 3 1} {3 2 2}]
	// en
	// {2 1 0 1 true}
	// [1 4]
}
