package store

import (
	"strconv"
	"strings"

	"talik/api"
)

const (
	mostDigits   = 9
	checkModulus = 97
)

// Print returns the manifest of ships.
func Print(ships []api.StoreShip) (string, api.Errno) {
	if e := checkShips(ships); e != api.OK {
		return "", e
	}
	text := ""
	for number, ship := range ships {
		text += "ship"
		for _, n := range numbersOf(number, ship) {
			text += " " + strconv.Itoa(n)
		}
		text += "\n"
	}
	return text + "end " + strconv.Itoa(len(ships)) + " " + checkOf(ships) + "\n", api.OK
}

// Read returns the ships of a manifest.
func Read(text string) (ships []api.StoreShip, e api.Errno) {
	if len(text) > api.StoreText {
		return nil, api.ErrLong
	}
	defer func() {
		if _, is := recover().(noManifest); is {
			ships, e = nil, api.ErrText
		}
	}()
	ships = readAll(text)
	if bad := checkShips(ships); bad != api.OK {
		return nil, bad
	}
	return ships, api.OK
}

// checkShips returns the error of ships.
func checkShips(ships []api.StoreShip) api.Errno {
	if len(ships) > api.StoreShips {
		return api.ErrLong
	}
	if !shipsFine(ships) {
		return api.ErrArg
	}
	return api.OK
}

// numbersOf returns the numbers of a ship's line.
func numbersOf(number int, s api.StoreShip) [6]int {
	return [...]int{number, s.Week, s.Cost, s.Cargo[0], s.Cargo[1], s.Cargo[2]}
}

// checkOf returns the digits of the check of ships.
func checkOf(ships []api.StoreShip) string {
	sum := 0
	for number, ship := range ships {
		for i, n := range numbersOf(number, ship) {
			sum += n * (i + 1)
		}
	}
	return strconv.Itoa(100 + sum%checkModulus)[1:]
}

// noManifest is the panic of a reader whose text is no manifest.
type noManifest struct{}

func giveUp() { panic(noManifest{}) }

// readAll returns the ships of a text that has the form of a manifest, and gives up otherwise.
func readAll(text string) []api.StoreShip {
	r := &reader{rest: text}
	var ships []api.StoreShip
	for strings.HasPrefix(r.rest, "ship") {
		var n [6]int
		for i, word := range r.words("ship", len(n)) {
			n[i] = number(word)
		}
		if n[0] != len(ships) {
			giveUp()
		}
		ships = append(ships, api.StoreShip{Week: n[1], Cost: n[2], Cargo: api.StoreGoods{n[3], n[4], n[5]}})
	}
	end := r.words("end", 2)
	if number(end[0]) != len(ships) || end[1] != checkOf(ships) || r.rest != "" {
		giveUp()
	}
	return ships
}

// reader reads a text from the front.
type reader struct{ rest string }

// words reads a line that begins with a word, and returns the words after it, of which there must be so many.
func (r *reader) words(first string, many int) []string {
	line, rest, ended := strings.Cut(r.rest, "\n")
	words := strings.Split(line, " ")
	if !ended || len(words) != 1+many || words[0] != first {
		giveUp()
	}
	r.rest = rest
	return words[1:]
}

// number returns the number that a word is.
func number(word string) int {
	if word == "" || len(word) > mostDigits || word[0] == '0' && len(word) > 1 {
		giveUp()
	}
	n := 0
	for _, digit := range word {
		if digit < '0' || digit > '9' {
			giveUp()
		}
		n = 10*n + int(digit-'0')
	}
	return n
}
