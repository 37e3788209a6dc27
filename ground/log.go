package ground

import (
	"strconv"
	"strings"

	"talik/api"
)

const (
	mostDigits   = 8
	checkModulus = 251
	hexDigits    = "0123456789abcdef"
)

// Print returns the log of a place.
func Print(p api.GroundPlace) (string, api.Errno) {
	if Check(p) != api.OK {
		return "", api.ErrArg
	}
	text := line("hole", len(p.Layers), p.Warm.Low, p.Warm.High)
	for _, l := range p.Layers {
		text += line("layer", l.Thick, l.Melt.Low, l.Melt.High)
	}
	return text + endLine(text), api.OK
}

// Read returns the place of a log.
func Read(text string) (p api.GroundPlace, e api.Errno) {
	if len(text) > api.GroundText {
		return api.GroundPlace{}, api.ErrLong
	}
	defer func() {
		if recover() != nil {
			p, e = api.GroundPlace{}, api.ErrText
		}
	}()
	r := &reader{text: text, rest: text}
	parts := [3]func(*reader){(*reader).hole, (*reader).layers, (*reader).end}
	for _, read := range parts {
		read(r)
	}
	if Check(r.place) != api.OK {
		return api.GroundPlace{}, api.ErrArg
	}
	return r.place, api.OK
}

// line returns a line of a log.
func line(word string, numbers ...int) string {
	for _, n := range numbers {
		word += " " + strconv.Itoa(n)
	}
	return word + "\n"
}

// endLine returns the last line of a log whose other lines are given.
func endLine(lines string) string {
	sum := 0
	for i := range len(lines) {
		sum += int(lines[i])
	}
	sum %= checkModulus
	return "end " + hexDigits[sum/16:sum/16+1] + hexDigits[sum%16:sum%16+1] + "\n"
}

// reader reads a log from the front. It gives up by a panic where the text does not have the form of one.
type reader struct {
	text  string
	rest  string
	count int // of layers, as the first line says
	place api.GroundPlace
}

func (r *reader) hole() {
	numbers := r.numbers("hole")
	r.count = numbers[0]
	r.place.Warm = api.Span{Low: numbers[1], High: numbers[2]}
}

func (r *reader) layers() {
	for range r.count {
		numbers := r.numbers("layer")
		melt := api.Span{Low: numbers[1], High: numbers[2]}
		r.place.Layers = append(r.place.Layers, api.GroundLayer{Thick: numbers[0], Melt: melt})
	}
}

func (r *reader) end() {
	before := r.text[:len(r.text)-len(r.rest)]
	if r.rest != endLine(before) {
		giveUp()
	}
}

// numbers reads a line that begins with a word, and returns its three numbers.
func (r *reader) numbers(word string) [3]int {
	first, rest, ended := strings.Cut(r.rest, "\n")
	words := strings.Split(first, " ")
	if !ended || len(words) != 4 || words[0] != word {
		giveUp()
	}
	r.rest = rest
	return [3]int{number(words[1]), number(words[2]), number(words[3])}
}

// number returns the number that a word is.
func number(word string) int {
	if word == "" || len(word) > mostDigits || word[0] == '0' && len(word) > 1 {
		giveUp()
	}
	n := 0
	for _, digit := range word {
		if digit < '0' || digit > '9' {
			giveUp()
		}
		n = 10*n + int(digit-'0')
	}
	return n
}

// giveUp ends the reading of a text that is no log.
func giveUp() {
	panic("no log")
}
