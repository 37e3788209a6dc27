package sense

import (
	"strconv"
	"strings"

	"talik/api"
)

const (
	mostDigits = 4
	letters    = "abcdefghijklmnopqrstuvw"
)

// PrintFile returns the file of a string and its readings.
func PrintFile(s api.SenseString, l []api.SenseReading) (string, api.Errno) {
	if e := checkReadings(s, l); e != api.OK {
		return "", e
	}
	text := line("string", s.Error, s.Drift, s.Warm, s.Depths, len(s.At))
	for _, depth := range s.At {
		text += line("sensor", depth)
	}
	for _, r := range l {
		text += line("read", r.Sensor, r.Week, r.Temp)
	}
	return text + line("end", len(l)), api.OK
}

// ReadFile returns the string and the readings of a file.
func ReadFile(text string) (s api.SenseString, l []api.SenseReading, e api.Errno) {
	if len(text) > api.SenseText {
		return api.SenseString{}, nil, api.ErrLong
	}
	defer func() {
		if _, is := recover().(noFile); is {
			s, l, e = api.SenseString{}, nil, api.ErrText
		}
	}()
	s, l = readAll(text)
	if bad := checkReadings(s, l); bad != api.OK {
		return api.SenseString{}, nil, bad
	}
	return s, l, api.OK
}

// line returns a line of a file.
func line(word string, numbers ...int) string {
	for _, n := range numbers {
		word += " " + strconv.Itoa(n)
	}
	return word + " " + checkOf(word) + "\n"
}

// checkOf returns the check of a line's digits.
func checkOf(line string) string {
	sum, place := 0, 0
	for _, c := range line {
		if isDigit(c) {
			place++
			sum += place * int(c-'0')
		}
	}
	sum %= len(letters)
	return letters[sum : sum+1]
}

func isDigit(c rune) bool { return '0' <= c && c <= '9' }

// noFile is the panic of a reader whose text is no file.
type noFile struct{}

func giveUp() { panic(noFile{}) }

// readAll returns the string and the readings of a text that has the form of a file, and gives up otherwise.
func readAll(text string) (api.SenseString, []api.SenseReading) {
	r := &reader{rest: text}
	first := r.numbers("string", 5)
	s := api.SenseString{Error: first[0], Drift: first[1], Warm: first[2], Depths: first[3]}
	for range first[4] {
		depth := r.numbers("sensor", 1)
		s.At = append(s.At, depth[0])
	}
	var l []api.SenseReading
	for strings.HasPrefix(r.rest, "read") {
		n := r.numbers("read", 3)
		l = append(l, api.SenseReading{Sensor: n[0], Week: n[1], Temp: n[2]})
	}
	end := r.numbers("end", 1)
	if end[0] != len(l) || r.rest != "" {
		giveUp()
	}
	return s, l
}

// reader reads a text from the front.
type reader struct{ rest string }

// numbers reads a line that begins with a word, and returns its numbers, of which there must be so many.
func (r *reader) numbers(word string, many int) []int {
	line, rest, ended := strings.Cut(r.rest, "\n")
	words := strings.Split(line, " ")
	if !ended || len(words) != many+2 || words[0] != word || words[many+1] != checkOf(line) {
		giveUp()
	}
	var numbers []int
	for _, word := range words[1 : many+1] {
		numbers = append(numbers, number(word))
	}
	r.rest = rest
	return numbers
}

// number returns the number that a word is.
func number(word string) int {
	if word == "" || len(word) > mostDigits || word[0] == '0' && len(word) > 1 {
		giveUp()
	}
	n := 0
	for _, digit := range word {
		if !isDigit(digit) {
			giveUp()
		}
		n = 10*n + int(digit-'0')
	}
	return n
}
