package engineer

import (
	"strings"

	"talik/api"
)

const mostDigits = 9

// noLine is the panic of a reader whose line is none of those that it knows.
type noLine struct{}

func giveUp() { panic(noLine{}) }

// read returns what a line says, which is found by its first word; ErrText if it says nothing.
func read[T any](line string, ways map[string]func(*reader) T) (said T, bad api.Errno) {
	defer func() {
		if _, is := recover().(noLine); is {
			bad = api.ErrText
		}
	}()
	words := strings.Split(line, " ")
	way, known := ways[words[0]]
	if !known {
		giveUp()
	}
	return way(&reader{words[1:]}), api.OK
}

// reader reads the words of a line after its first one.
type reader struct{ words []string }

// acts returns how the lines of acts are read.
func acts() map[string]func(*reader) act {
	return map[string]func(*reader) act{
		"summer": (*reader).summer,
		"jack":   (*reader).jack,
		"vote":   (*reader).vote,
		"buy":    (*reader).buy,
		"break":  (*reader).breaks,
		"mend":   (*reader).mend,
		"read":   (*reader).read,
		"fail":   (*reader).fail,
		"fix":    (*reader).fix,
		"order":  (*reader).order,
	}
}

func (r *reader) summer() act {
	n := r.numbers(3)
	return ending{n[0], n[1], n[2]}
}

func (r *reader) jack() act { return jacking{r.number()} }

func (r *reader) vote() act {
	if len(r.words) == 0 {
		giveUp()
	}
	var words []string
	for _, word := range r.words {
		words = append(words, wordOf(word))
	}
	return voting{words}
}

func (r *reader) buy() act { return buying{r.number()} }

func (r *reader) breaks() act { return breaking{r.number()} }

func (r *reader) mend() act { return mending{r.number()} }

func (r *reader) read() act {
	n := r.numbers(3)
	return noting{api.SenseReading{Sensor: n[0], Week: n[1], Temp: n[2]}}
}

func (r *reader) fail() act { return failing{r.number()} }

func (r *reader) fix() act { return fixing{r.number()} }

func (r *reader) order() act { return ordering{r.number()} }

// number reads the words, which must be a single number.
func (r *reader) number() int { return r.numbers(1)[0] }

// numbers reads the words, which must be so many numbers.
func (r *reader) numbers(many int) []int {
	if len(r.words) != many {
		giveUp()
	}
	var numbers []int
	for _, word := range r.words {
		numbers = append(numbers, numberOf(word))
	}
	return numbers
}

// numberOf returns the number that a word is.
func numberOf(word string) int {
	if word == "" || len(word) > mostDigits || word[0] == '0' && len(word) > 1 {
		giveUp()
	}
	n := 0
	for _, digit := range word {
		if digit < '0' || digit > '9' {
			giveUp()
		}
		n = 10*n + int(digit-'0')
	}
	return n
}

// wordOf returns the word of a vote that a word of a line stands for.
func wordOf(word string) string {
	if word == absent {
		return ""
	}
	if word == "" || !wordsFine(word) {
		giveUp()
	}
	return word
}
