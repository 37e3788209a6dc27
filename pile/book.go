package pile

import (
	"slices"
	"strconv"
	"strings"

	"talik/api"
)

const (
	mostDigits   = 9
	checkModulus = 997
)

// Print returns the text of a level book.
func Print(levels [][]int) (string, api.Errno) {
	if !bookFine(levels) {
		return "", api.ErrArg
	}
	text := line("levels", len(levels), len(levels[0]))
	for year, row := range levels {
		text += line("year", slices.Concat([]int{year}, row)...)
	}
	return text + "end " + checkOf(levels) + "\n", api.OK
}

// Read returns the levels of a level book.
func Read(text string) (levels [][]int, e api.Errno) {
	if len(text) > api.PileText {
		return nil, api.ErrLong
	}
	defer func() {
		if _, is := recover().(noBook); is {
			levels, e = nil, api.ErrText
		}
	}()
	levels = readAll(text)
	if !bookFine(levels) {
		return nil, api.ErrArg
	}
	return levels, api.OK
}

// bookFine reports whether levels are a level book.
func bookFine(levels [][]int) bool {
	if !from(1, len(levels), api.PileYears) || !from(1, len(levels[0]), api.PilePiles) {
		return false
	}
	for _, row := range levels {
		if len(row) != len(levels[0]) {
			return false
		}
		for _, level := range row {
			if !from(-api.PileLevel, level, api.PileLevel) {
				return false
			}
		}
	}
	return true
}

// line returns a line of a book.
func line(word string, numbers ...int) string {
	for _, n := range numbers {
		word += " " + strconv.Itoa(n)
	}
	return word + "\n"
}

// checkOf returns the digits of the check of levels, however great these are.
func checkOf(levels [][]int) string {
	sum := 0
	for year, row := range levels {
		for pile, level := range row {
			counted := 2 * level
			if level < 0 {
				counted = -2*level + 1
			}
			sum = (sum + counted*(pile+1)*(year+1)) % checkModulus
		}
	}
	return strconv.Itoa(1000 + sum)[1:]
}

// noBook is the panic of a reader whose text is no book.
type noBook struct{}

func giveUp() { panic(noBook{}) }

// reader is what was read of a book.
type reader struct {
	years  int // as the first line says; -1 before it
	piles  int
	levels [][]int
	ended  bool
}

// readAll returns the levels of a text that has the form of a book, and gives up otherwise.
func readAll(text string) [][]int {
	readers := map[string]func(r *reader, words []string){
		"levels": (*reader).first,
		"year":   (*reader).year,
		"end":    (*reader).end,
	}
	r := &reader{years: -1}
	for !r.ended {
		before, after, found := strings.Cut(text, "\n")
		words := strings.Split(before, " ")
		read, known := readers[words[0]]
		if !found || !known {
			giveUp()
		}
		read(r, words[1:])
		text = after
	}
	if text != "" {
		giveUp()
	}
	return r.levels
}

func (r *reader) first(words []string) {
	if r.years != -1 || len(words) != 2 {
		giveUp()
	}
	r.years, r.piles = number(words[0]), number(words[1])
}

func (r *reader) year(words []string) {
	year := len(r.levels)
	if year >= r.years || len(words) != 1+r.piles || words[0] != strconv.Itoa(year) {
		giveUp()
	}
	var row []int
	for _, word := range words[1:] {
		row = append(row, level(word))
	}
	r.levels = append(r.levels, row)
}

func (r *reader) end(words []string) {
	if len(r.levels) != r.years || len(words) != 1 || words[0] != checkOf(r.levels) {
		giveUp()
	}
	r.ended = true
}

// level returns the level that a word is.
func level(word string) int {
	digits, below := strings.CutPrefix(word, "-")
	n := number(digits)
	if !below {
		return n
	}
	if n == 0 {
		giveUp()
	}
	return -n
}

// number returns the number that a word is.
func number(word string) int {
	if word == "" || len(word) > mostDigits || word[0] == '0' && len(word) > 1 {
		giveUp()
	}
	n := 0
	for i := range len(word) {
		if word[i] < '0' || word[i] > '9' {
			giveUp()
		}
		n = 10*n + int(word[i]-'0')
	}
	return n
}
