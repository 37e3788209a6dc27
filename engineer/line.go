package engineer

import (
	"iter"
	"strconv"
	"strings"

	"talik/api"
)

// absent stands in a line for the empty word of a vote.
const absent = "*"

// linesOf goes through the lines of a text, each with whether a line feed ends it. An empty text after the last line feed is none.
func linesOf(text string) iter.Seq2[string, bool] {
	return func(yield func(string, bool) bool) {
		rest := text
		for rest != "" {
			var line string
			var ended bool
			line, rest, ended = strings.Cut(rest, "\n")
			if !yield(line, ended) {
				return
			}
		}
	}
}

// doAgain does a line of a journal.
func (e *Engineer) doAgain(line string, ended bool) api.Errno {
	if !ended {
		return api.ErrText
	}
	if len(line) > api.EngineerLine {
		return api.ErrLong
	}
	a, bad := read(line, acts())
	if bad != api.OK {
		return bad
	}
	return e.do(a)
}

// answer does a line, and returns what a console shows of it.
func (e *Engineer) answer(line string) string {
	told, bad := e.Do(line)
	switch {
	case bad != api.OK:
		return lineWith("error", int(bad))
	case told == "":
		return "ok"
	}
	return told
}

// lineOf returns the line of an act.
func lineOf(a act) string {
	switch a := a.(type) {
	case ending:
		return lineWith("summer", a.summer, a.winter, a.snow)
	case jacking:
		return lineWith("jack", a.pile)
	case voting:
		return lineOfVotes(a.words)
	case buying:
		return lineWith("buy", a.site)
	case breaking:
		return lineWith("break", a.site)
	case mending:
		return lineWith("mend", a.site)
	case noting:
		return lineWith("read", a.Sensor, a.Week, a.Temp)
	case failing:
		return lineWith("fail", a.loop)
	case fixing:
		return lineWith("fix", a.loop)
	case ordering:
		return lineWith("order", a.ship)
	}
	return ""
}

func lineOfVotes(words []string) string {
	line := "vote"
	for _, word := range words {
		if word == "" {
			word = absent
		}
		line += " " + word
	}
	return line
}

// lineWith returns the line of a word and numbers.
func lineWith(word string, numbers ...int) string { return word + " " + textOf(numbers...) }

// textOf returns the text of numbers.
func textOf(numbers ...int) string {
	var words []string
	for _, n := range numbers {
		words = append(words, strconv.Itoa(n))
	}
	return strings.Join(words, " ")
}
