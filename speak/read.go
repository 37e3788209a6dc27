package speak

import (
	"iter"
	"strings"

	"talik/api"
)

const digits = "0123456789"

// noText is the panic of a reader whose text is that of no motion.
type noText struct{}

func giveUp() { panic(noText{}) }

// read returns the motion of a text in a language.
func read(text string, l language) (m motion, e api.Errno) {
	defer func() {
		if _, is := recover().(noText); is {
			m, e = motion{}, api.ErrText
		}
	}()
	p := l.read(wordsOf(text))
	if p.long() || !p.fine() {
		giveUp()
	}
	m = look(p)
	if m.in(l) != text { // as with a needless bracket, a zero in front, or a word too many
		giveUp()
	}
	return m, api.OK
}

// wordsOf goes through the words of a text.
func wordsOf(text string) iter.Seq[string] {
	return func(yield func(string) bool) {
		rest, more := text, true
		for more {
			var word string
			word, rest, more = strings.Cut(rest, " ")
			if !yield(word) {
				return
			}
		}
	}
}

// reader reads words from the front.
type reader struct{ words []string }

// takes reports whether the next word is some word, and reads it if so.
func (r *reader) takes(word string) bool {
	if len(r.words) == 0 || r.words[0] != word {
		return false
	}
	r.next()
	return true
}

// next reads the next word.
func (r *reader) next() string {
	if len(r.words) == 0 {
		giveUp()
	}
	word := r.words[0]
	r.words = r.words[1:]
	return word
}

// numberOf returns the number with some digits, and gives up if they are too many, or no digits.
func numberOf(text string) int {
	n := 0
	for _, digit := range text {
		if digit < '0' || digit > '9' {
			giveUp()
		}
		n = 10*n + int(digit-'0')
		if n > api.SpeakNumber {
			giveUp()
		}
	}
	return n
}
