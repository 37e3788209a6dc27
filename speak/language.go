package speak

import (
	"iter"
	"strconv"
	"strings"

	"talik/api"
)

// language is a language of the council.
type language interface {
	// ofClause returns the text of a clause.
	ofClause(c clause) string
	// ofOperands returns the text of an operand of some kind that has operands with some texts.
	ofOperands(kind api.SpeakKind, operands ...string) string
	// enclosed returns the text of an operand where it would be read otherwise, or not at all, if nothing stood around it.
	enclosed(text string) string
	// read returns the operand that words are, and gives up if they are none.
	read(words iter.Seq[string]) parts
	// ballot returns the words of votes.
	ballot(negative bool) ballot
}

// in returns the text of a motion in a language.
func (m motion) in(l language) string {
	// Kinds are numbered as they bind, so that greater ones than the loosest one must be enclosed.
	var write func(n node, loosest api.SpeakKind) string
	write = func(n node, loosest api.SpeakKind) string {
		kind, text := api.SpeakClause, ""
		switch n := n.(type) {
		case clause:
			text = l.ofClause(n)
		case not:
			kind = api.SpeakNot
			text = l.ofOperands(kind, write(n.of, api.SpeakNot))
		case and:
			kind = api.SpeakAnd
			text = l.ofOperands(kind, write(n.first, api.SpeakNot), write(n.second, api.SpeakAnd))
		case or:
			kind = api.SpeakOr
			text = l.ofOperands(kind, write(n.first, api.SpeakAnd), write(n.second, api.SpeakOr))
		}
		if kind > loosest {
			return l.enclosed(text)
		}
		return text
	}
	return write(m.tree, api.SpeakOr)
}

// lexicon is the words of a language.
type lexicon struct {
	acts     names
	things   names
	links    [api.SpeakOr + 1]string // of the kinds that have operands
	positive ballot                  // if the question is put in the positive
	negative ballot
}

// enclosed is for languages that can be read without brackets.
func (l lexicon) enclosed(text string) string { return text }

func (l lexicon) ballot(negative bool) ballot {
	if negative {
		return l.negative
	}
	return l.positive
}

// kindOf returns the kind for which a word stands; that of a clause if it is none of the links.
func (l lexicon) kindOf(word string) api.SpeakKind {
	for kind := api.SpeakNot; kind <= api.SpeakOr; kind++ {
		if l.links[kind] == word {
			return kind
		}
	}
	return api.SpeakClause
}

// wordsOf returns the words of a clause.
func (l lexicon) wordsOf(c clause) (act, number, thing string) {
	return l.acts.word(c.Act), strconv.Itoa(c.Number), l.things.word(c.Thing)
}

// clauseOf returns the clause with some words, and gives up if there is none.
func (l lexicon) clauseOf(act, number, thing string) parts {
	return parts{{Kind: api.SpeakClause, Act: l.acts.number(act), Number: numberOf(number), Thing: l.things.number(thing)}}
}

// names are the words of all acts, or of all things, which are numbered from 1 on.
type names struct {
	words   [kinds]string
	numbers map[string]int
}

func namesOf(words [kinds]string) names {
	numbers := map[string]int{}
	for i, word := range words {
		numbers[word] = i + 1
	}
	return names{words, numbers}
}

func (n names) word(number int) string { return n.words[number-1] }

// number returns the number of a word, and gives up if it is none of the words.
func (n names) number(word string) int {
	number, known := n.numbers[word]
	if !known {
		giveUp()
	}
	return number
}

// join puts words together.
func join(words ...string) string { return strings.Join(words, " ") }
