package speak

import (
	"iter"
	"slices"
	"strings"

	"talik/api"
)

// languages is how many languages there are.
const languages = 3

func isLanguage(n int) bool { return from(0, n, languages-1) }

// languageOf returns the language with a number.
func languageOf(number int) language {
	switch number {
	case 0:
		return infix{lexicon{
			acts:     namesOf([...]string{"build", "move", "close", "pay"}),
			things:   namesOf([...]string{"houses", "roads", "lakes", "pipes"}),
			links:    [...]string{api.SpeakNot: "not", api.SpeakAnd: "and", api.SpeakOr: "or"},
			positive: ballot{"", "yes", "no", "-"},
			negative: ballot{"", "yes", "no", "-"},
		}}
	case 1:
		return prefix{lexicon{
			acts:     namesOf([...]string{"rako", "siro", "sulo", "mako"}),
			things:   namesOf([...]string{"tupa", "reda", "lamu", "puta"}),
			links:    [...]string{api.SpeakNot: "ei", api.SpeakAnd: "ja", api.SpeakOr: "vai"},
			positive: ballot{"", "joo", "en", "-"},
			negative: ballot{"", "en", "joo", "-"},
		}}
	default:
		return postfix{lexicon{
			acts:     namesOf([...]string{"kir", "mel", "tor", "pan"}),
			things:   namesOf([...]string{"a", "e", "i", "o"}),
			links:    [...]string{api.SpeakNot: "ku", api.SpeakAnd: "le", api.SpeakOr: "no"},
			positive: ballot{"", "em", "om", "-"},
			negative: ballot{"", "um", "om", "-"},
		}}
	}
}

// infix is a language whose links stand before the last operand.
type infix struct{ lexicon }

func (l infix) ofClause(c clause) string {
	act, number, thing := l.wordsOf(c)
	return join(act, number, thing)
}

func (l infix) ofOperands(kind api.SpeakKind, operands ...string) string {
	last := len(operands) - 1
	return join(slices.Concat(operands[:last], []string{l.links[kind]}, operands[last:])...)
}

func (l infix) enclosed(text string) string { return join("(", text, ")") }

func (l infix) read(words iter.Seq[string]) parts {
	return l.operand(&reader{slices.Collect(words)}, api.SpeakOr)
}

// operand reads an operand that is enclosed if its kind is greater than the loosest one.
func (l infix) operand(r *reader, loosest api.SpeakKind) parts {
	if loosest == api.SpeakNot {
		return l.tight(r)
	}
	first := l.operand(r, loosest-1)
	if !r.takes(l.links[loosest]) {
		return first
	}
	second := l.operand(r, loosest)
	return whole(loosest, first, second)
}

// tight reads an operand that begins with no other one.
func (l infix) tight(r *reader) parts {
	if r.takes(l.links[api.SpeakNot]) {
		return whole(api.SpeakNot, l.tight(r))
	}
	if r.takes("(") {
		inner := l.operand(r, api.SpeakOr)
		if !r.takes(")") {
			giveUp()
		}
		return inner
	}
	act := r.next()
	number := r.next()
	thing := r.next()
	return l.clauseOf(act, number, thing)
}

// prefix is a language whose links stand before all operands.
type prefix struct{ lexicon }

func (l prefix) ofClause(c clause) string {
	act, number, thing := l.wordsOf(c)
	return join(thing, number, act)
}

func (l prefix) ofOperands(kind api.SpeakKind, operands ...string) string {
	return join(slices.Concat([]string{l.links[kind]}, operands)...)
}

func (l prefix) read(words iter.Seq[string]) parts {
	return l.operand(&reader{slices.Collect(words)})
}

func (l prefix) operand(r *reader) parts {
	word := r.next()
	kind := l.kindOf(word)
	if kind == api.SpeakClause {
		number := r.next()
		act := r.next()
		return l.clauseOf(act, number, word)
	}
	var operands []parts
	for range operandsOf(kind) {
		operands = append(operands, l.operand(r))
	}
	return whole(kind, operands...)
}

// postfix is a language whose links stand after all operands.
type postfix struct{ lexicon }

func (l postfix) ofClause(c clause) string {
	act, number, thing := l.wordsOf(c)
	return act + number + thing
}

func (l postfix) ofOperands(kind api.SpeakKind, operands ...string) string {
	return join(slices.Concat(operands, []string{l.links[kind]})...)
}

func (l postfix) read(words iter.Seq[string]) parts {
	var operands []parts // those that are of no other one yet
	for word := range words {
		kind := l.kindOf(word)
		if kind == api.SpeakClause {
			operands = append(operands, l.oneWord(word))
			continue
		}
		before := len(operands) - operandsOf(kind)
		if before < 0 {
			giveUp()
		}
		last := whole(kind, operands[before:]...)
		operands = append(operands[:before], last)
	}
	return slices.Concat(operands...)
}

// oneWord returns the clause of a word.
func (l postfix) oneWord(word string) parts {
	begin, last := strings.IndexAny(word, digits), strings.LastIndexAny(word, digits)
	if begin < 0 {
		giveUp()
	}
	return l.clauseOf(word[:begin], word[begin:last+1], word[last+1:])
}
