package speak

import (
	"slices"

	"talik/api"
)

// parts are some of a motion, in prefix order.
type parts []api.SpeakPart

// whole returns an operand that has others.
func whole(kind api.SpeakKind, operands ...parts) parts {
	return slices.Concat(parts{{Kind: kind}}, slices.Concat(operands...))
}

// operandsOf returns how many operands a kind of parts has.
func operandsOf(kind api.SpeakKind) int {
	switch kind {
	case api.SpeakNot:
		return 1
	case api.SpeakAnd, api.SpeakOr:
		return 2
	}
	return 0
}

func (p parts) long() bool { return len(p) > api.SpeakParts }

// fine reports whether parts are exactly one operand.
func (p parts) fine() bool {
	missing := 1
	for _, part := range p {
		if missing == 0 || !partFine(part) {
			return false
		}
		missing += operandsOf(part.Kind) - 1
	}
	return missing == 0
}

func partFine(p api.SpeakPart) bool {
	switch p.Kind {
	case api.SpeakClause:
		return deedFine(deedOf(p))
	case api.SpeakNot, api.SpeakAnd, api.SpeakOr:
		return deedOf(p) == api.SpeakDeed{}
	}
	return false
}

// deedOf returns what a clause asks for.
func deedOf(p api.SpeakPart) api.SpeakDeed {
	return api.SpeakDeed{Act: p.Act, Number: p.Number, Thing: p.Thing}
}

// clauses returns what all clauses ask for, in their order.
func (p parts) clauses() []api.SpeakDeed {
	var all []api.SpeakDeed
	for _, part := range p {
		if part.Kind == api.SpeakClause {
			all = append(all, deedOf(part))
		}
	}
	return all
}

// motion is a motion that is read: its parts, and the tree that they are.
type motion struct {
	parts
	tree node
}

// look reads parts that are fine.
func look(p parts) motion {
	tree, _ := grow(p)
	return motion{p, tree}
}

// grow returns the operand with which parts begin, and the parts after it.
func grow(p parts) (node, parts) {
	part, rest := p[0], p[1:]
	switch part.Kind {
	case api.SpeakClause:
		return clause(deedOf(part)), rest
	case api.SpeakNot:
		of, rest := grow(rest)
		return not{of}, rest
	}
	first, rest := grow(rest)
	second, rest := grow(rest)
	if part.Kind == api.SpeakAnd {
		return and{first, second}, rest
	}
	return or{first, second}, rest
}

// node is an operand.
type node interface {
	holds(deeds []api.SpeakDeed) bool
}

type (
	clause api.SpeakDeed
	not    struct{ of node }
	and    struct{ first, second node }
	or     struct{ first, second node }
)

func (c clause) holds(deeds []api.SpeakDeed) bool {
	return slices.ContainsFunc(deeds, func(d api.SpeakDeed) bool {
		return d.Act == c.Act && d.Thing == c.Thing && d.Number >= c.Number
	})
}

func (n not) holds(deeds []api.SpeakDeed) bool { return !n.of.holds(deeds) }

func (n and) holds(deeds []api.SpeakDeed) bool { return n.first.holds(deeds) && n.second.holds(deeds) }

func (n or) holds(deeds []api.SpeakDeed) bool { return n.first.holds(deeds) || n.second.holds(deeds) }
