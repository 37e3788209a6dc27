package speak

import (
	"math/rand/v2"
	"slices"
	"strconv"
	"strings"

	"talik/api"
)

// source returns a source of numbers that are the same in each run.
func source() *rand.Rand { return rand.New(rand.NewPCG(1, 2)) }

// upTo returns some number from low to high.
func upTo(r *rand.Rand, low, high int) int { return low + r.IntN(high-low+1) }

// namesIn returns the names of some things in order.
func namesIn[T any](things map[string]T) []string {
	var all []string
	for name := range things {
		all = append(all, name)
	}
	slices.Sort(all)
	return all
}

// The numbers of acts and things.
const (
	build, move, shut, pay         = 1, 2, 3, 4
	houses, roads, lakes, conduits = 1, 2, 3, 4
)

func do(act, number, thing int) []api.SpeakPart {
	return []api.SpeakPart{{Kind: api.SpeakClause, Act: act, Number: number, Thing: thing}}
}

func linked(kind api.SpeakKind, operands ...[]api.SpeakPart) []api.SpeakPart {
	list := []api.SpeakPart{{Kind: kind}}
	for _, o := range operands {
		list = append(list, o...)
	}
	return list
}

func deny(m []api.SpeakPart) []api.SpeakPart { return linked(api.SpeakNot, m) }

func both(m, n []api.SpeakPart) []api.SpeakPart { return linked(api.SpeakAnd, m, n) }

func either(m, n []api.SpeakPart) []api.SpeakPart { return linked(api.SpeakOr, m, n) }

func done(act, number, thing int) api.SpeakDeed {
	return api.SpeakDeed{Act: act, Number: number, Thing: thing}
}

// motionM returns the motion m of the chapter's examples.
func motionM() []api.SpeakPart {
	return either(both(do(build, 3, houses), deny(do(shut, 2, roads))), do(pay, 5, lakes))
}

// councilC returns the council c of the chapter's examples.
func councilC() api.SpeakCouncil {
	return api.SpeakCouncil{Languages: []int{0, 0, 1, 1, 2, 2}, Quorum: 4, Rule: api.SpeakSimple, Negative: [3]bool{false, true, true}}
}

// riverR returns the river of the chapter's examples.
func riverR() []api.SpeakSpot {
	return []api.SpeakSpot{{Kind: 1, Left: true}, {Kind: 2}, {Kind: 3, Left: true}, {Kind: 2, Left: true}, {Kind: 1}, {Kind: 2}, {Kind: 3, Left: true}}
}

// chain returns a motion with so many clauses in a row, each joined to those after it, or to those before it.
func chain(kind api.SpeakKind, clauses int, before bool) []api.SpeakPart {
	m := do(build, 1, houses)
	for i := range clauses - 1 {
		clause := do(1+(i+1)/4%4, 1+(i+1)/16, 1+(i+1)%4)
		if before {
			m = linked(kind, m, clause)
		} else {
			m = linked(kind, clause, m)
		}
	}
	return m
}

// longest returns a motion of as many parts as are allowed, all of whose operands stand in brackets, where they can.
func longest() []api.SpeakPart {
	m := do(shut, 99, houses)
	for i := range 15 {
		if i%2 == 0 {
			m = either(m, do(shut, 99, houses))
		} else {
			m = both(m, do(shut, 99, houses))
		}
	}
	return m
}

// badMotions returns lists that are no motions, each for one reason.
func badMotions() map[string][]api.SpeakPart {
	a := do(build, 3, houses)
	all := map[string][]api.SpeakPart{
		"nothing":               nil,
		"two operands":          slices.Concat(a, a),
		"an operand more":       slices.Concat(motionM(), a),
		"a link more":           slices.Concat(a, deny(nil)),
		"not of nothing":        deny(nil),
		"and of nothing":        both(nil, nil),
		"and of one":            both(a, nil),
		"or of one":             either(a, nil),
		"or of three":           slices.Concat(either(a, a), a),
		"not of two":            slices.Concat(deny(a), a),
		"the first one is less": either(both(a, nil), a)[:3],
		"postfix":               slices.Concat(a, a, both(nil, nil)),
	}
	for _, kind := range []api.SpeakKind{-1, 0, 5, 6} {
		all["kind "+strconv.Itoa(int(kind))] = []api.SpeakPart{{Kind: kind}}
		all["a clause of kind "+strconv.Itoa(int(kind))] = []api.SpeakPart{{Kind: kind, Act: 1, Number: 1, Thing: 1}}
		all["an operand of kind "+strconv.Itoa(int(kind))] = both(a, []api.SpeakPart{{Kind: kind}})
	}
	for name, d := range badDeeds() {
		all["a clause of "+name] = do(d.Act, d.Number, d.Thing)
		all["an operand with "+name] = both(a, deny(do(d.Act, d.Number, d.Thing)))
	}
	for _, m := range [][]api.SpeakPart{deny(a), both(a, a), either(a, a)} {
		for name, d := range map[string]api.SpeakDeed{"act": {Act: 1}, "number": {Number: 1}, "thing": {Thing: 1}, "number below": {Number: -1}} {
			bad := slices.Clone(m)
			bad[0].Act, bad[0].Number, bad[0].Thing = d.Act, d.Number, d.Thing
			all["kind "+strconv.Itoa(int(m[0].Kind))+" with "+name] = bad
		}
	}
	return all
}

// badDeeds returns deeds that are not as defined, each for one reason.
func badDeeds() map[string]api.SpeakDeed {
	return map[string]api.SpeakDeed{
		"nothing":    {},
		"act 0":      done(0, 3, 1),
		"act 5":      done(5, 3, 1),
		"act -1":     done(-1, 3, 1),
		"number 0":   done(1, 0, 1),
		"number 100": done(1, 100, 1),
		"number -1":  done(1, -1, 1),
		"thing 0":    done(1, 3, 0),
		"thing 5":    done(1, 3, 5),
		"thing -1":   done(1, 3, -1),
	}
}

// someMotion returns a motion of at most so many parts, with acts, things and numbers up to some.
func someMotion(r *rand.Rand, most, acts, things, numbers int) []api.SpeakPart {
	switch kind := r.IntN(6); {
	case kind > 1 && most >= 3:
		one := someMotion(r, upTo(r, 1, most-2), acts, things, numbers)
		other := someMotion(r, most-1-len(one), acts, things, numbers)
		if kind%2 == 0 {
			return both(one, other)
		}
		return either(one, other)
	case kind == 1 && most >= 2:
		return deny(someMotion(r, most-1, acts, things, numbers))
	}
	return do(upTo(r, 1, acts), upTo(r, 1, numbers), upTo(r, 1, things))
}

// large returns a motion of many parts.
func large(r *rand.Rand) []api.SpeakPart {
	for {
		if m := someMotion(r, api.SpeakParts, 4, 4, api.SpeakNumber); len(m) > 10 {
			return m
		}
	}
}

func someDeeds(r *rand.Rand, most, acts, things, numbers int) []api.SpeakDeed {
	var deeds []api.SpeakDeed
	for range upTo(r, 0, most) {
		deeds = append(deeds, done(upTo(r, 1, acts), upTo(r, 1, numbers), upTo(r, 1, things)))
	}
	return deeds
}

// slow is an operand as the chapter describes it.
type slow struct {
	api.SpeakPart
	operands []slow
}

// slowOf returns the operand that a list is, and whether it is any: it looks at all places where a first operand could end.
func slowOf(list []api.SpeakPart) (slow, bool) {
	known := map[[2]int]bool{}
	var find func(from, to int) (slow, bool)
	find = func(from, to int) (slow, bool) {
		if from >= to || known[[2]int{from, to}] { // known to be none
			return slow{}, false
		}
		s := slow{SpeakPart: list[from]}
		switch s.Kind {
		case api.SpeakClause:
			if to-from == 1 {
				return s, s.Act >= 1 && s.Act <= 4 && s.Thing >= 1 && s.Thing <= 4 && s.Number >= 1 && s.Number <= 99
			}
		case api.SpeakNot:
			if of, is := find(from+1, to); is && s.Act == 0 && s.Number == 0 && s.Thing == 0 {
				s.operands = []slow{of}
				return s, true
			}
		case api.SpeakAnd, api.SpeakOr:
			for middle := from + 2; middle < to; middle++ {
				one, first := find(from+1, middle)
				other, second := find(middle, to)
				if first && second && s.Act == 0 && s.Number == 0 && s.Thing == 0 {
					s.operands = []slow{one, other}
					return s, true
				}
			}
		}
		known[[2]int{from, to}] = true
		return slow{}, false
	}
	return find(0, len(list))
}

func mustSlow(list []api.SpeakPart) slow {
	s, is := slowOf(list)
	if !is {
		panic("no motion")
	}
	return s
}

// list returns the parts of an operand.
func (s slow) list() []api.SpeakPart {
	list := []api.SpeakPart{s.SpeakPart}
	for _, o := range s.operands {
		list = append(list, o.list()...)
	}
	return list
}

// exchanged returns a motion of which the operands were exchanged here and there.
func exchanged(r *rand.Rand, m []api.SpeakPart) []api.SpeakPart {
	var exchange func(s slow) []api.SpeakPart
	exchange = func(s slow) []api.SpeakPart {
		switch s.Kind {
		case api.SpeakNot:
			return deny(exchange(s.operands[0]))
		case api.SpeakAnd, api.SpeakOr:
			one, other := exchange(s.operands[0]), exchange(s.operands[1])
			if r.IntN(2) == 0 {
				one, other = other, one
			}
			return linked(s.Kind, one, other)
		}
		return s.list()
	}
	return exchange(mustSlow(m))
}

func (s slow) holds(deeds []api.SpeakDeed) bool {
	switch s.Kind {
	case api.SpeakNot:
		return !s.operands[0].holds(deeds)
	case api.SpeakAnd:
		return s.operands[0].holds(deeds) && s.operands[1].holds(deeds)
	case api.SpeakOr:
		return s.operands[0].holds(deeds) || s.operands[1].holds(deeds)
	}
	for _, d := range deeds {
		if d.Act == s.Act && d.Thing == s.Thing && d.Number >= s.Number {
			return true
		}
	}
	return false
}

// clauseText returns the text of a clause.
func clauseText(act, number, thing, language int) string {
	n := strconv.Itoa(number)
	switch language {
	case 0:
		return strings.Fields("build move close pay")[act-1] + " " + n + " " + strings.Fields("houses roads lakes pipes")[thing-1]
	case 1:
		return strings.Fields("tupa reda lamu puta")[thing-1] + " " + n + " " + strings.Fields("rako siro sulo mako")[act-1]
	}
	return strings.Fields("kir mel tor pan")[act-1] + n + strings.Fields("a e i o")[thing-1]
}

// linkWords are the words of SpeakNot, SpeakAnd and SpeakOr.
var linkWords = [3][]string{{"not", "and", "or"}, {"ei", "ja", "vai"}, {"ku", "le", "no"}}

// stands reports whether an operand of a kind stands in brackets as an operand, counted from 0 on, of one of another kind.
func stands(kind, of api.SpeakKind, number int) bool {
	if kind == api.SpeakAnd || kind == api.SpeakOr {
		if of == api.SpeakNot || of == api.SpeakAnd && number == 0 {
			return true
		}
	}
	if kind == api.SpeakOr {
		if of == api.SpeakAnd && number == 1 || of == api.SpeakOr && number == 0 {
			return true
		}
	}
	return false
}

// text returns the text of an operand.
func (s slow) text(language int) string {
	if s.Kind == api.SpeakClause {
		return clauseText(s.Act, s.Number, s.Thing, language)
	}
	var texts []string
	for i, o := range s.operands {
		text := o.text(language)
		if language == 0 && stands(o.Kind, s.Kind, i) {
			text = "( " + text + " )"
		}
		texts = append(texts, text)
	}
	word := linkWords[language][s.Kind-api.SpeakNot]
	switch {
	case language == 1 || language == 0 && len(texts) == 1:
		return word + " " + strings.Join(texts, " ")
	case language == 2:
		return strings.Join(texts, " ") + " " + word
	}
	return texts[0] + " " + word + " " + texts[1]
}

// slowReader finds all motions with some text, however it can be cut into operands.
type slowReader struct {
	words    []string
	language int
	known    map[[2]int][]slow
}

// slowRead returns all motions with a text.
func slowRead(text string, language int) [][]api.SpeakPart {
	r := slowReader{strings.Split(text, " "), language, map[[2]int][]slow{}}
	var all [][]api.SpeakPart
	for _, s := range r.find(0, len(r.words)) {
		if list := s.list(); len(list) <= 31 {
			all = append(all, list)
		}
	}
	return all
}

func (r slowReader) find(from, to int) []slow {
	if all, known := r.known[[2]int{from, to}]; known || from >= to {
		return all
	}
	all := r.clauses(strings.Join(r.words[from:to], " "), to-from)
	for i, word := range linkWords[r.language] {
		all = append(all, r.linked(from, to, word, api.SpeakNot+api.SpeakKind(i))...)
	}
	r.known[[2]int{from, to}] = all
	return all
}

// clauses returns the clause with a text of so many words, if there is one.
func (r slowReader) clauses(text string, words int) []slow {
	if clause, is := allClauses[r.language][text]; is && (words == 1) == (r.language == 2) {
		return []slow{{SpeakPart: clause}}
	}
	return nil
}

// allClauses are all clauses in each language, by their texts.
var allClauses = func() (all [3]map[string]api.SpeakPart) {
	for language := range all {
		all[language] = map[string]api.SpeakPart{}
		for i := range 4 * 4 * 99 {
			act, thing, number := 1+i%4, 1+i/4%4, 1+i/16
			all[language][clauseText(act, number, thing, language)] = do(act, number, thing)[0]
		}
	}
	return all
}()

// linked returns the operands of some words that have others.
func (r slowReader) linked(from, to int, word string, kind api.SpeakKind) []slow {
	var all []slow
	add := func(operands ...[]slow) {
		for _, first := range operands[0] {
			if len(operands) == 1 {
				all = append(all, slow{api.SpeakPart{Kind: kind}, []slow{first}})
				continue
			}
			for _, second := range operands[1] {
				all = append(all, slow{api.SpeakPart{Kind: kind}, []slow{first, second}})
			}
		}
	}
	begins, ends := r.words[from] == word, r.words[to-1] == word
	switch {
	case kind == api.SpeakNot && r.language == 2 && ends:
		add(r.find(from, to-1))
	case kind == api.SpeakNot && r.language != 2 && begins:
		add(r.within(from+1, to, kind, 0))
	case kind == api.SpeakNot:
	case r.language == 1 && begins:
		for middle := from + 2; middle < to; middle++ {
			add(r.find(from+1, middle), r.find(middle, to))
		}
	case r.language == 2 && ends:
		for middle := from + 1; middle < to-1; middle++ {
			add(r.find(from, middle), r.find(middle, to-1))
		}
	case r.language == 0:
		for middle := from + 1; middle < to-1; middle++ {
			if r.words[middle] == word {
				add(r.within(from, middle, kind, 0), r.within(middle+1, to, kind, 1))
			}
		}
	}
	return all
}

// within returns the operands of some words, with brackets where they stand in some.
func (r slowReader) within(from, to int, of api.SpeakKind, number int) []slow {
	var all []slow
	for _, s := range r.find(from, to) {
		if r.language != 0 || !stands(s.Kind, of, number) {
			all = append(all, s)
		}
	}
	if r.language == 0 && to-from > 2 && r.words[from] == "(" && r.words[to-1] == ")" {
		for _, s := range r.find(from+1, to-1) {
			if stands(s.Kind, of, number) {
				all = append(all, s)
			}
		}
	}
	return all
}

// clausesOf returns the clauses of motions as deeds.
func clausesOf(motions ...[]api.SpeakPart) []api.SpeakDeed {
	var all []api.SpeakDeed
	for _, m := range motions {
		for _, p := range m {
			if d := done(p.Act, p.Number, p.Thing); p.Kind == api.SpeakClause && !slices.Contains(all, d) {
				all = append(all, d)
			}
		}
	}
	return all
}

// slowApart returns the deeds that tell two motions apart: it sorts all choices.
func slowApart(m, n []api.SpeakPart) ([]api.SpeakDeed, api.Errno) {
	clauses := clausesOf(m, n)
	if len(clauses) > 10 {
		return nil, api.ErrOpen
	}
	one, other := mustSlow(m), mustSlow(n)
	var found [][16]int // the numbers of all pairs, the pair of the first act and the first thing in front
	for set := range 1 << len(clauses) {
		choice, is := choiceOf(clauses, set)
		if deeds := deedsOf(choice); is && one.holds(deeds) != other.holds(deeds) {
			found = append(found, choice)
		}
	}
	if len(found) == 0 {
		return nil, api.ErrNone
	}
	slices.SortFunc(found, func(a, b [16]int) int { return slices.Compare(a[:], b[:]) })
	return deedsOf(found[0]), api.OK
}

// choiceOf returns the choice of a set of clauses, and whether it has at most one for each pair.
func choiceOf(clauses []api.SpeakDeed, set int) ([16]int, bool) {
	var choice [16]int
	for i, d := range clauses {
		if set>>i&1 == 1 {
			pair := 4*(d.Act-1) + d.Thing - 1
			if choice[pair] != 0 {
				return choice, false
			}
			choice[pair] = d.Number
		}
	}
	return choice, true
}

func deedsOf(choice [16]int) []api.SpeakDeed {
	var deeds []api.SpeakDeed
	for pair, number := range choice {
		if number > 0 {
			deeds = append(deeds, done(1+pair/4, number, 1+pair%4))
		}
	}
	return deeds
}

// said is a word of a vote, the language of its member, and how the question was put.
type said struct {
	language int
	word     string
	negative bool
}

// slowMeaning is the chapter's table; what is not in it means neither, or is absent.
func slowMeaning(s said) string {
	table := map[said]string{
		{0, "yes", false}: "for", {0, "yes", true}: "for",
		{0, "no", false}: "against", {0, "no", true}: "against",
		{1, "joo", false}: "for", {1, "joo", true}: "against",
		{1, "en", false}: "against", {1, "en", true}: "for",
		{2, "em", false}: "for",
		{2, "om", false}: "against", {2, "om", true}: "against",
		{2, "um", true}: "for",
	}
	if meaning, is := table[s]; is {
		return meaning
	}
	if s.word == "" {
		return "absent"
	}
	return "neither"
}

// slowCount counts as the chapter says.
func slowCount(c api.SpeakCouncil, words []string) api.SpeakResult {
	number, inLanguage := map[string]int{}, [3]map[string]int{{}, {}, {}}
	for i, word := range words {
		l := c.Languages[i]
		meaning := slowMeaning(said{l, word, c.Negative[l]})
		number[meaning]++
		inLanguage[l][meaning]++
	}
	x := api.SpeakResult{For: number["for"], Against: number["against"], Rest: number["neither"], Absent: number["absent"]}
	x.Passed = len(words)-x.Absent >= c.Quorum && x.For >= 1
	switch c.Rule {
	case api.SpeakSimple:
		x.Passed = x.Passed && x.For > x.Against
	case api.SpeakThirds:
		x.Passed = x.Passed && 3*x.For >= 2*(x.For+x.Against)
	case api.SpeakGroups:
		for _, n := range inLanguage {
			if n["for"]+n["against"]+n["neither"] > 0 && n["for"] <= n["against"] {
				x.Passed = false
			}
		}
	}
	return x
}

var voteWords = []string{"yes", "no", "joo", "en", "em", "om", "um", "-", "", "maybe", "Yes", "yes ", "\x00", "for"}

func someCouncil(r *rand.Rand) api.SpeakCouncil {
	c := api.SpeakCouncil{Rule: api.SpeakRule(upTo(r, 1, 3))}
	for range max(upTo(r, 1, 12), upTo(r, 1, 12)) {
		c.Languages = append(c.Languages, upTo(r, 0, 2))
	}
	c.Quorum = min(upTo(r, 0, 12), upTo(r, 0, len(c.Languages)))
	for i := range c.Negative {
		c.Negative[i] = r.IntN(2) == 0
	}
	return c
}

// someWords returns words of all members, most of which are words of their languages.
func someWords(r *rand.Rand, c api.SpeakCouncil) []string {
	var words []string
	for _, language := range c.Languages {
		word := [3][]string{{"yes", "no", "yes"}, {"joo", "en", "joo"}, {"em", "om", "um"}}[language][r.IntN(3)]
		if r.IntN(4) == 0 {
			word = voteWords[r.IntN(len(voteWords))]
		}
		words = append(words, word)
	}
	return words
}

// badCouncils returns councils that are not as defined, each for one reason, but for how many members they have.
func badCouncils() map[string]api.SpeakCouncil {
	all := map[string]api.SpeakCouncil{"nothing": {}}
	change := func(name string, do func(c *api.SpeakCouncil)) {
		c := councilC()
		do(&c)
		all[name] = c
	}
	change("no members", func(c *api.SpeakCouncil) { c.Languages = nil })
	change("13 members", func(c *api.SpeakCouncil) { c.Languages = make([]int, 13) })
	change("language -1", func(c *api.SpeakCouncil) { c.Languages[0] = -1 })
	change("language 3", func(c *api.SpeakCouncil) { c.Languages[5] = 3 })
	change("quorum -1", func(c *api.SpeakCouncil) { c.Quorum = -1 })
	change("quorum 13", func(c *api.SpeakCouncil) { c.Quorum = 13 })
	change("rule -1", func(c *api.SpeakCouncil) { c.Rule = -1 })
	change("rule 0", func(c *api.SpeakCouncil) { c.Rule = 0 })
	change("rule 4", func(c *api.SpeakCouncil) { c.Rule = 4 })
	return all
}

func someRiver(r *rand.Rand) []api.SpeakSpot {
	var spots []api.SpeakSpot
	kinds := upTo(r, 1, 4)
	for range max(upTo(r, 0, 20), upTo(r, 0, 20)) {
		spots = append(spots, api.SpeakSpot{Kind: upTo(r, 1, kinds), Left: r.IntN(2) == 0})
	}
	return spots
}

func someSteps(r *rand.Rand) []api.SpeakStep {
	var steps []api.SpeakStep
	for range upTo(r, 0, 5) {
		count := min(upTo(r, 1, 9), upTo(r, 1, 9), upTo(r, 1, 5))
		steps = append(steps, api.SpeakStep{Count: count, Kind: upTo(r, 1, 3), Up: r.IntN(2) == 0, Bank: max(0, upTo(r, -3, 2))})
	}
	return steps
}

// walk returns where somebody is who goes steps from a spot, and whether they can.
func walk(spots []api.SpeakSpot, at int, steps []api.SpeakStep) (int, bool) {
	for _, s := range steps {
		way := -1
		if s.Up {
			way = 1
		}
		for seen := 0; seen < s.Count; {
			at += way
			if at < 0 || at >= len(spots) {
				return 0, false
			}
			if spots[at].Kind == s.Kind {
				seen++
			}
		}
		if s.Bank == 1 && !spots[at].Left || s.Bank == 2 && spots[at].Left {
			return 0, false
		}
	}
	return at, true
}

// slowFind sends somebody from each spot of a kind.
func slowFind(spots []api.SpeakSpot, kind int, steps []api.SpeakStep) []int {
	var ends []int
	for at, s := range spots {
		if s.Kind != kind {
			continue
		}
		if end, can := walk(spots, at, steps); can && !slices.Contains(ends, end) {
			ends = append(ends, end)
		}
	}
	slices.Sort(ends)
	return ends
}
