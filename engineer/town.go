package engineer

import (
	"slices"

	"talik/api"
	"talik/ground"
)

// townOf returns a copy of a town that shares no memory with it.
func townOf(t api.EngineerTown) api.EngineerTown {
	t.Place.Layers = slices.Clone(t.Place.Layers)
	t.Years = slices.Clone(t.Years)
	t.Site.Piles = slices.Clone(t.Site.Piles)
	t.Site.Pairs = slices.Clone(t.Site.Pairs)
	t.Site.Rows = slices.Clone(t.Site.Rows)
	t.Cool.Houses = slices.Clone(t.Cool.Houses)
	t.Cool.Sites = slices.Clone(t.Cool.Sites)
	for i, site := range t.Cool.Sites {
		t.Cool.Sites[i].Gives = slices.Clone(site.Gives)
	}
	t.Net.Loops = slices.Clone(t.Net.Loops)
	t.Net.Frost = slices.Clone(t.Net.Frost)
	t.Net.Ways = listsOf(t.Net.Ways)
	t.String.At = slices.Clone(t.String.At)
	t.Store.Ships = slices.Clone(t.Store.Ships)
	t.Store.Ices = listsOf(t.Store.Ices)
	t.Store.Winters = listsOf(t.Store.Winters)
	t.Council.Languages = slices.Clone(t.Council.Languages)
	return t
}

// listsOf returns a copy of lists that shares no memory with them.
func listsOf[T any](lists [][]T) [][]T {
	var copies [][]T
	for _, list := range lists {
		copies = append(copies, slices.Clone(list))
	}
	return copies
}

// thawsOfPiles returns between which bounds the depth of thaw lies at each pile in each year.
func (e *Engineer) thawsOfPiles() [][]api.Span {
	seen, _ := ground.Years(e.Place, e.Years)
	var thaws [][]api.Span
	for _, year := range seen {
		thaw := api.Span{Low: min(year.Thaw.Low, api.PileDepth), High: min(year.Thaw.High, api.PileDepth)}
		thaws = append(thaws, slices.Repeat([]api.Span{thaw}, len(e.Site.Piles)))
	}
	return thaws
}

// coolers returns the coolers that work.
func (e *Engineer) coolers() []int {
	var sites []int
	for site := range e.Cool.Sites {
		if e.working.has(site) {
			sites = append(sites, site)
		}
	}
	return sites
}

func (e *Engineer) isSite(n int) bool { return from(0, n, len(e.Cool.Sites)-1) }

func (e *Engineer) isLoop(n int) bool { return from(0, n, len(e.Net.Loops)-1) }

// set is a set of numbers from 0 on, as bits.
type set int

func (s set) has(n int) bool { return s>>n&1 == 1 }

func (s set) with(n int) set { return s | 1<<n }

func (s set) without(n int) set { return s &^ (1 << n) }

// just returns the span of one number.
func just(n int) api.Span { return api.Span{Low: n, High: n} }

// from reports whether a number is from least to most.
func from(least, n, most int) bool { return least <= n && n <= most }

// in reports whether a number is of a span.
func in(n int, s api.Span) bool { return from(s.Low, n, s.High) }
