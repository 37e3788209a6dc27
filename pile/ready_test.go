package pile

import (
	"testing"

	"talik/api"
)

// P2.5 (Ready)

// cure returns the cure of the chapter's examples.
func cure() []api.PileCure {
	return []api.PileCure{{Week: 2, Part: 300}, {Week: 4, Part: 650}, {Week: 8, Part: 1000}}
}

func TestReadyExample(t *testing.T) {
	if week, e := Ready(site().Piles[0], sp(1000, 2000), cure()); e != api.OK || week != 4 {
		t.Error(week, e)
	}
}

func TestReadyEdges(t *testing.T) {
	whole := func(carries int, load api.Span) api.Pile { return api.Pile{Depth: 1, Point: carries, Load: load} }
	for _, x := range []struct {
		name string
		pile api.Pile
		thaw api.Span
		cure []api.PileCure
		week int
		e    api.Errno
	}{
		{"at once", whole(200, sp(1, 60)), sp(0, 0), cure(), 2, api.OK},
		{"a load more", whole(200, sp(1, 61)), sp(0, 0), cure(), 4, api.OK},
		{"the last row", whole(200, sp(131, 131)), sp(0, 0), cure(), 8, api.OK},
		{"all that it carries", whole(200, sp(1, 200)), sp(0, 0), cure(), 8, api.OK},
		{"more than it carries", whole(200, sp(1, 201)), sp(0, 0), cure(), 0, api.ErrNone},
		{"rounded down", whole(199, sp(1, 60)), sp(0, 0), []api.PileCure{{Week: 1, Part: 301}, {Week: 3, Part: 302}}, 3, api.OK},
		{"the week 0", whole(1, sp(1, 1)), sp(0, 0), []api.PileCure{{Week: 0, Part: 1000}}, 0, api.OK},
		{"the week 100", whole(1, sp(1, 1)), sp(0, 0), []api.PileCure{{Week: 0, Part: 999}, {Week: 100, Part: 1000}}, 100, api.OK},
		{"no part", whole(100000, sp(1, 1)), sp(0, 0), []api.PileCure{{Week: 0, Part: 0}, {Week: 1, Part: 0}}, 0, api.ErrNone},
		{"it carries nothing", whole(0, sp(1, 1)), sp(0, 0), cure(), 0, api.ErrNone},
		{"the deepest thaw", api.Pile{Depth: 1000, Skin: 1000, Load: sp(1, 500)}, sp(0, 500), []api.PileCure{{Week: 7, Part: 1000}}, 7, api.OK},
		{"a deeper thaw", api.Pile{Depth: 1000, Skin: 1000, Load: sp(1, 500)}, sp(0, 501), []api.PileCure{{Week: 7, Part: 1000}}, 0, api.ErrNone},
		{"the greatest", api.Pile{Depth: 50000, Point: 100000, Skin: 10000, Load: sp(100000, 100000)}, sp(0, 0), []api.PileCure{{Week: 9, Part: 166}, {Week: 10, Part: 167}}, 10, api.OK},
	} {
		if week, e := Ready(x.pile, x.thaw, x.cure); e != x.e || week != x.week {
			t.Error(x.name, week, e)
		}
	}
}

// carriesInWeek reports whether a new pile carries its load in a week in all truths.
func carriesInWeek(p api.Pile, thaw api.Span, cure []api.PileCure, week int) bool {
	part := 0
	for _, row := range cure {
		if row.Week <= week {
			part = row.Part
		}
	}
	for deep := thaw.Low; deep <= thaw.High; deep++ {
		for load := p.Load.Low; load <= p.Load.High; load++ {
			if slowCarries(p, deep)*part/1000 < load {
				return false
			}
		}
	}
	return true
}

func TestReadyOverAllTruths(t *testing.T) {
	r := source()
	ready, none := 0, 0
	for range 2000 {
		p := api.Pile{Depth: 1 + r.IntN(30), Point: r.IntN(10), Skin: r.IntN(1000), Load: someSpan(r, 1, 20, 2)}
		thaw := someSpan(r, 0, 30, 2)
		var cure []api.PileCure
		row := api.PileCure{Week: r.IntN(15), Part: r.IntN(400)}
		for range 1 + r.IntN(api.PileRows) {
			cure = append(cure, row)
			row = api.PileCure{Week: row.Week + 1 + r.IntN(15), Part: min(1000, row.Part+r.IntN(300))}
		}
		want := -1
		for week := api.PileWeeks; week >= 0; week-- {
			if carriesInWeek(p, thaw, cure, week) {
				want = week
			}
		}
		week, e := Ready(p, thaw, cure)
		if want < 0 {
			none++
			if e != api.ErrNone || week != 0 {
				t.Fatal(p, thaw, cure, week, e)
			}
			continue
		}
		ready++
		if e != api.OK || week != want || week > 0 && carriesInWeek(p, thaw, cure, week-1) {
			t.Fatal(p, thaw, cure, week, want, e)
		}
	}
	if ready < 100 || none < 100 {
		t.Error(ready, none)
	}
}

func TestReadyErrors(t *testing.T) {
	fails := func(name string, p api.Pile, thaw api.Span, cure []api.PileCure) {
		if week, e := Ready(p, thaw, cure); week != 0 || e != api.ErrArg {
			t.Error(name, week, e)
		}
	}
	p, thaw := site().Piles[0], sp(1000, 2000)
	pile := func(name string, do func(p *api.Pile)) {
		p := p
		do(&p)
		fails(name, p, thaw, cure())
	}
	pile("depth 0", func(p *api.Pile) { p.Depth = 0 })
	pile("depth 50001", func(p *api.Pile) { p.Depth = 50001 })
	pile("point -1", func(p *api.Pile) { p.Point = -1 })
	pile("point 100001", func(p *api.Pile) { p.Point = 100001 })
	pile("skin -1", func(p *api.Pile) { p.Skin = -1 })
	pile("skin 10001", func(p *api.Pile) { p.Skin = 10001 })
	pile("load from 0", func(p *api.Pile) { p.Load = sp(0, 100) })
	pile("load upside", func(p *api.Pile) { p.Load = sp(101, 100) })
	pile("load to 100001", func(p *api.Pile) { p.Load = sp(100, 100001) })
	pile("design -1", func(p *api.Pile) { p.Design = -1 })
	pile("design 100001", func(p *api.Pile) { p.Design = 100001 })
	pile("cost -1", func(p *api.Pile) { p.Cost = -1 })
	pile("cost 1000001", func(p *api.Pile) { p.Cost = 1000001 })
	fails("thaw from -1", p, sp(-1, 2), cure())
	fails("thaw upside", p, sp(3, 2), cure())
	fails("thaw to 50001", p, sp(3, 50001), cure())
	fails("no cure", p, thaw, nil)
	fails("an empty cure", p, thaw, []api.PileCure{})
	var long []api.PileCure
	for week := range 7 {
		long = append(long, api.PileCure{Week: week, Part: 1000})
	}
	fails("7 rows", p, thaw, long)
	if week, e := Ready(p, thaw, long[:6]); week != 0 || e != api.OK {
		t.Error(week, e)
	}
	rows := func(name string, do func(c []api.PileCure)) {
		c := cure()
		do(c)
		fails(name, p, thaw, c)
	}
	rows("week -1", func(c []api.PileCure) { c[0].Week = -1 })
	rows("week 101", func(c []api.PileCure) { c[2].Week = 101 })
	rows("the same week", func(c []api.PileCure) { c[1].Week = 2 })
	rows("an earlier week", func(c []api.PileCure) { c[2].Week = 3 })
	rows("part -1", func(c []api.PileCure) { c[0].Part = -1 })
	rows("part 1001", func(c []api.PileCure) { c[2].Part = 1001 })
	rows("a smaller part", func(c []api.PileCure) { c[2].Part = 649 })
}
