package cool

import (
	"slices"
	"testing"

	"talik/api"
)

// P3.4 (Again, Repair)

func TestAgainExample(t *testing.T) {
	for _, x := range []struct {
		bought, order []int
		want          []int
	}{
		{[]int{0, 1, 2, 3}, []int{1, 3}, []int{3, 0}},
		{[]int{0, 1, 2, 3}, []int{3, 1}, []int{4, 0}},
		{[]int{0, 1}, []int{1}, []int{3, -1}},
	} {
		if weeks, e := Again(town(), x.bought, x.order); e != api.OK || !slices.Equal(weeks, x.want) {
			t.Error(x, weeks, e)
		}
	}
}

func TestRepairExample(t *testing.T) {
	if order, e := Repair(town(), []int{0, 1, 2, 3}, []int{1, 3}); e != api.OK || !slices.Equal(order, []int{1, 3}) {
		t.Error(order, e)
	}
	if order, e := Repair(town(), []int{0, 1, 2, 3}, []int{0, 1, 3}); e != api.ErrNone || order != nil {
		t.Error(order, e)
	}
}

func TestAgainEdges(t *testing.T) {
	all := []int{0, 1, 2, 3}
	for _, x := range []struct {
		name          string
		bought, order []int
		want          []int
	}{
		{"nothing has failed", all, nil, []int{0, 0}},
		{"nothing has failed, and is too little", []int{0}, nil, []int{-1, -1}},
		{"nothing was bought", nil, nil, []int{-1, -1}},
		{"all have failed", all, []int{0, 1, 2, 3}, []int{5, 6}},
		{"all have failed, in another order", all, []int{3, 2, 0, 1}, []int{7, 5}},
		{"never, though nothing is left", []int{0, 2}, []int{2, 0}, []int{-1, 1}},
		{"in the last week", []int{1, 3}, []int{3, 1}, []int{7, 7}},
		{"not before it is repaired", []int{0, 2, 3}, []int{2, 0}, []int{3, 1}},
	} {
		if weeks, e := Again(town(), x.bought, x.order); e != api.OK || !slices.Equal(weeks, x.want) {
			t.Error(x.name, weeks, e)
		}
	}
	six := []int{5, 4, 3, 2, 1, 0}
	c := greatest()
	if weeks, e := Again(c, []int{0, 1, 2, 3, 4, 5}, six); e != api.OK || !slices.Equal(weeks, slices.Repeat([]int{100}, 6)) {
		t.Error(weeks, e)
	}
	for i := range c.Sites[:5] {
		c.Sites[i].Gives[2] = sp(0, 0)
	}
	if weeks, e := Again(c, []int{0, 1, 2, 3, 4, 5}, []int{0, 1, 2, 3, 4, 5}); e != api.OK || !slices.Equal(weeks, []int{100, 100, 600, 100, 100, 100}) {
		t.Error(weeks, e)
	}
}

func TestRepairEdges(t *testing.T) {
	all := []int{0, 1, 2, 3}
	grace := func(first, second int) api.CoolTown {
		c := town()
		c.Houses[0].Grace, c.Houses[1].Grace = first, second
		return c
	}
	for _, x := range []struct {
		name           string
		town           api.CoolTown
		bought, failed []int
		order          []int
		e              api.Errno
	}{
		{"nothing has failed", grace(0, 0), all, nil, nil, api.OK},
		{"nothing has failed, and is too little", grace(100, 100), []int{0, 1}, nil, nil, api.ErrNone},
		{"nothing was bought", grace(100, 100), nil, nil, nil, api.ErrNone},
		{"nothing was bought, and is enough", even(0, 1), nil, nil, nil, api.OK},
		{"what failed is not needed", grace(0, 0), all, []int{0}, []int{0}, api.OK},
		{"what failed is needed at once", grace(0, 0), all, []int{1, 3}, nil, api.ErrNone},
		{"never level again", grace(100, 100), []int{0, 1}, []int{1}, nil, api.ErrNone},
		{"just soon enough", grace(3, 0), all, []int{1, 3}, []int{1, 3}, api.OK},
		{"just too late", grace(2, 0), all, []int{1, 3}, nil, api.ErrNone},
		{"two for the first house, just too late", grace(4, 100), all, []int{0, 1, 3}, nil, api.ErrNone},
		{"two for the first house, just soon enough", grace(5, 100), all, []int{0, 1, 3}, []int{0, 1, 3}, api.OK},
		{"the second house first", grace(100, 1), all, []int{0, 1, 2, 3}, []int{2, 0, 1, 3}, api.OK},
		{"both houses soon", grace(6, 1), all, []int{0, 1, 2, 3}, []int{2, 0, 1, 3}, api.OK},
		{"both houses too soon", grace(5, 1), all, []int{0, 1, 2, 3}, nil, api.ErrNone},
		{"the second house second", grace(6, 3), all, []int{0, 1, 2, 3}, []int{0, 2, 1, 3}, api.OK},
		{"in order, as all are good", grace(100, 100), all, []int{0, 1, 2, 3}, []int{0, 1, 2, 3}, api.OK},
	} {
		if order, e := Repair(x.town, x.bought, x.failed); e != x.e || !slices.Equal(order, x.order) {
			t.Error(x.name, order, e)
		}
	}
	c := greatest()
	six := []int{2, 3, 4, 5, 7, 9}
	for _, site := range []int{0, 1, 2, 3, 4, 5, 6, 7, 8} {
		c.Sites[site].Gives[4] = sp(0, 0)
	}
	if order, e := Repair(c, numbers(10), six); e != api.OK || !slices.Equal(order, []int{9, 2, 3, 4, 5, 7}) {
		t.Error(order, e)
	}
}

func TestAgainWeekByWeek(t *testing.T) {
	r := source()
	now, later, never := 0, 0, 0
	for i := range 500 {
		s := slow{large(r, 1+r.IntN(api.CoolHouses), 1+r.IntN(api.CoolSites)), ends}
		if i%50 == 0 {
			s = slow{small(r), always}
		}
		bought := most(r, s.CoolTown)
		order := shuffled(r, failures(r, bought))
		weeks, e := Again(s.CoolTown, bought, order)
		if want := s.again(bought, order); e != api.OK || !slices.Equal(weeks, want) {
			t.Fatal(s.CoolTown, bought, order, weeks, want, e)
		}
		for _, week := range weeks {
			switch {
			case week < 0:
				never++
			case week == 0:
				now++
			default:
				later++
			}
		}
	}
	if now < 100 || later < 100 || never < 100 {
		t.Error(now, later, never)
	}
}

func TestRepairOfAllOrders(t *testing.T) {
	r := source()
	first, other, none := 0, 0, 0
	for range 600 {
		s := slow{repairable(r, 1+r.IntN(4), 1+r.IntN(api.CoolSites)), ends}
		bought := most(r, s.CoolTown)
		failed := failures(r, bought)
		failed = failed[:min(len(failed), 4)]
		want, is := s.repair(bought, failed)
		order, e := Repair(s.CoolTown, bought, failed)
		if !is {
			none++
			if e != api.ErrNone || order != nil {
				t.Fatal(s.CoolTown, bought, failed, order, e)
			}
			continue
		}
		if slices.Equal(want, failed) {
			first++
		} else {
			other++
		}
		if e != api.OK || !slices.Equal(order, want) {
			t.Fatal(s.CoolTown, bought, failed, order, want, e)
		}
	}
	if first < 50 || other < 20 || none < 50 {
		t.Error(first, other, none)
	}
}

func TestRepairOfAllTruths(t *testing.T) {
	r := source()
	found, none := 0, 0
	for range 100 {
		s := slow{small(r), always}
		bought := most(r, s.CoolTown)
		failed := failures(r, bought)
		want, is := s.repair(bought, failed)
		order, e := Repair(s.CoolTown, bought, failed)
		if is {
			found++
		} else {
			none++
		}
		if is != (e == api.OK) || !is && e != api.ErrNone || !slices.Equal(order, want) {
			t.Fatal(s.CoolTown, bought, failed, order, want, e)
		}
	}
	if found < 20 || none < 20 {
		t.Error(found, none)
	}
}

func TestNoOrderBeforeIsGood(t *testing.T) {
	r := source()
	for range 40 {
		c := repairable(r, 1+r.IntN(4), api.CoolSites)
		bought := numbers(api.CoolSites)
		failed := bought[2:][:api.CoolRepairs]
		found, e := Repair(c, bought, failed)
		for _, order := range orders(failed) {
			weeks, againE := Again(c, bought, order)
			if againE != api.OK {
				t.Fatal(c, order, againE)
			}
			good := true
			for house, week := range weeks {
				good = good && 0 <= week && week <= c.Houses[house].Grace
			}
			if slices.Equal(order, found) {
				if !good || e != api.OK {
					t.Fatal(c, order, weeks, e)
				}
				break
			}
			if good {
				t.Fatal(c, order, weeks, found, e)
			}
		}
	}
}

func TestHousesAreLevelAgainInTruth(t *testing.T) {
	r := source()
	found := 0
	for range 400 {
		c := repairable(r, 1+r.IntN(4), 2+r.IntN(api.CoolSites-1))
		bought := numbers(len(c.Sites))
		order, e := Repair(c, bought, failures(r, bought))
		if e != api.OK {
			continue
		}
		found++
		for house, h := range c.Houses {
			working := slow{c, ends}.working(bought, order, h.Grace)
			for _, x := range []api.CoolTruth{someTruth(r, c), worst(c)} {
				if more, e := Play(c, working, x); e != api.OK || more[house] < 0 {
					t.Fatal(c, bought, order, house, x, more, e)
				}
			}
		}
	}
	if found < 50 {
		t.Error(found)
	}
}

func TestAgainAndRepairErrors(t *testing.T) {
	all := []int{0, 1, 2, 3}
	again := func(name string, c api.CoolTown, bought, order []int, want api.Errno) {
		if weeks, e := Again(c, bought, order); weeks != nil || e != want {
			t.Error(name, weeks, e)
		}
	}
	repair := func(name string, c api.CoolTown, bought, failed []int, want api.Errno) {
		if order, e := Repair(c, bought, failed); order != nil || e != want {
			t.Error(name, order, e)
		}
	}
	both := func(name string, c api.CoolTown, bought, failed []int, want api.Errno) {
		again(name, c, bought, failed, want)
		repair(name, c, bought, failed, want)
	}
	for name, c := range badTowns() {
		both(name, c, []int{0}, []int{0}, api.ErrArg)
		both(name, c, nil, nil, api.ErrArg)
		both(name, c, []int{0}, numbers(6), api.ErrArg)
		both(name, c, []int{0}, numbers(7), api.ErrLong)
	}
	for name, bad := range badCoolers() {
		both(name, town(), bad, nil, api.ErrArg)
		both(name, town(), bad, []int{1}, api.ErrArg)
		both(name, town(), bad, numbers(7), api.ErrLong)
	}
	both("7 in a good town", greatest(), numbers(10), numbers(7), api.ErrLong)
	both("7 in a small town", town(), all, slices.Repeat([]int{-1}, 7), api.ErrLong)
	both("6 in a small town", town(), all, numbers(6), api.ErrArg)
	both("not bought", town(), []int{1, 3}, []int{2}, api.ErrArg)
	both("nothing bought", town(), nil, []int{2}, api.ErrArg)
	both("not bought, after one that was", town(), []int{1, 3}, []int{1, 2}, api.ErrArg)
	both("no site", town(), all, []int{1, 4}, api.ErrArg)
	both("-1", town(), all, []int{-1}, api.ErrArg)
	both("twice", town(), all, []int{1, 1}, api.ErrArg)
	again("twice, with one between", town(), all, []int{3, 0, 3}, api.ErrArg)
	repair("twice, with one between", town(), all, []int{3, 0, 3}, api.ErrArg)
	repair("downwards", town(), all, []int{3, 1}, api.ErrArg)
	repair("not increasing everywhere", town(), all, []int{0, 2, 1}, api.ErrArg)
	if weeks, e := Again(greatest(), numbers(10), numbers(6)); e != api.OK || len(weeks) != 6 {
		t.Error(weeks, e)
	}
	if order, e := Repair(greatest(), numbers(10), numbers(6)); e != api.OK || len(order) != 6 {
		t.Error(order, e)
	}
}
