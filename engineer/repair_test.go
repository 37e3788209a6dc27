package engineer

import (
	"math/rand/v2"
	"slices"
	"strconv"
	"testing"

	"talik/api"
	"talik/pipe"
	"talik/store"
)

// P10.6 (Fail, Fix, Repairs, Order, First), P0.4 (layer 10: by the best order no loop freezes before it is repaired) and P0.6 (layer 10: what the best ships land suffices)

// ordersOf returns all orders of some loops, in lexicographic order.
func ordersOf(loops []int) [][]int {
	if len(loops) == 0 {
		return [][]int{nil}
	}
	var all [][]int
	for i, first := range loops {
		for _, rest := range ordersOf(slices.Concat(loops[:i], loops[i+1:])) {
			all = append(all, append([]int{first}, rest...))
		}
	}
	return all
}

// slackOf returns the slack of an order, and after how many hours each of its loops is repaired.
func slackOf(n api.PipeNet, from int, order []int) (int, []int) {
	slack, hour := len(n.Frost), 0
	var repaired []int
	for _, loop := range order {
		hour += n.Ways[from][loop+1] + n.Loops[loop].Fix.High
		from = loop + 1
		due, _, _ := pipe.Freezes(n, loop)
		if due < 0 {
			due = len(n.Frost)
		} else {
			due--
		}
		slack = min(slack, due-hour)
		repaired = append(repaired, hour)
	}
	return slack, repaired
}

// bestOrder returns the best order of some loops, of all that there are.
func bestOrder(n api.PipeNet, from int, loops []int) ([]int, int, api.Errno) {
	var best []int
	most := -1
	for _, order := range ordersOf(loops) {
		if slack, _ := slackOf(n, from, order); slack > most {
			best, most = order, slack
		}
	}
	if most < 0 {
		return nil, 0, api.ErrNone
	}
	return best, most, api.OK
}

// TestRepairsAreTheBestOrder has loops fail and fixed at random, and tries all orders.
func TestRepairsAreTheBestOrder(t *testing.T) {
	r := source()
	found, none := 0, 0
	for range 400 {
		x := some(r)
		e := opened(t, x)
		cold := make([]bool, len(x.Net.Loops))
		for range r.IntN(20) {
			loop := r.IntN(len(cold))
			act, want := (*Engineer).Fail, !cold[loop]
			if r.IntN(3) == 0 {
				act, want = (*Engineer).Fix, cold[loop]
			}
			bad := act(e, loop)
			if (bad == api.OK) != want {
				t.Fatal(loop, cold, bad)
			}
			if bad == api.OK {
				cold[loop] = !cold[loop]
			}
		}
		var loops []int
		for loop, is := range cold {
			if is {
				loops = append(loops, loop)
			}
		}
		for from := range len(cold) + 1 {
			order, slack, bad := e.Repairs(from)
			best, most, want := bestOrder(x.Net, from, loops)
			if bad != want || slack != most || !slices.Equal(order, best) {
				t.Fatal(x.Net, from, loops, order, slack, bad, best, most)
			}
			if bad == api.ErrNone {
				none++
				continue
			}
			found++
			mustNotFreeze(t, r, x.Net, from, order)
		}
	}
	if found < 100 || none < 100 {
		t.Error(found, none)
	}
}

// mustNotFreeze follows all loops of an order, in some truth, until they are repaired.
func mustNotFreeze(t *testing.T, r *rand.Rand, n api.PipeNet, from int, order []int) {
	t.Helper()
	_, repaired := slackOf(n, from, order)
	for i, loop := range order {
		var truth []api.PipeTruth
		for _, frost := range n.Frost[:repaired[i]] {
			truth = append(truth, api.PipeTruth{Leak: of(r, n.Loops[loop].Leak), Frost: of(r, frost)})
		}
		heat, bad := pipe.Play(n, loop, of(r, n.Loops[loop].Warm), truth)
		if bad != api.OK || heat.Warm == 0 {
			t.Fatal(n, from, order, loop, heat, bad)
		}
	}
}

func TestRepairs(t *testing.T) {
	e := opened(t, town())
	for _, x := range []struct {
		act   string
		from  int
		order []int
		slack int
		bad   api.Errno
	}{
		{"", 0, nil, 8, api.OK}, {"", 2, nil, 8, api.OK}, {"", -1, nil, 0, api.ErrArg}, {"", 3, nil, 0, api.ErrArg},
		{"fail 0", 0, []int{0}, 1, api.OK}, {"", 1, []int{0}, 2, api.OK}, {"fail 1", 0, nil, 0, api.ErrNone}, {"", 1, nil, 0, api.ErrNone}, {"", 2, []int{1, 0}, 0, api.OK}, {"", 3, nil, 0, api.ErrArg},
		{"fix 0", 0, []int{1}, 1, api.OK}, {"", 2, []int{1}, 2, api.OK}, {"fix 1", 0, nil, 8, api.OK},
	} {
		if x.act != "" {
			if _, bad := e.Do(x.act); bad != api.OK {
				t.Fatal(x.act, bad)
			}
		}
		order, slack, bad := e.Repairs(x.from)
		if bad != x.bad || slack != x.slack || !slices.Equal(order, x.order) {
			t.Error(x, order, slack, bad)
		}
	}
}

// TestFirstIsTheFirstOfAll orders ships one after the other, and looks at all weeks with all ices and winters.
func TestFirstIsTheFirstOfAll(t *testing.T) {
	r := source()
	lacks, suffices := 0, 0
	for range 400 {
		x := some(r)
		e := opened(t, x)
		plan := 0
		for _, ship := range append([]int{-1}, r.Perm(len(x.Store.Ships))...) {
			if ship >= 0 {
				if bad := e.Order(ship); bad != api.OK {
					t.Fatal(ship, bad)
				}
				plan |= 1 << ship
			}
			week, kind, bad := e.First()
			first := firstOf(x.Store, plan)
			if first < 0 {
				suffices++
				if bad != api.ErrNone || week != 0 || kind != 0 {
					t.Fatal(x.Store, plan, week, kind, bad)
				}
				continue
			}
			lacks++
			if bad != api.OK || 3*week+kind != first {
				t.Fatal(x.Store, plan, week, kind, bad, first)
			}
		}
	}
	if lacks < 100 || suffices < 100 {
		t.Error(lacks, suffices)
	}
}

// firstOf returns three times the first week in which anything is lacking, and the kind in it; -1 if nothing is.
func firstOf(s api.Store, plan int) int {
	first := -1
	for ice := range s.Ices {
		for winter := range s.Winters {
			trace, _ := store.Run(s, plan, ice, winter)
			for week, lacks := range trace.Lacks {
				for kind, n := range lacks {
					if n > 0 && (first < 0 || 3*week+kind < first) {
						first = 3*week + kind
					}
				}
			}
		}
	}
	return first
}

// TestTheBestShipsSuffice orders the ships of the best plan of layer 6.
func TestTheBestShipsSuffice(t *testing.T) {
	r := source()
	ordered := 0
	for range 500 {
		x := some(r)
		plan, _, bad := store.Best(x.Store)
		if bad != api.OK {
			continue
		}
		e := opened(t, x)
		for ship := range x.Store.Ships {
			if plan>>ship&1 == 0 {
				continue
			}
			if _, _, bad := e.First(); bad != api.OK && x.Store.Ships[ship].Cost > 0 && plan == 1<<ship {
				t.Fatal("nothing was needed", x.Store, plan)
			}
			if _, bad := e.Do("order " + strconv.Itoa(ship)); bad != api.OK {
				t.Fatal(bad)
			}
			ordered++
		}
		if week, kind, bad := e.First(); bad != api.ErrNone {
			t.Fatal(x.Store, plan, week, kind, bad)
		}
	}
	if ordered < 50 {
		t.Error(ordered)
	}
}
