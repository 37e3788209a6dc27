package pipe

import "talik/api"

// inAnHour returns by how much a loop gets warmer in an hour (less warm, if that is negative), and where its heat comes from and goes.
func inAnHour(loop api.PipeLoop, warm int, x api.PipeTruth) api.PipeHeat {
	gain := 0
	if x.Fed {
		gain = loop.Feed
	}
	loss := min(x.Leak*(warm+x.Frost)/1000, warm+gain)
	ground := loss * loop.Mass * loop.Ground / 1000
	return api.PipeHeat{
		Warm:   gain - loss,
		Boiler: gain * loop.Mass,
		Ground: ground,
		Sky:    loss*loop.Mass - ground,
	}
}

// together returns the sum of some heats.
func together(heats ...api.PipeHeat) api.PipeHeat {
	var whole api.PipeHeat
	for _, h := range heats {
		whole.Warm += h.Warm
		whole.Boiler += h.Boiler
		whole.Ground += h.Ground
		whole.Sky += h.Sky
	}
	return whole
}

// A loop is the least warm where it was so before, and leaks the most in the coldest air: a loop that is warmer by one loses at most one more, as no leak is of more than all.

func (l *looked) leastAfter(loop, hour, warm int) int {
	return l.cooled(loop, warm, l.boxes[loop].leak().High, l.Frost[hour].High)
}

func (l *looked) greatestAfter(loop, hour, warm int) int {
	return l.cooled(loop, warm, l.boxes[loop].leak().Low, l.Frost[hour].Low)
}

// cooled returns how warm a loop is after an hour without heat.
func (l *looked) cooled(loop, warm, leak, frost int) int {
	return warm + inAnHour(l.Loops[loop], warm, api.PipeTruth{Leak: leak, Frost: frost}).Warm
}

// ends returns the least warmth of a loop after each hour, without heat, and the greatest one.
func (l *looked) ends(loop int) [2][]int {
	steps := [2]func(loop, hour, warm int) int{l.leastAfter, l.greatestAfter}
	warm := [2]int{l.Loops[loop].Warm.Low, l.Loops[loop].Warm.High}
	var ends [2][]int
	for i, step := range steps {
		for hour := range len(l.Frost) {
			warm[i] = step(loop, hour, warm[i])
			ends[i] = append(ends[i], warm[i])
		}
	}
	return ends
}

// warmth returns the warmth of a loop after each hour, without heat.
func (l *looked) warmth(loop int) []api.Span {
	ends := l.ends(loop)
	var spans []api.Span
	for hour, least := range ends[0] {
		spans = append(spans, api.Span{Low: least, High: ends[1][hour]})
	}
	return spans
}

// frozen returns after how many hours a loop can be frozen, and after how many it surely is; -1 for each of these that does not come.
func (l *looked) frozen(loop int) [2]int {
	after := [2]int{-1, -1}
ends:
	for i, end := range l.ends(loop) {
		for hour := range len(end) {
			if end[hour] == 0 {
				after[i] = hour + 1
				continue ends
			}
		}
	}
	return after
}

// dueAfter returns the hours after which a loop is due.
func (l *looked) dueAfter(loop int) int {
	if can := l.frozen(loop)[0]; can >= 0 {
		return can - 1
	}
	return len(l.Frost)
}
