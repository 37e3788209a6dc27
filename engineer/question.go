package engineer

import "talik/api"

// question asks an Engineer for the numbers that a line returns.
type question func(*Engineer) ([]int, api.Errno)

// questions returns how the lines are read that ask for something.
func questions() map[string]func(*reader) question {
	return map[string]func(*reader) question{
		"thaws":   (*reader).thaws,
		"levels":  (*reader).levels,
		"fault":   (*reader).fault,
		"uneven":  (*reader).uneven,
		"cause":   (*reader).cause,
		"repairs": (*reader).repairs,
		"first":   (*reader).first,
		"grants":  (*reader).grants,
	}
}

func (r *reader) thaws() question {
	r.numbers(0)
	return func(e *Engineer) ([]int, api.Errno) {
		seen, bad := e.Thaws()
		var numbers []int
		for _, year := range seen {
			numbers = append(numbers, year.Thaw.Low, year.Thaw.High)
		}
		return numbers, bad
	}
}

func (r *reader) levels() question {
	r.numbers(0)
	return func(e *Engineer) ([]int, api.Errno) {
		levels, bad := e.Levels()
		var numbers []int
		for _, level := range levels {
			numbers = append(numbers, level.Low, level.High)
		}
		return numbers, bad
	}
}

func (r *reader) fault() question {
	r.numbers(0)
	return func(e *Engineer) ([]int, api.Errno) {
		fault, bad := e.Fault()
		return []int{fault.Year, int(fault.Rule), fault.Of}, bad
	}
}

func (r *reader) uneven() question {
	r.numbers(0)
	return (*Engineer).Uneven
}

func (r *reader) cause() question {
	most := r.number()
	return func(e *Engineer) ([]int, api.Errno) {
		words, bad := e.Cause(most)
		var numbers []int
		for _, word := range words {
			numbers = append(numbers, int(word))
		}
		return numbers, bad
	}
}

func (r *reader) repairs() question {
	from := r.number()
	return func(e *Engineer) ([]int, api.Errno) {
		order, slack, bad := e.Repairs(from)
		return append([]int{slack}, order...), bad
	}
}

func (r *reader) first() question {
	r.numbers(0)
	return func(e *Engineer) ([]int, api.Errno) {
		week, kind, bad := e.First()
		return []int{week, kind}, bad
	}
}

func (r *reader) grants() question {
	r.numbers(0)
	return func(e *Engineer) ([]int, api.Errno) {
		grants, bad := e.Grants()
		return []int{grants}, bad
	}
}
