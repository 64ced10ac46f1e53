package process

import (
	"wireloom/api"
	"wireloom/bits"
)

// worker is a process at work: what it does, its state, and its data.
type worker struct {
	api.Proc
	api.ProcState
	data  []int
	known map[*api.Expr]value
}

// value is a value and its width.
type value struct{ number, width int }

func atWork(p api.Proc, s api.ProcState, data []int) *worker {
	return &worker{p, s, data, map[*api.Expr]value{}}
}

// eval returns the value of an expression.
func (w *worker) eval(e api.Expr) value {
	arg := func(k int) value { return w.evalAt(&e.Args[k]) }
	k := e.K.N
	switch e.Op {
	case api.EReg:
		return value{w.ProcState.Regs[k], w.Proc.Regs[k].W}
	case api.EData:
		return value{w.data[k], w.Takes[k].W}
	case api.ERead:
		m := w.Proc.Mems[k]
		return value{w.ProcState.Mems[k][arg(0).number%m.Words], m.W}
	}
	return applied(e, arg)
}

// evalAt returns the value of an argument. Arguments can share memory, so that there are many more ways to an expression than expressions, or a way back to it, which leaves it without a value.
func (w *worker) evalAt(e *api.Expr) value {
	v, known := w.known[e]
	if !known {
		w.known[e] = value{}
		v = w.eval(*e)
		w.known[e] = v
	}
	return v
}

// applied returns the value of an operator of layer 7 for its arguments.
func applied(e api.Expr, arg func(k int) value) value {
	var numbers, widths []int
	for k := range len(e.Args) {
		v := arg(k)
		numbers, widths = append(numbers, v.number), append(widths, v.width)
	}
	number, _ := bits.Apply(e.Op, widths, numbers, []int{e.K.N, e.W.N})
	width, _ := bits.Width(e.Op, widths, [2]int{e.K.N, e.W.N})
	return value{number, width}
}

// holds reports whether the value of an expression is 1.
func (w *worker) holds(e api.Expr) bool {
	return w.eval(e).number == 1
}

// dueTakes reports for each take whether it is due.
func (w *worker) dueTakes() []bool {
	var due []bool
	for _, t := range w.Takes {
		due = append(due, w.holds(t.When))
	}
	return due
}

// duePuts reports for each put whether it is due.
func (w *worker) duePuts() []bool {
	var due []bool
	for _, t := range w.Puts {
		due = append(due, w.holds(t.When))
	}
	return due
}

// words returns the words that the puts that are due add.
func (w *worker) words(due []bool) []api.Head {
	added := make([]api.Head, len(due))
	for k, t := range w.Puts {
		if due[k] {
			added[k] = api.Head{Has: true, V: w.eval(t.Data).number}
		}
	}
	return added
}

// next returns the state after a step.
func (w *worker) next() api.ProcState {
	s := copyOf(w.ProcState)
	for k, r := range w.Proc.Regs {
		s.Regs[k] = w.eval(r.Next).number
	}
	for k, m := range w.Proc.Mems {
		if w.holds(m.Enable) {
			s.Mems[k][w.eval(m.Addr).number%m.Words] = w.eval(m.Data).number
		}
	}
	return s
}
