package network_test

import (
	"math/rand/v2"
	"reflect"
	"slices"
	"strconv"
	"testing"

	"wireloom/api"
	"wireloom/elaborate"
)

func source() *rand.Rand { return rand.New(rand.NewPCG(13, 40)) }

func oneOf[T any](r *rand.Rand, l ...T) T { return l[r.IntN(len(l))] }

func num(n int) api.Num { return api.Num{N: n} }

func node(op int, args ...api.Expr) api.Expr { return api.Expr{Op: op, Args: args} }

func constant(k, w int) api.Expr { return api.Expr{Op: api.EConst, K: num(k), W: num(w)} }

func reg(k int) api.Expr { return api.Expr{Op: api.EReg, K: num(k)} }

func data(k int) api.Expr { return api.Expr{Op: api.EData, K: num(k)} }

func sum(a, b api.Expr) api.Expr { return node(api.EAdd, a, b) }

func equal(a, b api.Expr) api.Expr { return node(api.EEq, a, b) }

// fitted is an expression of the width n, cut off or extended to the width w.
func fitted(e api.Expr, n, w int) api.Expr {
	if n > w {
		return api.Expr{Op: api.ESlice, W: num(w), Args: []api.Expr{e}}
	}
	return api.Expr{Op: api.EExt, W: num(w), Args: []api.Expr{e}}
}

// yes and no are conditions that always hold, and never.
var yes, no = constant(1, 1), constant(0, 1)

// maker makes expressions of a process.
type maker struct {
	r *rand.Rand
	p *api.Proc
}

// term is an expression with a width and few nodes.
func (m maker) term(w int, withData bool) api.Expr {
	l := []api.Expr{constant(m.r.IntN(1<<w), w)}
	for k, x := range m.p.Regs {
		l = append(l, fitted(reg(k), x.W, w))
	}
	for k, x := range m.p.Mems {
		l = append(l, fitted(api.Expr{Op: api.ERead, K: num(k), Args: []api.Expr{constant(m.r.IntN(x.Words), 3)}}, x.W, w))
	}
	if withData {
		for k, x := range m.p.Takes {
			l = append(l, fitted(data(k), x.W, w), fitted(data(k), x.W, w))
		}
	}
	return oneOf(m.r, l...)
}

// expr is an expression with a width.
func (m maker) expr(w int, withData bool) api.Expr {
	switch e := m.term(w, withData); m.r.IntN(4) {
	case 0:
		return e
	case 1:
		return node(api.EMux, m.term(1, withData), e, m.term(w, withData))
	default:
		return node(oneOf(m.r, api.EAdd, api.EAdd, api.EXor, api.ESub, api.EOr), e, m.term(w, withData))
	}
}

// condition is an expression with the width 1, which always holds with a chance of one in often.
func (m maker) condition(often int, withData bool) api.Expr {
	if m.r.IntN(often) == 0 {
		return yes
	}
	if m.r.IntN(2) == 0 {
		return m.expr(1, withData)
	}
	return node(oneOf(m.r, api.EEq, api.ELt), m.expr(2, withData), m.expr(2, withData))
}

// chanOf is a random channel of a circuit with n processes.
func chanOf(r *rand.Rand, n int) api.Chan {
	ch := api.Chan{From: r.IntN(n), To: r.IntN(n)}
	switch r.IntN(5) {
	case 0:
		ch.From = -1
	case 1:
		ch.To = -1
	}
	return ch
}

// chansOf is random channels of a circuit with n processes; in a flow, the first n lead to one process each from an earlier one or the environment.
func chansOf(r *rand.Rand, n int, flow bool) []api.Chan {
	var l []api.Chan
	if flow {
		for k := range n {
			l = append(l, api.Chan{From: r.IntN(k+1) - 1, To: k})
		}
	}
	for range r.IntN(min(3*n, api.MaxChans) - len(l) + 1) {
		l = append(l, chanOf(r, n))
	}
	for k := range l {
		l[k].Name, l[k].W = "c"+strconv.Itoa(k), oneOf(r, 1, 2, 2, 3, 8)
		if l[k].From >= 0 && l[k].To >= 0 {
			l[k].Cap = oneOf(r, 1, 1, 1, 2, 2, 3, 8)
		}
	}
	return l
}

// clocks is the clocks of random processes, and one that no process has.
var clocks = []string{"a", "b", "a", "b", "", "A", "none"}

// procOf is a random process between channels; one in often of its conditions always holds.
func procOf(r *rand.Rand, chans []api.Chan, at, often int) api.Proc {
	p := api.Proc{Name: "p" + strconv.Itoa(at), Clock: oneOf(r, clocks[:6]...)}
	for k, ch := range chans {
		if ch.To == at {
			p.Takes = append(p.Takes, api.Take{Chan: k, W: ch.W})
		}
		if ch.From == at {
			p.Puts = append(p.Puts, api.Put{Chan: k, W: ch.W})
		}
	}
	r.Shuffle(len(p.Takes), func(i, k int) { p.Takes[i], p.Takes[k] = p.Takes[k], p.Takes[i] })
	r.Shuffle(len(p.Puts), func(i, k int) { p.Puts[i], p.Puts[k] = p.Puts[k], p.Puts[i] })
	for k := range r.IntN(3) {
		w := oneOf(r, 1, 2, 3, 8)
		p.Regs = append(p.Regs, api.Reg{Name: "r" + strconv.Itoa(k), W: w, Init: r.IntN(1 << w)})
	}
	for k := range r.IntN(2) {
		p.Mems = append(p.Mems, api.Mem{Name: "m" + strconv.Itoa(k), W: oneOf(r, 1, 2, 4), Words: oneOf(r, 1, 2, 4, 8)})
	}
	fillIn(maker{r, &p}, often)
	return p
}

// fillIn gives a process its expressions.
func fillIn(m maker, often int) {
	p := m.p
	for k := range p.Regs {
		p.Regs[k].Next = m.expr(p.Regs[k].W, true)
	}
	for k := range p.Mems {
		x := &p.Mems[k]
		x.Enable, x.Addr, x.Data = m.condition(often, true), m.expr(3, true), m.expr(x.W, true)
	}
	for k := range p.Takes {
		p.Takes[k].When = m.condition(often, false)
	}
	for k := range p.Puts {
		p.Puts[k].When, p.Puts[k].Data = m.condition(often, true), m.expr(p.Puts[k].W, true)
	}
}

// circuitOf is a random valid circuit.
func circuitOf(r *rand.Rand) api.Circuit {
	n := oneOf(r, 1, 1, 2, 2, 3, 3, 4, 5, 8)
	flow := r.IntN(2) == 0
	c := api.Circuit{Chans: chansOf(r, n, flow)}
	for k := range n {
		often := oneOf(r, 1, 2, 5)
		if flow {
			often = oneOf(r, 1, 1, 3)
		}
		c.Procs = append(c.Procs, procOf(r, c.Chans, k, often))
	}
	if !elaborate.Valid(c) {
		panic("this is no valid circuit")
	}
	return c
}

func valuesOf(r *rand.Rand, n, w int) []int {
	var l []int
	for range n {
		l = append(l, r.IntN(1<<w))
	}
	return l
}

// stateOf is a random state of a circuit.
func stateOf(r *rand.Rand, c api.Circuit) api.State {
	var s api.State
	for _, p := range c.Procs {
		var l api.ProcState
		for _, x := range p.Regs {
			l.Regs = append(l.Regs, r.IntN(1<<x.W))
		}
		for _, x := range p.Mems {
			l.Mems = append(l.Mems, valuesOf(r, x.Words, x.W))
		}
		s.Procs = append(s.Procs, l)
	}
	for _, ch := range c.Chans {
		most := ch.Cap
		if most == 0 {
			most = 9
		}
		s.Chans = append(s.Chans, valuesOf(r, oneOf(r, 0, 1, most, r.IntN(most+1)), ch.W))
	}
	return s
}

// eachState calls f for random circuits, in some states of each.
func eachState(n int, f func(r *rand.Rand, c api.Circuit, s api.State)) {
	r := source()
	for range n {
		c := circuitOf(r)
		for range 4 {
			f(r, c, stateOf(r, c))
		}
	}
}

// able returns the processes that can fire.
func able(c api.Circuit, s api.State) []int {
	var l []int
	for p := range c.Procs {
		if stepAsSaid(c, s, p).Fires {
			l = append(l, p)
		}
	}
	return l
}

// eachPair calls f for random states and pairs of processes that can fire.
func eachPair(t *testing.T, n int, f func(c api.Circuit, s api.State, p, q int)) {
	t.Helper()
	pairs := 0
	eachState(n, func(r *rand.Rand, c api.Circuit, s api.State) {
		l := able(c, s)
		for _, p := range l {
			for _, q := range l {
				if p != q {
					pairs++
					f(c, s, p, q)
				}
			}
		}
	})
	if pairs < n {
		t.Error("only", pairs, "pairs")
	}
}

// same reports whether two trees are equal, where nil lists and empty ones are.
func same[T any](a, b T) bool { return alike(reflect.ValueOf(a), reflect.ValueOf(b)) }

func alike(a, b reflect.Value) bool {
	is := true
	switch a.Kind() {
	case reflect.Slice:
		is = a.Len() == b.Len()
		for i := 0; is && i < a.Len(); i++ {
			is = alike(a.Index(i), b.Index(i))
		}
	case reflect.Struct:
		for i := 0; is && i < a.NumField(); i++ {
			is = alike(a.Field(i), b.Field(i))
		}
	default:
		is = a.Equal(b)
	}
	return is
}

func copyOf[T any](tree T) T { return roomy(tree, 0) }

// roomy is a tree with new lists, which have room behind their ends for so many elements, with values that no tree has.
func roomy[T any](tree T, room int) T { return copied(reflect.ValueOf(tree), room).Interface().(T) }

func copied(v reflect.Value, room int) reflect.Value {
	c := reflect.New(v.Type()).Elem()
	c.Set(v)
	switch v.Kind() {
	case reflect.Slice:
		l := reflect.MakeSlice(v.Type(), v.Len(), v.Len()+room)
		for i := range v.Len() {
			l.Index(i).Set(copied(v.Index(i), room))
		}
		for i := range room {
			fill(l.Slice(0, l.Cap()).Index(v.Len() + i))
		}
		c.Set(l)
	case reflect.Struct:
		for i := range v.NumField() {
			c.Field(i).Set(copied(v.Field(i), room))
		}
	}
	return c
}

// eachLeaf calls f for all strings, numbers, truths and lists of a tree.
func eachLeaf(v reflect.Value, f func(v reflect.Value)) {
	switch v.Kind() {
	case reflect.Struct:
		for i := range v.NumField() {
			eachLeaf(v.Field(i), f)
		}
	case reflect.Slice:
		for i := range v.Len() {
			eachLeaf(v.Index(i), f)
		}
		f(v)
	default:
		f(v)
	}
}

// fill overwrites what is in a tree.
func fill(v reflect.Value) {
	eachLeaf(v, func(v reflect.Value) {
		switch v.Kind() {
		case reflect.String:
			v.SetString("room!")
		case reflect.Int:
			v.SetInt(-77)
		case reflect.Bool:
			v.SetBool(!v.Bool())
		}
	})
}

// leavesOf returns all strings, numbers, truths and lists of what a pointer leads to.
func leavesOf(pointer any) []reflect.Value {
	var l []reflect.Value
	eachLeaf(reflect.ValueOf(pointer).Elem(), func(v reflect.Value) { l = append(l, v) })
	return l
}

// without is a list without its element i.
func without[T any](l []T, i int) []T { return slices.Delete(slices.Clone(l), i, i+1) }
