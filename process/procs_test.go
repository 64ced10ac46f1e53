package process_test

import (
	"math/rand/v2"
	"reflect"
	"slices"
	"strconv"
	"testing"

	"wireloom/api"
	"wireloom/elaborate"
	"wireloom/process"
)

func source() *rand.Rand { return rand.New(rand.NewPCG(12, 54)) }

func oneOf[T any](r *rand.Rand, l ...T) T { return l[r.IntN(len(l))] }

func num(n int) api.Num { return api.Num{N: n} }

func node(op int, args ...api.Expr) api.Expr { return api.Expr{Op: op, Args: args} }

func constant(k, w int) api.Expr { return api.Expr{Op: api.EConst, K: num(k), W: num(w)} }

func reg(k int) api.Expr { return api.Expr{Op: api.EReg, K: num(k)} }

func data(k int) api.Expr { return api.Expr{Op: api.EData, K: num(k)} }

func read(k int, at api.Expr) api.Expr {
	return api.Expr{Op: api.ERead, K: num(k), Args: []api.Expr{at}}
}

func slice(k, w int, arg api.Expr) api.Expr {
	return api.Expr{Op: api.ESlice, K: num(k), W: num(w), Args: []api.Expr{arg}}
}

func extended(w int, arg api.Expr) api.Expr {
	return api.Expr{Op: api.EExt, W: num(w), Args: []api.Expr{arg}}
}

// yes and no are conditions that always hold, and never.
var yes, no = constant(1, 1), constant(0, 1)

func state(regs []int, mems ...[]int) api.ProcState { return api.ProcState{Regs: regs, Mems: mems} }

func word(v int) api.Head { return api.Head{Has: true, V: v} }

// situation is what a process finds at a tick.
type situation struct {
	S     api.ProcState
	Heads []api.Head
	Rooms []bool
}

func step(p api.Proc, x situation) api.Firing { return process.Step(p, x.S, x.Heads, x.Rooms) }

// maker makes random valid processes and expressions of them.
type maker struct {
	r *rand.Rand
	p api.Proc
}

func (m *maker) width() int { return oneOf(m.r, 1, 1, 2, 2, 3, 4, 5, 6, 7, 8) }

// sources returns expressions without arguments, and reads of memories, with a width.
func (m *maker) sources(w, depth int, withData bool) []api.Expr {
	l := []api.Expr{constant(m.r.IntN(1<<w), w)}
	for k, x := range m.p.Regs {
		if x.W == w {
			l = append(l, reg(k))
		}
	}
	for k, x := range m.p.Takes {
		if x.W == w && withData {
			l = append(l, data(k))
		}
	}
	for k, x := range m.p.Mems {
		if x.W == w && depth > 0 {
			l = append(l, read(k, m.expr(m.width(), depth-1, withData)))
		}
	}
	return l
}

// expr is an expression with a width.
func (m *maker) expr(w, depth int, withData bool) api.Expr {
	if depth == 0 || m.r.IntN(3) == 0 {
		return oneOf(m.r, m.sources(w, depth, withData)...)
	}
	ops := []int{api.ENot, api.EAnd, api.EOr, api.EXor, api.EAdd, api.ESub, api.EMux, api.ESlice, api.EExt}
	if w == 1 {
		ops = append(ops, api.EEq, api.ELt, api.EEq, api.ELt)
	} else {
		ops = append(ops, api.ECat, api.ECat)
	}
	e, args := api.Expr{Op: oneOf(m.r, ops...)}, []int{w, w}
	switch e.Op {
	case api.ENot:
		args = []int{w}
	case api.EMux:
		args = []int{1, w, w}
	case api.EEq, api.ELt:
		n := m.width()
		args = []int{n, n}
	case api.ECat:
		n := 1 + m.r.IntN(w-1)
		args = []int{n, w - n}
	case api.ESlice:
		n := w + m.r.IntN(mostBits+1-w)
		e.K, e.W, args = num(m.r.IntN(n-w+1)), num(w), []int{n}
	case api.EExt:
		e.W, args = num(w), []int{1 + m.r.IntN(w)}
	}
	for _, n := range args {
		e.Args = append(e.Args, m.expr(n, depth-1, withData))
	}
	return e
}

// condition is an expression with the width 1 that often holds.
func (m *maker) condition(withData bool) api.Expr {
	if m.r.IntN(3) == 0 {
		return yes
	}
	return m.expr(1, m.r.IntN(3), withData)
}

// procOf is a random process, without expressions that are too large.
func procOf(r *rand.Rand) api.Proc {
	m := &maker{r: r, p: api.Proc{Name: "p", Clock: "k"}}
	p := &m.p
	for k := range r.IntN(5) {
		w := m.width()
		p.Regs = append(p.Regs, api.Reg{Name: "r" + strconv.Itoa(k), W: w, Init: r.IntN(1 << w), Rule: api.Rule{Kind: r.IntN(4), From: "r0", N: 3}})
	}
	for k := range r.IntN(3) {
		p.Mems = append(p.Mems, api.Mem{Name: "m" + strconv.Itoa(k), W: m.width(), Words: oneOf(r, 1, 2, 4, 8)})
	}
	for k := range r.IntN(4) {
		p.Takes = append(p.Takes, api.Take{Chan: k, W: m.width()})
	}
	for k := range r.IntN(4) {
		p.Puts = append(p.Puts, api.Put{Chan: 9 + k, W: m.width()})
	}
	for k := range p.Regs {
		p.Regs[k].Next = m.expr(p.Regs[k].W, r.IntN(3), true)
	}
	for k := range p.Mems {
		x := &p.Mems[k]
		x.Enable, x.Addr, x.Data = m.condition(true), m.expr(m.width(), r.IntN(3), true), m.expr(x.W, r.IntN(3), true)
	}
	for k := range p.Takes {
		p.Takes[k].When = m.condition(false)
	}
	for k := range p.Puts {
		p.Puts[k].When, p.Puts[k].Data = m.condition(true), m.expr(p.Puts[k].W, r.IntN(3), true)
	}
	return *p
}

// stateOf is a random state of a process.
func stateOf(r *rand.Rand, p api.Proc) api.ProcState {
	var s api.ProcState
	for _, x := range p.Regs {
		s.Regs = append(s.Regs, r.IntN(1<<x.W))
	}
	for _, x := range p.Mems {
		var words []int
		for range x.Words {
			words = append(words, r.IntN(1<<x.W))
		}
		s.Mems = append(s.Mems, words)
	}
	return s
}

// headOf is a random head of a take with a width.
func headOf(r *rand.Rand, w int) api.Head {
	if r.IntN(4) == 0 {
		return api.Head{V: oneOf(r, 0, 1, r.IntN(1<<w), -1, 999)}
	}
	return word(r.IntN(1 << w))
}

// found is a random situation of a process.
func found(r *rand.Rand, p api.Proc) situation {
	x := situation{S: stateOf(r, p)}
	for _, t := range p.Takes {
		x.Heads = append(x.Heads, headOf(r, t.W))
	}
	for range p.Puts {
		x.Rooms = append(x.Rooms, r.IntN(4) > 0)
	}
	return x
}

// dataOf is random data of a process.
func dataOf(r *rand.Rand, p api.Proc) []int {
	var l []int
	for _, t := range p.Takes {
		l = append(l, r.IntN(1<<t.W))
	}
	return l
}

// eachSituation calls f for random processes, in some situations of each.
func eachSituation(t *testing.T, n int, f func(r *rand.Rand, p api.Proc, x situation)) {
	t.Helper()
	r := source()
	for range n {
		p := procOf(r)
		if !elaborate.ValidProc(p) { // there are a few with too many nodes
			continue
		}
		for range 5 {
			f(r, p, found(r, p))
		}
	}
}

// same reports whether two trees are equal, where nil lists and empty ones are.
func same[T any](a, b T) bool { return reflect.DeepEqual(copyOf(a), copyOf(b)) }

// copied is a tree with new lists, which have room behind their ends for so many elements, with values that no tree has.
func copied(v reflect.Value, room int) reflect.Value {
	c := reflect.New(v.Type()).Elem()
	c.Set(v)
	switch v.Kind() {
	case reflect.Slice:
		l := reflect.MakeSlice(v.Type(), v.Len(), v.Len()+room)
		for i := range v.Len() {
			l.Index(i).Set(copied(v.Index(i), room))
		}
		for i := range room {
			fill(l.Slice(0, l.Cap()).Index(v.Len() + i))
		}
		c.Set(l)
	case reflect.Struct:
		for i := range v.NumField() {
			c.Field(i).Set(copied(v.Field(i), room))
		}
	}
	return c
}

// eachLeaf calls f for all strings, numbers, truths and lists of a tree that can be changed.
func eachLeaf(v reflect.Value, f func(v reflect.Value)) {
	switch v.Kind() {
	case reflect.Struct:
		for i := range v.NumField() {
			eachLeaf(v.Field(i), f)
		}
	case reflect.Slice:
		for i := range v.Len() {
			eachLeaf(v.Index(i), f)
		}
		f(v)
	default:
		f(v)
	}
}

// fill overwrites what is in a tree.
func fill(v reflect.Value) {
	eachLeaf(v, func(v reflect.Value) {
		switch v.Kind() {
		case reflect.String:
			v.SetString("room!")
		case reflect.Int:
			v.SetInt(-77)
		case reflect.Bool:
			v.SetBool(!v.Bool())
		}
	})
}

func copyOf[T any](tree T) T { return copied(reflect.ValueOf(tree), 0).Interface().(T) }

// leavesOf returns all strings, numbers, truths and lists of what a pointer leads to.
func leavesOf(pointer any) []reflect.Value {
	var l []reflect.Value
	eachLeaf(reflect.ValueOf(pointer).Elem(), func(v reflect.Value) { l = append(l, v) })
	return l
}

// exprsIn returns the expressions of a process.
func exprsIn(p *api.Proc) []*api.Expr {
	var l []*api.Expr
	for k := range p.Regs {
		l = append(l, &p.Regs[k].Next)
	}
	for k := range p.Mems {
		l = append(l, &p.Mems[k].Enable, &p.Mems[k].Addr, &p.Mems[k].Data)
	}
	for k := range p.Takes {
		l = append(l, &p.Takes[k].When)
	}
	for k := range p.Puts {
		l = append(l, &p.Puts[k].When, &p.Puts[k].Data)
	}
	return l
}

// eachNode calls f for the nodes of an expression, the arguments first.
func eachNode(e *api.Expr, f func(e *api.Expr)) {
	for k := range e.Args {
		eachNode(&e.Args[k], f)
	}
	f(e)
}

// permuted is a list with the element at[k] as the element k.
func permuted[T any](l []T, at []int) []T {
	var all []T
	for _, k := range at {
		all = append(all, l[k])
	}
	return all
}

// reversal is the numbers below n, the highest one first.
func reversal(n int) []int {
	var l []int
	for k := range n {
		l = append(l, n-1-k)
	}
	return l
}

// reindexed is a process whose expressions with an operator have the indices to[K] in the place of K.
func reindexed(p api.Proc, op int, at []int) api.Proc {
	p = copyOf(p)
	for _, e := range exprsIn(&p) {
		eachNode(e, func(e *api.Expr) {
			if e.Op == op {
				e.K.N = slices.Index(at, e.K.N)
			}
		})
	}
	return p
}
