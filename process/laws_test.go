package process_test

import (
	"fmt"
	"math"
	"math/rand/v2"
	"reflect"
	"slices"
	"strings"
	"testing"

	"wireloom/api"
	"wireloom/bits"
	"wireloom/elaborate"
	"wireloom/process"
)

// Random processes, in situations of which many let them fire.
func TestP12_1RandomSteps(t *testing.T) {
	fires, idle, pops, puts := 0, 0, 0, 0
	eachSituation(t, 4000, func(r *rand.Rand, p api.Proc, x situation) {
		f := checkStep(t, p, x)
		if !f.Fires {
			idle++
		} else {
			fires++
		}
		for _, popped := range f.Pops {
			if popped {
				pops++
			}
		}
		for _, h := range f.Puts {
			if h.Has {
				puts++
			}
		}
	})
	if fires < 4000 || idle < 2000 || pops < 2000 || puts < 2000 {
		t.Error(fires, idle, pops, puts)
	}
}

// Some steps one after the other, from the start on.
func TestP12_1Runs(t *testing.T) {
	r := source()
	for range 1000 {
		p := procOf(r)
		if !elaborate.ValidProc(p) {
			continue
		}
		s := process.Reset(p)
		for k, x := range p.Regs {
			if s.Regs[k] != x.Init {
				t.Errorf("%+v: %v", p, s)
			}
		}
		for range 10 {
			x := found(r, p)
			x.S = s
			s = checkStep(t, p, x).S
		}
	}
}

func TestP12_1RandomValues(t *testing.T) {
	ops := map[int]int{}
	eachExpression(2000, func(r *rand.Rand, p api.Proc, x situation, e api.Expr) {
		checkValue(t, p, x.S, dataOf(r, p), e)
		eachNode(&e, func(e *api.Expr) { ops[e.Op]++ })
	})
	for _, op := range []int{api.EConst, api.ENot, api.EAnd, api.EOr, api.EXor, api.EAdd, api.ESub, api.EEq, api.ELt, api.EMux, api.ECat, api.ESlice, api.EExt, api.EReg, api.EData, api.ERead} {
		if ops[op] < 300 {
			t.Errorf("the operator %d only %d times", op, ops[op])
		}
	}
}

// eachExpression calls f for expressions of random processes, which can have more nodes than the process may have.
func eachExpression(n int, f func(r *rand.Rand, p api.Proc, x situation, e api.Expr)) {
	r := source()
	for range n {
		p := procOf(r)
		m := &maker{r, p}
		for range 5 {
			f(r, p, found(r, p), m.expr(m.width(), 1+r.IntN(5), true))
		}
	}
}

// Each part of states changed in turn, and of the processes.
func TestP12_1EachPartOfStates(t *testing.T) {
	is := map[bool]int{}
	eachSituation(t, 100, func(r *rand.Rand, p api.Proc, x situation) {
		for at := range leavesOf(&x.S) {
			s := copyOf(x.S)
			v := leavesOf(&s)[at]
			for _, other := range changes(v) {
				v.Set(other)
				is[checkState(t, p, s)]++
			}
		}
		for k := range p.Regs {
			for _, w := range []int{1, 2, 4, 8} {
				q := copyOf(p)
				q.Regs[k].W = w
				is[checkState(t, q, x.S)]++
			}
		}
		for k := range p.Mems {
			for _, n := range []int{1, 2, 4, 8} {
				q := copyOf(p)
				q.Mems[k].W = n
				is[checkState(t, q, x.S)]++
				q = copyOf(p)
				q.Mems[k].Words = n
				is[checkState(t, q, x.S)]++
			}
		}
	})
	if is[true] < 3000 || is[false] < 3000 {
		t.Error(is)
	}
}

// changes returns other values for a number or a list.
func changes(v reflect.Value) []reflect.Value {
	var all []reflect.Value
	if v.Kind() == reflect.Int {
		for _, n := range []int{-2, -1, 0, 1, 2, 3, 4, 7, 8, 15, 16, 31, 32, 63, 64, 127, 128, 255, 256, 1 << 32, math.MinInt, math.MaxInt} {
			all = append(all, reflect.ValueOf(n))
		}
		return all
	}
	list := func(parts ...reflect.Value) reflect.Value {
		l := reflect.MakeSlice(v.Type(), 0, v.Len()+1)
		for _, part := range parts {
			l = reflect.AppendSlice(l, part)
		}
		return l
	}
	for i := range v.Len() {
		all = append(all, list(v.Slice(0, i)), list(v.Slice(0, i), v.Slice(i+1, v.Len())), list(v, v.Slice(i, i+1)))
	}
	return append(all, reflect.Append(list(v), reflect.Zero(v.Type().Elem())))
}

// Where a process starts and what it does are states, words and takes of it; without firing, nothing changes.
func TestP12_2States(t *testing.T) {
	eachSituation(t, 4000, func(r *rand.Rand, p api.Proc, x situation) {
		f := step(p, x)
		if !process.ValidState(p, process.Reset(p)) || !process.ValidState(p, f.S) || len(f.Pops) != len(p.Takes) || len(f.Puts) != len(p.Puts) {
			t.Fatalf("%+v: %+v, and %+v", p, process.Reset(p), f)
		}
		for k, popped := range f.Pops {
			if popped && (!x.Heads[k].Has || !f.Fires) {
				t.Errorf("%+v in %+v removes the word %d", p, x, k)
			}
		}
		for k, h := range f.Puts {
			if h.V < 0 || h.V >= 1<<p.Puts[k].W || !h.Has && h.V != 0 || h.Has && (!f.Fires || !x.Rooms[k]) {
				t.Errorf("%+v in %+v puts %+v", p, x, h)
			}
		}
		if !f.Fires && !same(f.S, x.S) {
			t.Errorf("%+v: %+v becomes %+v", p, x.S, f.S)
		}
	})
}

// full is a situation with words at all takes and room at all puts.
func full(r *rand.Rand, p api.Proc, x situation) situation {
	x = copyOf(x)
	for k, t := range p.Takes {
		x.Heads[k] = word(r.IntN(1 << t.W))
	}
	for k := range x.Rooms {
		x.Rooms[k] = true
	}
	return x
}

func TestP12_3Fires(t *testing.T) {
	eachSituation(t, 3000, func(r *rand.Rand, p api.Proc, x situation) {
		x = full(r, p, x)
		if f := step(p, x); !f.Fires {
			t.Errorf("%+v does not fire in %+v", p, x)
		}
	})
}

// What is found where nothing is taken or put does not matter.
func TestP12_3WhatIsNotDue(t *testing.T) {
	others := 0
	eachSituation(t, 3000, func(r *rand.Rand, p api.Proc, x situation) {
		f := step(p, x)
		if !f.Fires {
			x = full(r, p, x)
			f = step(p, x)
		}
		for range 3 {
			y := copyOf(x)
			for k, popped := range f.Pops {
				if !popped {
					others++
					y.Heads[k] = headOf(r, p.Takes[k].W)
				}
			}
			for k, h := range f.Puts {
				if !h.Has {
					others++
					y.Rooms[k] = !x.Rooms[k]
				}
			}
			if g := step(p, y); !same(g, f) {
				t.Errorf("%+v: in %+v %+v, and in %+v %+v", p, x, f, y, g)
			}
		}
	})
	if others < 10000 {
		t.Error(others)
	}
}

// A word that is missing where one is taken, and room where one is put, keep a process from firing.
func TestP12_3WhatIsDue(t *testing.T) {
	missing := 0
	eachSituation(t, 2000, func(r *rand.Rand, p api.Proc, x situation) {
		x = full(r, p, x)
		f := step(p, x)
		for k, popped := range f.Pops {
			y := copyOf(x)
			y.Heads[k].Has = false
			if popped && step(p, y).Fires {
				t.Errorf("%+v fires in %+v", p, y)
			}
		}
		for k, h := range f.Puts {
			y := copyOf(x)
			y.Rooms[k] = false
			if h.Has {
				missing++
				if step(p, y).Fires {
					t.Errorf("%+v fires in %+v", p, y)
				}
			}
		}
	})
	if missing < 2000 {
		t.Error(missing)
	}
}

// The value of an expression is that of its operator for the values of its arguments.
func TestP12_4Evaluation(t *testing.T) {
	eachExpression(1500, func(r *rand.Rand, p api.Proc, x situation, e api.Expr) {
		words := dataOf(r, p)
		eval := func(e api.Expr) int { return process.Eval(p, x.S, words, e) }
		eachNode(&e, func(e *api.Expr) {
			var args, widths []int
			for _, arg := range e.Args {
				w, _ := elaborate.Width(p, arg)
				args, widths = append(args, eval(arg)), append(widths, w)
			}
			var want int
			switch e.Op {
			case api.EReg:
				want = x.S.Regs[e.K.N]
			case api.EData:
				want = words[e.K.N]
			case api.ERead:
				l := x.S.Mems[e.K.N]
				want = l[args[0]%len(l)]
			default:
				var errno api.Errno
				if want, errno = bits.Apply(e.Op, widths, args, []int{e.K.N, e.W.N}); errno != api.OK {
					t.Fatalf("%+v: %v of %v", e, args, widths)
				}
			}
			w, errno := elaborate.Width(p, *e)
			if v := eval(*e); v != want || v < 0 || v >= 1<<w || errno != api.OK {
				t.Errorf("%+v with the width %d: %d, want %d", e, w, v, want)
			}
		})
	})
}

// What a memory is written is read at the same address behind the step, and at no other one.
func TestP12_5Memories(t *testing.T) {
	written, kept := 0, 0
	eachSituation(t, 4000, func(r *rand.Rand, p api.Proc, x situation) {
		f := step(p, x)
		words := make([]int, len(p.Takes)) // the current data
		for k, h := range x.Heads {
			if f.Fires && f.Pops[k] {
				words[k] = h.V
			}
		}
		for k, m := range p.Mems {
			at := -1
			if f.Fires && process.Eval(p, x.S, words, m.Enable) == 1 {
				at = process.Eval(p, x.S, words, m.Addr)
				if v := process.Eval(p, f.S, nil, read(k, constant(at, mostBits))); v != process.Eval(p, x.S, words, m.Data) {
					t.Errorf("%+v in %+v: %d at %d of the memory %d", p, x, v, at, k)
				}
				written++
			}
			for n := range m.Words {
				before, after := process.Eval(p, x.S, nil, read(k, constant(n, 3))), process.Eval(p, f.S, nil, read(k, constant(n, 3)))
				if (at < 0 || n != at%m.Words) && before != after {
					t.Errorf("%+v in %+v: %d at %d of the memory %d", p, x, after, n, k)
				}
				kept++
			}
		}
	})
	if written < 3000 || kept < 20000 {
		t.Error(written, kept)
	}
}

// With its registers in another order, above all in the reverse one, a process goes to the same state in this order.
func TestP12_6Simultaneity(t *testing.T) {
	changed := 0
	eachSituation(t, 3000, func(r *rand.Rand, p api.Proc, x situation) {
		f := step(p, x)
		for _, at := range [][]int{reversal(len(p.Regs)), r.Perm(len(p.Regs))} {
			q := reindexed(p, api.EReg, at)
			q.Regs = permuted(q.Regs, at)
			y := copyOf(x)
			y.S.Regs = permuted(y.S.Regs, at)
			want := copyOf(f)
			want.S.Regs = permuted(want.S.Regs, at)
			if g := step(q, y); !same(g, want) {
				t.Errorf("%+v in %+v: %+v, and in the order %v %+v", p, x, f, at, g)
			}
			if !same(want.S, f.S) {
				changed++
			}
		}
	})
	if changed < 3000 {
		t.Error(changed)
	}
}

// So it does with its memories in the reverse order.
func TestP12_6Memories(t *testing.T) {
	eachSituation(t, 2000, func(r *rand.Rand, p api.Proc, x situation) {
		f := step(p, x)
		at := reversal(len(p.Mems))
		q := reindexed(p, api.ERead, at)
		q.Mems, x.S.Mems, f.S.Mems = permuted(q.Mems, at), permuted(x.S.Mems, at), permuted(f.S.Mems, at)
		if g := step(q, x); !same(g, f) {
			t.Errorf("%+v in %+v: %+v, want %+v", q, x, g, f)
		}
	})
}

// arrays is all lists of a tree, with what stands behind their ends in the same arrays.
func arrays(tree any) string {
	var s strings.Builder
	eachLeaf(reflect.ValueOf(tree), func(v reflect.Value) {
		if v.Kind() == reflect.Slice {
			fmt.Fprintf(&s, "%d of %+v\n", v.Len(), v.Slice(0, v.Cap()))
		}
	})
	return s.String()
}

// roomy is a tree with room behind the ends of its lists.
func roomy[T any](tree T, room int) T { return copied(reflect.ValueOf(tree), room).Interface().(T) }

func TestL4ArgumentsStay(t *testing.T) {
	eachSituation(t, 400, func(r *rand.Rand, p api.Proc, x situation) {
		words := dataOf(r, p)
		q, s, heads, rooms, l := roomy(p, 1+r.IntN(5)), roomy(x.S, 1+r.IntN(9)), roomy(x.Heads, 2), roomy(x.Rooms, 3), roomy(words, 1+r.IntN(3))
		before := arrays(q) + arrays(s) + arrays(heads) + arrays(rooms) + arrays(l)
		f, again := process.Step(q, s, heads, rooms), stepAsSaid(p, x)
		start, is := process.Reset(q), process.ValidState(q, s)
		for _, e := range exprsIn(&q) {
			process.Eval(q, s, l, *e)
		}
		if after := arrays(q) + arrays(s) + arrays(heads) + arrays(rooms) + arrays(l); after != before {
			t.Errorf("%s: then %s", before, after)
		}
		if !same(f, again) || !is || !process.ValidState(p, start) {
			t.Errorf("%+v in %+v: %+v", p, x, f)
		}
		process.Step(q, f.S, heads, rooms)
		if !same(f, again) {
			t.Errorf("%+v in %+v: %+v after the next step", p, x, f)
		}
	})
}

// overwrite changes everything that a tree refers to, up to the ends of its arrays.
func overwrite(tree any) {
	eachLeaf(reflect.ValueOf(tree), func(v reflect.Value) {
		if v.Kind() == reflect.Slice {
			v = v.Slice(0, v.Cap())
			for i := range v.Len() {
				if v.Index(i).Kind() != reflect.Slice {
					fill(v.Index(i))
				}
			}
		}
	})
}

// A result shares no memory with the arguments, and no two lists of it share any.
func TestL4ResultsAreNew(t *testing.T) {
	eachSituation(t, 400, func(r *rand.Rand, p api.Proc, x situation) {
		q, y := copyOf(p), copyOf(x)
		f, start := step(q, y), process.Reset(q)
		keptF, keptStart := copyOf(f), copyOf(start)
		seen := map[uintptr]bool{}
		for _, v := range append(leavesOf(&f), leavesOf(&start)...) {
			if v.Kind() == reflect.Slice && v.Cap() > 0 {
				if seen[v.Pointer()] {
					t.Errorf("shared memory in %+v", f)
				}
				seen[v.Pointer()] = true
			}
		}
		overwrite(f)
		overwrite(start)
		if !same(p, q) || !same(x, y) {
			t.Errorf("%+v in %+v: became %+v in %+v", p, x, q, y)
		}
		f, start = step(q, y), process.Reset(q)
		overwrite(q)
		overwrite(y.S)
		overwrite(y.Heads)
		overwrite(y.Rooms)
		if !same(f, keptF) || !same(start, keptStart) {
			t.Errorf("%+v: then %+v", keptF, f)
		}
	})
}

// Expressions with more ways to their parts than could be counted.
func TestP1SharedExpressions(t *testing.T) {
	p := api.Proc{Regs: []api.Reg{{W: 8}, {W: 1}}, Mems: []api.Mem{{W: 8, Words: 8}}}
	s := state([]int{77, 1}, []int{1, 2, 3, 4, 5, 6, 7, 0})
	kept, doubled, chosen, at := reg(0), reg(0), reg(0), constant(0, 8)
	for n := range 1000 {
		kept = node(api.ESub, node(api.EAdd, kept, kept), kept)
		doubled = node(api.EAdd, doubled, doubled)
		chosen = node(api.EMux, reg(1), chosen, chosen)
		at = read(0, node(api.EOr, at, at))
		if v := process.Eval(p, s, nil, kept); v != 77 {
			t.Fatal(n, v)
		}
		if v, want := process.Eval(p, s, nil, doubled), 77<<min(n+1, 8)%256; v != want {
			t.Fatal(n, v, want)
		}
		if v := process.Eval(p, s, nil, chosen); v != 77 {
			t.Fatal(n, v)
		}
		if v := process.Eval(p, s, nil, at); v != (n+1)%8 {
			t.Fatal(n, v)
		}
	}
}

// Lists of arguments that have some of their elements in common, and the same argument with other words each time.
func TestP1OverlappingExpressions(t *testing.T) {
	args := []api.Expr{reg(0), data(0), node(api.ENot, reg(0)), node(api.EXor, data(0), reg(1)), reg(1)}
	p := api.Proc{
		Regs: []api.Reg{{W: 1, Next: node(api.EMux, args[:3]...)}, {W: 1, Next: node(api.EAnd, args[1:3]...)}}, Takes: []api.Take{{W: 1, When: node(api.EOr, args[4], args[2])}},
		Puts: []api.Put{{W: 1, When: node(api.EMux, args[2:]...), Data: node(api.EEq, args[3:]...)}, {W: 1, When: node(api.ENot, args[3:4]...), Data: node(api.ELt, args[1:3]...)}},
	}
	for set := range 1 << 6 {
		bit := func(n int) int { return set >> n & 1 }
		x := situation{state([]int{bit(0), bit(1)}), []api.Head{{Has: bit(2) == 1, V: bit(3)}}, []bool{bit(4) == 1, bit(5) == 1}}
		checkStep(t, p, x)
		for _, e := range exprsIn(&p) {
			checkValue(t, p, x.S, []int{bit(3)}, *e)
			checkValue(t, p, x.S, []int{bit(2)}, *e)
		}
	}
}

func TestP1DeepExpressions(t *testing.T) {
	p := api.Proc{Regs: []api.Reg{{W: 5}}, Mems: []api.Mem{{W: 3, Words: 8}}}
	s := state([]int{9}, []int{1, 2, 3, 4, 5, 6, 7, 0})
	inverted, at := reg(0), reg(0)
	const n = 1<<17 + 1
	for range n {
		inverted, at = node(api.ENot, inverted), read(0, at)
	}
	if v := process.Eval(p, s, nil, inverted); v != 22 {
		t.Error(v)
	}
	if v := process.Eval(p, s, nil, at); v != (9+n)%8 {
		t.Error(v)
	}
}

// The largest processes: 200 nodes in a chain, and in a row.
func TestP1LargeProcesses(t *testing.T) {
	e := reg(0)
	for range 199 {
		e = node(api.ENot, e)
	}
	checkFiring(t, api.Proc{Regs: []api.Reg{{W: 8, Next: e}}}, situation{S: state([]int{255})}, api.Firing{Fires: true, S: state([]int{0})})
	var p api.Proc
	var x, want situation
	for k := range 100 {
		p.Regs = append(p.Regs, api.Reg{Name: fmt.Sprint(k), W: 8, Next: reg((k + 1) % 100)})
		p.Takes = append(p.Takes, api.Take{W: 8, When: yes})
		x.S.Regs, x.Heads = append(x.S.Regs, k), append(x.Heads, word(k))
		want.S.Regs = append(want.S.Regs, (k+1)%100)
	}
	checkFiring(t, p, x, api.Firing{Fires: true, S: want.S, Pops: slices.Repeat([]bool{true}, 100)})
}

// around is an expression that has itself as all of its n arguments.
func around(op, n int) api.Expr {
	args := make([]api.Expr, n)
	for i := range args {
		args[i] = api.Expr{Op: op, Args: args}
	}
	return args[0]
}

// No function fails or goes on without an end for arguments whose results are not specified.
func TestP1NotSpecified(t *testing.T) {
	all := func(p api.Proc, x situation, words []int) {
		process.ValidState(p, x.S)
		process.Reset(p)
		step(p, x)
		for _, e := range exprsIn(&p) {
			process.Eval(p, x.S, words, *e)
		}
	}
	r := source()
	eachSituation(t, 20, func(_ *rand.Rand, p api.Proc, x situation) {
		other := procOf(r)
		y := found(r, other)
		words := dataOf(r, p)
		all(p, y, words)
		all(other, x, words)
		all(p, situation{x.S, nil, x.Rooms}, nil)
		all(p, situation{x.S, y.Heads, nil}, nil)
		for at := range leavesOf(&p) {
			q := copyOf(p)
			v := leavesOf(&q)[at]
			if v.Kind() == reflect.String {
				continue
			}
			for _, change := range changes(v) {
				v.Set(change)
				all(q, x, words)
			}
		}
	})
	for op := -1; op <= 20; op++ {
		for n := range 4 {
			e := api.Expr{Op: op}
			if n > 0 {
				e = around(op, n)
			}
			p := api.Proc{Regs: []api.Reg{{W: 1, Next: e}}, Mems: []api.Mem{{W: 1, Words: 1, Enable: e, Addr: e, Data: e}}, Takes: []api.Take{{W: 1, When: e}}, Puts: []api.Put{{W: 1, When: e, Data: e}}}
			all(p, situation{state([]int{1}, []int{1}), []api.Head{word(1)}, []bool{true}}, []int{1})
		}
	}
}
