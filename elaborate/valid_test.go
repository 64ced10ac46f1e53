package elaborate_test

import (
	"math"
	"math/rand/v2"
	"reflect"
	"slices"
	"testing"

	"wireloom/api"
	"wireloom/elaborate"
)

func reg(k int) api.Expr  { return api.Expr{Op: api.EReg, K: num(k)} }
func data(k int) api.Expr { return api.Expr{Op: api.EData, K: num(k)} }

func read(k int, at api.Expr) api.Expr {
	return api.Expr{Op: api.ERead, K: num(k), Args: []api.Expr{at}}
}

func resized(op, k, w int, arg api.Expr) api.Expr {
	return api.Expr{Op: op, K: num(k), W: num(w), Args: []api.Expr{arg}}
}

// several is a process with registers, memories and takes of the widths 1, 4 and 8, and of widths that there are not.
var several = api.Proc{
	Regs:  []api.Reg{{W: 1}, {W: 4}, {W: 8}, {W: 0}, {W: 9}, {W: -1}, {W: math.MaxInt}},
	Mems:  []api.Mem{{W: 4}, {W: 1}, {W: 8}, {W: 0}, {W: 9}, {W: -1}, {W: math.MinInt}},
	Takes: []api.Take{{W: 8}, {W: 4}, {W: 1}, {W: 0}, {W: 9}, {W: -1}, {W: 1 << 32}},
}

// Expressions of the process, with their widths.
var known = []struct {
	e     api.Expr
	width int
}{
	{reg(0), 1}, {reg(1), 4}, {reg(2), 8}, {reg(3), 0}, {reg(4), 0}, {reg(5), 0}, {reg(6), 0}, {reg(7), 0}, {reg(-1), 0}, {reg(math.MaxInt), 0}, {reg(math.MinInt), 0},
	{data(0), 8}, {data(1), 4}, {data(2), 1}, {data(3), 0}, {data(4), 0}, {data(5), 0}, {data(6), 0}, {data(7), 0}, {data(-1), 0}, {data(math.MaxInt), 0}, {data(math.MinInt), 0},
	{read(0, reg(0)), 4}, {read(1, reg(1)), 1}, {read(2, data(0)), 8}, {read(0, read(2, one)), 4}, {read(3, one), 0}, {read(4, one), 0}, {read(5, one), 0}, {read(6, one), 0}, {read(7, one), 0}, {read(-1, one), 0}, {read(math.MaxInt, one), 0}, {read(math.MinInt, one), 0},
	{read(0, reg(4)), 0}, {read(0, reg(7)), 0}, {read(0, api.Expr{}), 0}, {read(0, read(3, one)), 0}, {read(1, constant(2, 1)), 0},
	{node(api.EReg, one), 0}, {node(api.EData, one), 0}, {node(api.ERead), 0}, {node(api.ERead, one, one), 0}, {node(api.EReg), 1}, {node(api.EData), 8}, {node(api.ERead, one), 4},
	{constant(0, 1), 1}, {constant(1, 1), 1}, {constant(2, 1), 0}, {constant(255, 8), 8}, {constant(256, 8), 0}, {constant(-1, 8), 0}, {constant(0, 0), 0}, {constant(0, 9), 0}, {constant(0, -1), 0}, {node(api.EConst), 0}, {constant(15, 4), 4}, {constant(16, 4), 0},
	{api.Expr{Op: api.EConst, W: num(1), Args: []api.Expr{one}}, 0}, {constant(math.MinInt, 8), 0}, {constant(1, math.MaxInt), 0},
	{node(api.ENot, reg(1)), 4}, {node(api.ENot, reg(3)), 0}, {node(api.ENot), 0}, {node(api.ENot, one, one), 0},
	{node(api.EMux, one, reg(1), data(1)), 4}, {node(api.EMux, reg(1), reg(1), data(1)), 0}, {node(api.EMux, one, reg(1), reg(0)), 0}, {node(api.EMux, one, one), 0}, {node(api.EMux, one, one, one, one), 0}, {node(api.EMux, reg(0), reg(0), reg(0)), 1},
	{node(api.ECat, reg(0), reg(1)), 5}, {node(api.ECat, reg(1), reg(1)), 8}, {node(api.ECat, reg(2), reg(0)), 0}, {node(api.ECat, one), 0}, {node(api.ECat, one, reg(5)), 0}, {node(api.ECat, constant(0, 3), reg(1)), 7},
	{resized(api.ESlice, 0, 4, reg(1)), 4}, {resized(api.ESlice, 3, 1, reg(1)), 1}, {resized(api.ESlice, 1, 4, reg(1)), 0}, {resized(api.ESlice, -1, 2, reg(1)), 0}, {resized(api.ESlice, 4, 0, reg(1)), 0}, {resized(api.ESlice, 0, 0, reg(1)), 0}, {resized(api.ESlice, math.MaxInt, math.MaxInt, reg(1)), 0},
	{resized(api.ESlice, 2, math.MinInt, reg(1)), 0}, {resized(api.ESlice, 0, 1, reg(3)), 0}, {api.Expr{Op: api.ESlice, W: num(1)}, 0}, {api.Expr{Op: api.ESlice, W: num(1), Args: []api.Expr{one, one}}, 0},
	{resized(api.EExt, 0, 4, reg(1)), 4}, {resized(api.EExt, 0, 8, reg(1)), 8}, {resized(api.EExt, 0, 3, reg(1)), 0}, {resized(api.EExt, 0, 9, reg(1)), 0}, {resized(api.EExt, 0, 8, reg(4)), 0}, {api.Expr{Op: api.EExt, W: num(1)}, 0}, {api.Expr{Op: api.EExt, W: num(1), Args: []api.Expr{one, one}}, 0},
	{ref("r"), 0}, {node(api.ERef), 0}, {node(api.EMem, one), 0}, {api.Expr{Op: api.EMem, Name: "m", Args: []api.Expr{one}}, 0}, {api.Expr{}, 0}, {node(-1), 0}, {node(19), 0}, {node(math.MinInt, one), 0}, {node(math.MaxInt), 0},
}

func TestP11_1Width(t *testing.T) {
	for _, x := range known {
		if w := checkWidth(t, several, x.e); w != x.width {
			t.Errorf("%s: %d, want %d", showExpr(x.e), w, x.width)
		}
		if _, e := elaborate.Width(api.Proc{}, node(api.ENot, x.e)); x.width == 0 && e != api.ErrCircuit {
			t.Error(showExpr(x.e), e)
		}
	}
	for _, op := range []int{api.EAnd, api.EOr, api.EXor, api.EAdd, api.ESub, api.EEq, api.ELt} {
		for a := range 9 {
			for b := range 9 {
				want := 0
				switch {
				case a != b || a == 0:
				case op == api.EEq || op == api.ELt:
					want = 1
				default:
					want = a
				}
				if w := checkWidth(t, several, node(op, constant(0, a), constant(0, b))); w != want {
					t.Errorf("%d of %d and %d: %d, want %d", op, a, b, w, want)
				}
			}
		}
		for n := range 5 {
			checkWidth(t, several, node(op, slices.Repeat([]api.Expr{reg(1)}, n)...))
		}
	}
}

// Fields that an operator does not use have to be zero values.
func TestP11_1UnusedFields(t *testing.T) {
	for _, x := range known {
		if x.width == 0 {
			continue
		}
		used := operatorNumbers[x.e.Op]
		for field, changes := range map[string][]func(e *api.Expr){
			"":  {func(e *api.Expr) { e.Name = "r" }, func(e *api.Expr) { e.K.Param = "w" }, func(e *api.Expr) { e.W.Param = "w" }},
			"K": {func(e *api.Expr) { e.K.N = 1 }, func(e *api.Expr) { e.K.N = -1 }, func(e *api.Expr) { e.K.N = math.MinInt }},
			"W": {func(e *api.Expr) { e.W.N = 1 }, func(e *api.Expr) { e.W.N = x.width }, func(e *api.Expr) { e.W.N = -1 }},
		} {
			for _, change := range changes {
				e := copyOf(x.e)
				change(&e)
				w := checkWidth(t, several, e)
				if w != 0 && (field == "" || field == "K" && used != "K" && used != "K W" || field == "W" && used != "W" && used != "K W") {
					t.Errorf("%s: %d", showExpr(e), w)
				}
				checkWidth(t, several, node(api.ENot, e))
				checkWidth(t, several, read(2, e))
			}
		}
	}
}

// wildExpr is an expression of circuits that has a width most of the time.
func wildExpr(r *rand.Rand, depth int) api.Expr {
	e := oneOf(r, reg(r.IntN(3)), data(r.IntN(3)), constant(r.IntN(2), 1+r.IntN(8)))
	if depth > 0 && r.IntN(4) > 0 {
		args := []api.Expr{wildExpr(r, depth-1), wildExpr(r, depth-1), wildExpr(r, depth-1)}
		e = oneOf(r, node(api.ENot+r.IntN(10), args[:1+r.IntN(3)]...), node(api.EAnd+r.IntN(7), args[0], args[0]), node(api.EMux, one, args[0], args[0]), node(api.ECat, args[0], args[1]), read(r.IntN(3), args[0]), resized(api.ESlice, r.IntN(3), 1+r.IntN(3), args[0]), resized(api.EExt, 0, 4+r.IntN(5), args[0]))
	}
	if r.IntN(50) == 0 {
		e = oneOf(r, node(r.IntN(21)-1, e.Args...), api.Expr{Op: e.Op, K: e.K, W: num(r.IntN(10)), Args: e.Args}, api.Expr{Op: e.Op, Name: oneOf(r, "", "r"), K: api.Num{N: r.IntN(9), Param: oneOf(r, "", "", "w")}, W: e.W, Args: e.Args})
	}
	return e
}

func TestP11_1RandomWidths(t *testing.T) {
	r := source()
	found := map[int]int{}
	for range 20000 {
		found[checkWidth(t, several, wildExpr(r, 3))]++
	}
	for w := range 9 {
		if found[w] < 100 {
			t.Errorf("the width %d only %d times", w, found[w])
		}
	}
}

// changes returns other values for a string, a number or a list.
func changes(v reflect.Value, names []string) []reflect.Value {
	var all []reflect.Value
	switch v.Kind() {
	case reflect.String:
		for _, name := range names {
			all = append(all, reflect.ValueOf(name))
		}
	case reflect.Int:
		for n := -2; n < 20; n++ {
			all = append(all, reflect.ValueOf(n))
		}
		all = append(all, reflect.ValueOf(255), reflect.ValueOf(256), reflect.ValueOf(math.MinInt), reflect.ValueOf(math.MaxInt))
	default:
		for i := range v.Len() {
			without := reflect.AppendSlice(reflect.MakeSlice(v.Type(), 0, v.Len()), v.Slice(0, i))
			all = append(all, v.Slice(0, i), reflect.AppendSlice(without, v.Slice(i+1, v.Len())))
			all = append(all, reflect.Append(reflect.AppendSlice(reflect.MakeSlice(v.Type(), 0, v.Len()+1), v), v.Index(i)))
		}
		all = append(all, reflect.Append(reflect.AppendSlice(reflect.MakeSlice(v.Type(), 0, v.Len()+1), v), reflect.Zero(v.Type().Elem())))
	}
	return all
}

// circuits is some valid circuits that have everything.
func circuits(t *testing.T) []api.Circuit {
	t.Helper()
	var l []api.Circuit
	for _, text := range []string{
		"module m() @ k { " + allKinds + " }",
		`module m() @ k { in a: 2; out b: 3; chan c: 4 [3]; chan d: 1 [8]; inst x: n(2, 4) (a = a, b = c); inst y: n(4, 1) (a = c, b = d); take d if (r == [1 : 3]); reg r: 3 = 5 -> {{r @ 1 : 2} : 3} add old 3; put b if d = r; mem q: 8 [8] if ~d at (r . d) = q[r] copy r; }
		module n(v, w) @ l { in a: v; out b: w; reg s: 2 = 2 -> {a @ 0 : 2} keep; mem t: w [4] if (s < s) at a = t[s] init; take a if [1 : 1]; put b if {(a . s) @ 3 : 1} = t[((s == s) ? s : ~s)]; }`,
	} {
		c, e := elaborate.Elaborate(fileOf(t, text), "m", nil)
		if e != api.OK || !checkValid(t, c) {
			t.Fatal(text, e, show(c))
		}
		l = append(l, c)
	}
	return l
}

// Each string, number and list of a circuit changed in turn.
func TestP11_1EachPartOfCircuits(t *testing.T) {
	found := map[bool]int{}
	for _, c := range circuits(t) {
		for at := range leavesOf(&c) {
			d := copyOf(c)
			v := leavesOf(&d)[at]
			for _, x := range changes(v, []string{"", "r", "s", "m", "m.x", "m.c", "m.a", "other"}) {
				v.Set(x)
				found[checkValid(t, d)]++
				for _, p := range d.Procs {
					checkProc(t, p)
				}
			}
		}
	}
	if found[false] < 5000 || found[true] < 500 {
		t.Error(found)
	}
}

// first is a process that takes from the channel 0 and puts into the channel 1; second is one that takes from that.
func first() api.Proc {
	return api.Proc{
		Name: "first", Clock: "k", Regs: []api.Reg{{Name: "r", W: 2, Init: 3, Next: reg(0), Rule: api.Rule{Kind: api.RAdd, From: "old", N: 5}}, {Name: "s", W: 8, Init: 255, Next: reg(1)}},
		Mems:  []api.Mem{{Name: "m", W: 2, Words: 4, Enable: one, Addr: reg(1), Data: reg(0), Rule: api.Rule{Kind: api.RCopy}}, {Name: "n", W: 1, Words: 8, Enable: one, Addr: reg(0), Data: one}},
		Takes: []api.Take{{Chan: 0, W: 2, When: one}}, Puts: []api.Put{{Chan: 1, W: 2, When: one, Data: data(0)}},
	}
}

func second() api.Proc {
	return api.Proc{Name: "second", Takes: []api.Take{{Chan: 1, W: 2, When: one}}}
}

// The lines of "valid" for processes: what is valid, and what is not.
func TestP11_1ValidProcesses(t *testing.T) {
	for want, all := range map[bool][]func(p *api.Proc){
		true: {
			func(p *api.Proc) {}, func(p *api.Proc) { *p = api.Proc{} }, func(p *api.Proc) { p.Name, p.Clock = "", "" }, func(p *api.Proc) { p.Regs[0].Name, p.Mems[0].Name = "", "A B" },
			func(p *api.Proc) { p.Regs[0].Init = 0 }, func(p *api.Proc) { p.Regs[1].W, p.Regs[1].Init, p.Regs[1].Next = 1, 1, one },
			func(p *api.Proc) { p.Regs[0].Rule = api.Rule{} }, func(p *api.Proc) { p.Regs[0].Rule.Kind = api.RKeep }, func(p *api.Proc) { p.Regs[0].Rule = api.Rule{Kind: api.RCopy, From: "A B", N: -7} }, func(p *api.Proc) { p.Regs[0].Rule.N = math.MinInt },
			func(p *api.Proc) { p.Mems[0].Words = 1 }, func(p *api.Proc) { p.Mems[0].Words = 2 }, func(p *api.Proc) { p.Mems[0].Words = 8 }, func(p *api.Proc) { p.Mems[0].Addr = one }, func(p *api.Proc) { p.Mems[0].Addr = data(0) },
			func(p *api.Proc) { p.Takes[0].Chan = 5 }, func(p *api.Proc) { p.Puts[0].Chan = math.MaxInt }, func(p *api.Proc) { p.Puts[0].Chan, p.Takes[0].Chan = 3, 3 }, func(p *api.Proc) { p.Puts = append(p.Puts, p.Puts[0]) }, func(p *api.Proc) { p.Takes = append(p.Takes, p.Takes[0]) },
			func(p *api.Proc) { p.Takes[0].When = node(api.EEq, reg(0), read(0, reg(0))) }, func(p *api.Proc) { p.Puts[0].When = node(api.EEq, data(0), data(0)) }, func(p *api.Proc) { p.Takes[0].W = 8; p.Puts[0].W = 8 },
			func(p *api.Proc) { p.Regs[0].Next = chainOf(reg(0), mostNodes-11) },
		},
		false: {
			func(p *api.Proc) { p.Regs[0].Next = chainOf(reg(0), mostNodes-10) }, func(p *api.Proc) { p.Mems[0].Addr = chainOf(reg(0), mostNodes) }, func(p *api.Proc) { p.Takes[0].When = chainOf(one, mostNodes) },
			func(p *api.Proc) { p.Regs[0].W = 0 }, func(p *api.Proc) { p.Regs[0].W = 1 }, func(p *api.Proc) { p.Regs[0].W = 9 }, func(p *api.Proc) { p.Regs[0].W, p.Regs[0].Next = 3, reg(1) }, func(p *api.Proc) { p.Regs[1].W, p.Mems[0].Addr = 9, one }, func(p *api.Proc) { *p = api.Proc{Regs: []api.Reg{{}}} },
			func(p *api.Proc) { p.Regs[0].Init = 4 }, func(p *api.Proc) { p.Regs[0].Init = -1 }, func(p *api.Proc) { p.Regs[1].Init = 256 }, func(p *api.Proc) { p.Regs[1].Init = math.MinInt },
			func(p *api.Proc) { p.Regs[0].Next = api.Expr{} }, func(p *api.Proc) { p.Regs[0].Next = reg(1) }, func(p *api.Proc) { p.Regs[0].Next = reg(2) }, func(p *api.Proc) { p.Regs[0].Next = ref("r") }, func(p *api.Proc) { p.Regs[0].Next = data(1) }, func(p *api.Proc) { p.Regs[0].Next = read(2, one) },
			func(p *api.Proc) { p.Regs[1].Rule.Kind = -1 }, func(p *api.Proc) { p.Regs[1].Rule.Kind = 4 }, func(p *api.Proc) { p.Mems[1].Rule.Kind = -1 }, func(p *api.Proc) { p.Mems[1].Rule.Kind = 4 },
			func(p *api.Proc) { p.Regs[1].Name = "r" }, func(p *api.Proc) { p.Mems[1].Name = "m" }, func(p *api.Proc) { p.Mems[0].Name = "s" }, func(p *api.Proc) { p.Mems[1].Name = "r" }, func(p *api.Proc) { p.Regs[1].Name, p.Mems[0].Name = "", "" },
			func(p *api.Proc) { p.Mems[0].W = 1 }, func(p *api.Proc) { p.Mems[0].W = 0 }, func(p *api.Proc) { p.Mems[0].W, p.Mems[0].Data = 9, read(0, one) }, func(p *api.Proc) { p.Mems[0].W, p.Mems[0].Data = 0, api.Expr{} }, func(p *api.Proc) { p.Mems[0].W = 8 },
			func(p *api.Proc) { p.Mems[0].Words = 0 }, func(p *api.Proc) { p.Mems[0].Words = 3 }, func(p *api.Proc) { p.Mems[0].Words = 5 }, func(p *api.Proc) { p.Mems[0].Words = 7 }, func(p *api.Proc) { p.Mems[0].Words = 9 }, func(p *api.Proc) { p.Mems[0].Words = 16 }, func(p *api.Proc) { p.Mems[0].Words = -1 },
			func(p *api.Proc) { p.Mems[0].Enable = reg(0) }, func(p *api.Proc) { p.Mems[0].Enable = api.Expr{} }, func(p *api.Proc) { p.Mems[0].Addr = api.Expr{} }, func(p *api.Proc) { p.Mems[0].Addr = reg(7) }, func(p *api.Proc) { p.Mems[0].Data = one }, func(p *api.Proc) { p.Mems[0].Data = api.Expr{} },
			func(p *api.Proc) { p.Takes[0].Chan = -1 }, func(p *api.Proc) { p.Takes[0].Chan = math.MinInt }, func(p *api.Proc) { p.Puts[0].Chan = -1 }, func(p *api.Proc) { p.Puts[0].Chan = math.MinInt },
			func(p *api.Proc) { p.Takes[0].W = 0 }, func(p *api.Proc) { p.Takes[0].W = 9 }, func(p *api.Proc) { p.Takes[0].W, p.Puts[0].Data = 9, reg(0) }, func(p *api.Proc) { p.Takes[0].W, p.Puts[0].Data = 0, reg(0) }, func(p *api.Proc) { p.Puts[0].W = 0 }, func(p *api.Proc) { p.Puts[0].W = 9 }, func(p *api.Proc) { p.Puts[0].W = 1 }, func(p *api.Proc) { p.Puts[0].W, p.Puts[0].Data = 0, api.Expr{} },
			func(p *api.Proc) { p.Takes[0].When = reg(0) }, func(p *api.Proc) { p.Takes[0].When = api.Expr{} }, func(p *api.Proc) { p.Takes[0].When = node(api.EEq, data(0), data(0)) }, func(p *api.Proc) { p.Takes[0].When = node(api.ENot, node(api.ELt, reg(0), read(0, data(0)))) },
			func(p *api.Proc) { p.Takes = append(p.Takes, api.Take{W: 1, When: data(1)}) }, func(p *api.Proc) { p.Takes = append(p.Takes, api.Take{W: 1}) }, func(p *api.Proc) { p.Puts = append(p.Puts, api.Put{W: 1}) }, func(p *api.Proc) { p.Mems = append(p.Mems, api.Mem{}) },
			func(p *api.Proc) { p.Puts[0].When = reg(0) }, func(p *api.Proc) { p.Puts[0].When = api.Expr{} }, func(p *api.Proc) { p.Puts[0].Data = one }, func(p *api.Proc) { p.Puts[0].Data = api.Expr{} },
		},
	} {
		for i, change := range all {
			p := copyOf(first())
			if change(&p); checkProc(t, p) != want {
				t.Errorf("%v %d: %+v", want, i, p)
			}
			checkValid(t, api.Circuit{Procs: []api.Proc{p}})
		}
	}
}

// exprsAt returns where the expressions of a process are.
func exprsAt(p *api.Proc) []*api.Expr {
	var l []*api.Expr
	for i := range p.Regs {
		l = append(l, &p.Regs[i].Next)
	}
	for i := range p.Mems {
		l = append(l, &p.Mems[i].Enable, &p.Mems[i].Addr, &p.Mems[i].Data)
	}
	for i := range p.Takes {
		l = append(l, &p.Takes[i].When)
	}
	for i := range p.Puts {
		l = append(l, &p.Puts[i].When, &p.Puts[i].Data)
	}
	return l
}

// A process has 200 nodes or one more, wherever they are.
func TestP11_7NodesOfValidProcesses(t *testing.T) {
	r := source()
	for at := range exprsAt(new(first())) {
		for n, want := range map[int]bool{mostNodes - 1: true, mostNodes: true, mostNodes + 1: false, 2 * mostNodes: false} {
			p := copyOf(first())
			l := exprsAt(&p)
			*l[at] = chainOf(*l[at], n-len(l))
			if checkProc(t, p) != want {
				t.Errorf("%d nodes: %+v", n, p)
			}
			p = copyOf(first())
			l = exprsAt(&p)
			for left := n - len(l); left > 0; {
				e := oneOf(r, l[at], oneOf(r, l...))
				k := 1 + r.IntN(left)
				*e = chainOf(*e, k)
				left -= k
			}
			if checkProc(t, p) != want {
				t.Errorf("%d nodes: %+v", n, p)
			}
		}
	}
}

// chainOf is an expression with n nodes around another one, and this.
func chainOf(e api.Expr, n int) api.Expr {
	for range n {
		e = node(api.ENot, e)
	}
	return e
}

// between is a valid circuit: from the environment into the process 0, from there into the process 1, and within that one; and an input of it, and an output of the process 0.
func between() api.Circuit {
	p, q := first(), second()
	p.Puts = append(p.Puts, api.Put{Chan: 4, W: 8, When: one, Data: reg(1)})
	q.Takes = append(q.Takes, api.Take{Chan: 3, W: 5, When: one}, api.Take{Chan: 2, W: 1, When: one})
	q.Puts = append(q.Puts, api.Put{Chan: 2, W: 1, When: one, Data: one})
	return api.Circuit{Procs: []api.Proc{p, q}, Chans: []api.Chan{
		{Name: "a", W: 2, From: -1}, {Name: "b", W: 2, Cap: 1, To: 1}, {Name: "c", W: 1, Cap: 8, From: 1, To: 1}, {Name: "d", W: 5, From: -1, To: 1}, {Name: "e", W: 8, To: -1},
	}}
}

// The lines of "valid" for circuits: what is valid, and what is not.
func TestP11_1ValidCircuits(t *testing.T) {
	for want, all := range map[bool][]func(c *api.Circuit){
		true: {
			func(c *api.Circuit) {}, func(c *api.Circuit) { *c = api.Circuit{} }, func(c *api.Circuit) { *c = api.Circuit{Procs: []api.Proc{{}}} }, func(c *api.Circuit) { c.Procs[0].Name, c.Chans[0].Name = "", "" }, func(c *api.Circuit) { c.Procs[0].Name = "a" },
			func(c *api.Circuit) { c.Chans[1].Cap, c.Chans[2].Cap = 8, 1 }, func(c *api.Circuit) { c.Procs = append(c.Procs, api.Proc{Name: "third", Regs: first().Regs}) }, func(c *api.Circuit) { c.Procs[1].Clock = "k" },
			func(c *api.Circuit) { *c = inputs(8, 16) }, func(c *api.Circuit) { *c = inputs(1, 16) }, func(c *api.Circuit) { *c = inputs(8, 0) },
		},
		false: {
			func(c *api.Circuit) { *c = inputs(9, 16) }, func(c *api.Circuit) { *c = inputs(9, 0) }, func(c *api.Circuit) { *c = inputs(8, 17) }, func(c *api.Circuit) { *c = inputs(1, 17) }, func(c *api.Circuit) { *c = inputs(0, 1) },
			func(c *api.Circuit) { c.Procs[0].Regs[0].Init = 4 }, func(c *api.Circuit) { c.Procs[1].Takes[0].When = reg(0) }, func(c *api.Circuit) { c.Procs[1].Name = "first" }, func(c *api.Circuit) { c.Procs = append(c.Procs, api.Proc{Name: "first"}) }, func(c *api.Circuit) { c.Chans[4].Name = "a" }, func(c *api.Circuit) { c.Chans[1].Name = "c" },
			func(c *api.Circuit) { c.Chans[0].W = 3 }, func(c *api.Circuit) { c.Chans[1].W = 1 }, func(c *api.Circuit) { c.Chans[4].W = 0 }, func(c *api.Circuit) { c.Chans[4].W = 9 }, func(c *api.Circuit) { c.Chans[0].W, c.Procs[0].Takes[0].W = 9, 9 },
			func(c *api.Circuit) { c.Chans[0].From = -2 }, func(c *api.Circuit) { c.Chans[0].From = 0 }, func(c *api.Circuit) { c.Chans[0].From, c.Chans[0].Cap = 0, 1 }, func(c *api.Circuit) { c.Chans[0].From = 2 }, func(c *api.Circuit) { c.Chans[0].To = 1 }, func(c *api.Circuit) { c.Chans[0].To = -1 }, func(c *api.Circuit) { c.Chans[0].To = 2 }, func(c *api.Circuit) { c.Chans[0].To = -2 },
			func(c *api.Circuit) { c.Chans[1].From = 1 }, func(c *api.Circuit) { c.Chans[1].From, c.Chans[1].Cap = -1, 0 }, func(c *api.Circuit) { c.Chans[1].To, c.Chans[1].Cap = -1, 0 }, func(c *api.Circuit) { c.Chans[1].To = 0 }, func(c *api.Circuit) { c.Chans[1].To = 2 }, func(c *api.Circuit) { c.Chans[1].To = math.MinInt }, func(c *api.Circuit) { c.Chans[1].From, c.Chans[1].To = 1, 0 },
			func(c *api.Circuit) { c.Chans[4].From = -1 }, func(c *api.Circuit) { c.Chans[4].From = 1 }, func(c *api.Circuit) { c.Chans[4].From = 2 }, func(c *api.Circuit) { c.Chans[4].To = 1 }, func(c *api.Circuit) { c.Chans[4].To, c.Chans[4].Cap = 1, 1 }, func(c *api.Circuit) { c.Chans[4].To = -2 },
			func(c *api.Circuit) { c.Chans[0].From, c.Chans[0].Cap = -2, 1 }, func(c *api.Circuit) { c.Chans[4].To, c.Chans[4].Cap = -2, 1 }, func(c *api.Circuit) { c.Chans[4].To, c.Chans[4].Cap = 2, 1 },
			func(c *api.Circuit) { c.Chans[0].Cap = 1 }, func(c *api.Circuit) { c.Chans[4].Cap = 1 }, func(c *api.Circuit) { c.Chans[0].Cap = -1 }, func(c *api.Circuit) { c.Chans[1].Cap = 0 }, func(c *api.Circuit) { c.Chans[1].Cap = 9 }, func(c *api.Circuit) { c.Chans[2].Cap = -1 },
			func(c *api.Circuit) { c.Procs[0].Takes = nil; c.Procs[0].Puts[0].Data = reg(0) }, func(c *api.Circuit) { c.Procs[0].Puts = c.Procs[0].Puts[:1] }, func(c *api.Circuit) { c.Procs[0].Puts = c.Procs[0].Puts[1:] }, func(c *api.Circuit) { c.Procs[1].Takes = c.Procs[1].Takes[1:] },
			func(c *api.Circuit) { c.Procs[0].Takes = append(c.Procs[0].Takes, c.Procs[0].Takes[0]) }, func(c *api.Circuit) { c.Procs[0].Puts = append(c.Procs[0].Puts, c.Procs[0].Puts[0]) }, func(c *api.Circuit) { c.Procs[1].Takes = append(c.Procs[1].Takes, c.Procs[0].Takes[0]) },
			func(c *api.Circuit) {
				c.Procs[1].Puts = append(c.Procs[1].Puts, api.Put{Chan: 1, W: 2, When: one, Data: constant(0, 2)})
			}, func(c *api.Circuit) {
				c.Procs[1].Puts = append(c.Procs[1].Puts, api.Put{Chan: 0, W: 2, When: one, Data: constant(0, 2)})
			},
			func(c *api.Circuit) {
				c.Procs[0].Puts = append(c.Procs[0].Puts, api.Put{Chan: 1, W: 1, When: one, Data: one})
			}, func(c *api.Circuit) { c.Procs[0].Takes = append(c.Procs[0].Takes, api.Take{Chan: 4, W: 8, When: one}) }, func(c *api.Circuit) { c.Procs[1].Takes = append(c.Procs[1].Takes, api.Take{Chan: 0, W: 3, When: one}) },
			func(c *api.Circuit) { c.Procs[0].Takes[0].Chan = 1 }, func(c *api.Circuit) { c.Procs[0].Puts[0].Chan = 0 }, func(c *api.Circuit) { c.Procs[0].Puts[0].Chan = 5 }, func(c *api.Circuit) { c.Procs[1].Takes[0].Chan = 5 },
			func(c *api.Circuit) { c.Procs[1].Takes = append(c.Procs[1].Takes, api.Take{Chan: 5, W: 2, When: one}) }, func(c *api.Circuit) {
				c.Procs[1].Puts = append(c.Procs[1].Puts, api.Put{Chan: 5, W: 1, When: one, Data: one})
			}, func(c *api.Circuit) {
				c.Procs[1].Puts = append(c.Procs[1].Puts, api.Put{Chan: math.MaxInt, W: 1, When: one, Data: one})
			},
			func(c *api.Circuit) { c.Chans = c.Chans[:4] }, func(c *api.Circuit) { c.Chans = nil }, func(c *api.Circuit) { c.Procs = c.Procs[:1] }, func(c *api.Circuit) { c.Procs = nil }, func(c *api.Circuit) { c.Procs[0], c.Procs[1] = c.Procs[1], c.Procs[0] }, func(c *api.Circuit) { c.Chans[0], c.Chans[3] = c.Chans[3], c.Chans[0] },
			func(c *api.Circuit) { c.Chans = append(c.Chans, api.Chan{Name: "f", W: 1, From: -1, To: -1}) }, func(c *api.Circuit) { c.Chans = append(c.Chans, api.Chan{Name: "f", W: 1, From: -1, To: 0}) }, func(c *api.Circuit) { c.Chans = append(c.Chans, api.Chan{Name: "f", W: 1, From: 0, To: -1}) }, func(c *api.Circuit) { c.Chans = append(c.Chans, api.Chan{Name: "f", W: 1, Cap: 1, From: 0, To: 1}) }, func(c *api.Circuit) { c.Chans = append(c.Chans, api.Chan{}) },
		},
	} {
		for i, change := range all {
			c := copyOf(between())
			if change(&c); checkValid(t, c) != want {
				t.Errorf("%v %d: %s", want, i, show(c))
			}
		}
	}
}

// inputs is a circuit with so many processes and inputs, all of which the first process takes from.
func inputs(procs, chans int) api.Circuit {
	var c api.Circuit
	for i := range procs {
		c.Procs = append(c.Procs, api.Proc{Name: string(rune('a' + i))})
	}
	for k := range chans {
		c.Chans = append(c.Chans, api.Chan{Name: string(rune('a' + k)), W: 1, From: -1})
		if procs > 0 {
			c.Procs[0].Takes = append(c.Procs[0].Takes, api.Take{Chan: k, W: 1, When: one})
		}
	}
	return c
}
