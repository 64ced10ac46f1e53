package elaborate_test

import (
	"fmt"
	"math"
	"math/rand/v2"
	"reflect"
	"slices"
	"strings"
	"testing"

	"wireloom/api"
	"wireloom/check"
	"wireloom/elaborate"
)

// Random designs, with what they should have wrong, against the reading of the chapter.
func TestP11_1RandomDesigns(t *testing.T) {
	found := map[api.Errno]int{}
	eachDesign(1200, func(_ *rand.Rand, f api.File, top string, args []int) {
		_, e := checkDesign(t, f, top, args)
		found[e]++
	})
	if found[api.OK] < 2500 || found[api.ErrCircuit] < 1000 || found[api.ErrBig] < 100 {
		t.Error(found)
	}
}

// Each number of some designs in turn.
func TestP11_1EachNumber(t *testing.T) {
	r := source()
	found := map[api.Errno]int{}
	for range 15 {
		l := modelsOf(r)
		f, top := fileWith(r, l), l[len(l)-1]
		for _, n := range numbersIn(&f) {
			before := n.N
			for _, d := range []int{-1, 1, oneOf(r, -9, -2, 2, 9), oneOf(r, mostN, -mostN)} {
				n.N = before + d
				_, e := checkDesign(t, f, top.Name, top.values)
				found[e]++
			}
			n.N = before
		}
	}
	if found[api.OK] < 500 || found[api.ErrCircuit] < 1000 {
		t.Error(found)
	}
}

// Each string, number and list of some files changed in turn.
func TestP11_1EachPartOfFiles(t *testing.T) {
	found := map[api.Errno]int{}
	for _, f := range []api.File{
		fileOf(t, "module m(w) @ k { "+allKinds+" }"),
		fileOf(t, "module m(w) @ k { in a: w; out b: w; inst i: n(w, 2) (a = a, b = c); chan c: w [w]; inst j: n(2, w) (a = c, b = b); } module n(v, w) @ k { in a: v; out b: w; take a if [1 : 1]; put b if [1 : 1] = ([w : v] ^ a); }"),
	} {
		for at := range leavesOf(&f) {
			g := copyOf(f)
			v := leavesOf(&g)[at]
			for _, x := range changes(v, []string{"", "r", "s", "m", "n", "a", "b", "c", "d", "w", "v", "A"}) {
				v.Set(x)
				_, e := checkDesign(t, g, "m", []int{2})
				found[e]++
			}
		}
	}
	for _, e := range []api.Errno{api.OK, api.ErrArg, api.ErrNone, api.ErrCheck, api.ErrCircuit} {
		if found[e] == 0 {
			t.Error(e, found)
		}
	}
}

// Fields that an item or an operator does not use do not matter.
func TestP11_1UnusedParts(t *testing.T) {
	r := source()
	for range 200 {
		l := modelsOf(r)
		f, top := fileWith(r, l), l[len(l)-1]
		c, e := elaborate.Elaborate(f, top.Name, top.values)
		g := copyOf(f)
		for k := range g.Modules {
			for i := range g.Modules[k].Items {
				clearUnused(&g.Modules[k].Items[i])
			}
		}
		if d, e2 := checkDesign(t, g, top.Name, top.values); e2 != e || !sameAs(c, d) {
			t.Errorf("%s: %d\n%swithout unused parts %d\n%s", written(g), e, show(c), e2, show(d))
		}
	}
}

// clearUnused leaves what an item uses.
func clearUnused(item *api.Item) {
	kept := api.Item{Kind: item.Kind, Name: item.Name}
	for _, name := range strings.Fields(uses[item.Kind].nums + " " + uses[item.Kind].exprs) {
		reflect.ValueOf(&kept).Elem().FieldByName(name).Set(reflect.ValueOf(*item).FieldByName(name))
	}
	for _, e := range []*api.Expr{&kept.A, &kept.B, &kept.C} {
		clearUnusedIn(e)
	}
	switch item.Kind {
	case api.IInst:
		kept.Of, kept.Ports = item.Of, item.Ports
	case api.IReg, api.IMem:
		kept.Rule = item.Rule
	}
	*item = kept
}

func clearUnusedIn(e *api.Expr) {
	kept := api.Expr{Op: e.Op, Args: e.Args}
	switch e.Op {
	case api.EConst, api.ESlice:
		kept.K, kept.W = e.K, e.W
	case api.EExt:
		kept.W = e.W
	case api.ERef, api.EMem:
		kept.Name = e.Name
	}
	*e = kept
	for k := range e.Args {
		clearUnusedIn(&e.Args[k])
	}
}

func TestP11_2Validity(t *testing.T) {
	good := 0
	eachDesign(1200, func(_ *rand.Rand, f api.File, top string, args []int) {
		c, e := elaborate.Elaborate(f, top, args)
		if e != api.OK {
			return
		}
		good++
		if !checkValid(t, c) {
			t.Errorf("%s\n%s", written(f), show(c))
		}
		paths, _ := elaborate.Paths(f, top)
		at := 0
		for _, p := range c.Procs {
			for at < len(paths) && paths[at] != p.Name {
				at++
			}
			at++
			checkProc(t, p)
		}
		if at > len(paths) {
			t.Errorf("processes of %s are not in the order %v", show(c), paths)
		}
		m, _ := moduleNamed(f, top)
		outside := slices.DeleteFunc(slices.Clone(c.Chans), func(x api.Chan) bool { return x.From != -1 && x.To != -1 })
		ports := ofKind(m, api.IIn, api.IOut)
		if len(outside) != len(ports) {
			t.Errorf("%s\n%s", written(f), show(c))
		}
		for k, port := range ports {
			if outside[k].Name != top+"."+port.Name || (outside[k].From == -1) != (port.Kind == api.IIn) {
				t.Errorf("%s\n%s", written(f), show(c))
			}
		}
	})
	if good < 2500 {
		t.Errorf("only %d circuits", good)
	}
}

// replaced is an expression with another one in the place of all references to a name.
func replaced(e api.Expr, name string, by api.Expr) api.Expr {
	if e.Op == api.ERef && e.Name == name {
		return copyOf(by)
	}
	e.Args = slices.Clone(e.Args)
	for k, arg := range e.Args {
		e.Args[k] = replaced(arg, name, by)
	}
	return e
}

func TestP11_3Wires(t *testing.T) {
	wires := 0
	eachDesign(150, func(r *rand.Rand, f api.File, top string, args []int) {
		c, e := elaborate.Elaborate(f, top, args)
		for k, m := range f.Modules {
			for at, wire := range m.Items {
				if wire.Kind != api.IWire {
					continue
				}
				g := copyOf(f)
				for i := range g.Modules[k].Items {
					item := &g.Modules[k].Items[i]
					item.A, item.B, item.C = replaced(item.A, wire.Name, wire.A), replaced(item.B, wire.Name, wire.A), replaced(item.C, wire.Name, wire.A)
				}
				d, e2 := elaborate.Elaborate(g, top, args)
				if e2 != e || !sameAs(c, d) {
					t.Errorf("%s in %s: %d\n%sreplaced %d\n%s", wire.Name, written(f), e, show(c), e2, show(d))
				}
				if g.Modules[k].Items = slices.Delete(g.Modules[k].Items, at, at+1); e == api.OK {
					if d, e2 := elaborate.Elaborate(g, top, args); e2 != e || !sameAs(c, d) {
						t.Errorf("%s in %s: %d\n%sremoved %d\n%s", wire.Name, written(f), e, show(c), e2, show(d))
					}
					wires++
				}
			}
		}
	})
	if wires < 500 {
		t.Errorf("only %d wires", wires)
	}
}

// renamedFrom is a circuit whose top instance has another path.
func renamedFrom(c api.Circuit, from, to string) api.Circuit {
	c = copyOf(c)
	rename := func(name *string) {
		if rest, found := strings.CutPrefix(*name, from); found && (rest == "" || rest[0] == '.') {
			*name = to + rest
		}
	}
	for i := range c.Procs {
		rename(&c.Procs[i].Name)
	}
	for k := range c.Chans {
		rename(&c.Chans[k].Name)
	}
	return c
}

func TestP11_4Parameters(t *testing.T) {
	good, bad := 0, 0
	eachDesign(500, func(r *rand.Rand, f api.File, top string, args []int) {
		m, _ := moduleNamed(f, top)
		if r.IntN(4) == 0 && len(args) > 0 {
			args = slices.Clone(args)
			args[r.IntN(len(args))] += oneOf(r, 1, 2, 50)
		}
		inside := placed{m: m, args: args}
		with := api.File{Modules: []api.Module{copyOf(m)}}
		for _, n := range numbersIn(&with) {
			if isIn(n.N, -mostN, mostN) {
				*n = num(inside.value(*n))
			}
		}
		with.Modules[0].Name, with.Modules[0].Params = "without", nil
		c, e := checkDesign(t, f, top, args)
		g := api.File{Modules: slices.Concat(with.Modules, f.Modules)}
		d, e2 := checkDesign(t, g, "without", nil)
		if !check.Valid(g) {
			return // a number that is out of range has a parameter
		}
		if e2 != e || !sameAs(renamedFrom(c, top, "without"), d) {
			t.Errorf("%s%v in %s: %d\n%swithout parameters %d\n%s", top, args, written(g), e, show(c), e2, show(d))
		}
		if len(args) > 0 && e == api.OK {
			good++
		} else if len(args) > 0 {
			bad++
		}
	})
	if good < 500 || bad < 250 {
		t.Errorf("only %d good designs and %d others", good, bad)
	}
}

// shell is a module that has nothing but an instance x of another one, for some values of its parameters, and its ports with their widths.
func shell(m api.Module, args []int) api.Module {
	outer := api.Module{Name: "shell", Clock: "other"}
	inst := api.Item{Kind: api.IInst, Name: "x", Of: m.Name}
	for _, v := range args {
		inst.Args = append(inst.Args, num(v))
	}
	for _, port := range ofKind(m, api.IIn, api.IOut) {
		outer.Items = append(outer.Items, api.Item{Kind: port.Kind, Name: "p" + fmt.Sprint(len(outer.Items)), Width: num(placed{m: m, args: args}.value(port.Width))})
		inst.Ports = append(inst.Ports, api.Bind{Port: port.Name, Chan: outer.Items[len(outer.Items)-1].Name})
	}
	slices.Reverse(inst.Ports)
	outer.Items = append(outer.Items, inst)
	return outer
}

// unnamed is a circuit without the names of its processes and channels.
func unnamed(c api.Circuit) api.Circuit {
	c = copyOf(c)
	for i := range c.Procs {
		c.Procs[i].Name = ""
	}
	for k := range c.Chans {
		c.Chans[k].Name = ""
	}
	return c
}

func TestP11_5Flattening(t *testing.T) {
	good, bad := 0, 0
	eachDesign(500, func(r *rand.Rand, f api.File, top string, args []int) {
		m, _ := moduleNamed(f, top)
		g := api.File{Modules: slices.Concat(f.Modules, []api.Module{shell(m, args)})}
		c, e := elaborate.Elaborate(f, top, args)
		d, e2 := checkDesign(t, g, "shell", nil)
		if e2 != e || !sameAs(unnamed(c), unnamed(d)) {
			t.Errorf("%s%v in %s: %d\n%sin a shell %d\n%s", top, args, written(g), e, show(c), e2, show(d))
		}
		inner := renamedFrom(c, top, "shell.x")
		for k := range inner.Chans {
			if inner.Chans[k].From == -1 || inner.Chans[k].To == -1 {
				inner.Chans[k].Name = fmt.Sprint("shell.p", k)
			}
		}
		if !sameAs(inner, d) {
			t.Errorf("%s\nin a shell %s", show(inner), show(d))
		}
		if e == api.OK {
			good++
		} else {
			bad++
		}
	})
	if good < 1000 || bad < 400 {
		t.Errorf("only %d good designs and %d others", good, bad)
	}
}

func TestP11_6Refusal(t *testing.T) {
	numbers := 0
	eachDesign(40, func(r *rand.Rand, f api.File, top string, args []int) {
		if _, e := elaborate.Elaborate(f, top, args); e != api.OK {
			return
		}
		for _, wrong := range [][]int{append(slices.Clone(args), 1), append(slices.Clone(args), args...), args[:max(0, len(args)-1)]} {
			if len(wrong) != len(args) {
				checkError(t, f, top, wrong, api.ErrArg)
			}
		}
		for _, other := range []string{"", "m", "m9", "top", "M0", top + " ", top + ".", top + ".a0", top + "0", "\x00"} {
			checkError(t, f, other, args, api.ErrNone)
		}
		for k, m := range f.Modules {
			if m.Name != top {
				continue
			}
			for i, item := range m.Items {
				for _, field := range strings.Fields(uses[item.Kind].nums) {
					least, most := 1, 8
					switch {
					case field == "Args":
						continue
					case field == "Init":
						least, most = 0, 1<<(placed{m: m, args: args}).value(item.Width)-1
					}
					for _, v := range []int{least - 1, most + 1, least - 5, most + 7, oneOf(r, -mostN, mostN, math.MinInt, math.MaxInt)} {
						g := copyOf(f)
						*reflect.ValueOf(&g.Modules[k].Items[i]).Elem().FieldByName(field).Addr().Interface().(*api.Num) = num(v)
						checkError(t, g, top, args, api.ErrCircuit)
						numbers++
					}
				}
			}
		}
	})
	if numbers < 1500 {
		t.Errorf("only %d numbers", numbers)
	}
}

// arrays is all lists of a tree, with what stands behind their ends in the same arrays.
func arrays(tree any) string {
	var s strings.Builder
	eachLeaf(reflect.ValueOf(tree), func(v reflect.Value) {
		if v.Kind() == reflect.Slice {
			fmt.Fprintf(&s, "%d of %+v\n", v.Len(), v.Slice(0, v.Cap()))
		}
	})
	return s.String()
}

// roomy is a tree with room behind the ends of its lists.
func roomy[T any](tree T, room int) T { return copied(reflect.ValueOf(tree), room).Interface().(T) }

func TestK5ArgumentsStay(t *testing.T) {
	n := 0
	eachDesign(150, func(_ *rand.Rand, f api.File, top string, args []int) {
		n++
		g, values := roomy(f, 1+n%5), roomy(args, 1+n%3)
		before := arrays(g) + arrays(values)
		c, e := elaborate.Elaborate(g, top, values)
		paths, e2 := elaborate.Paths(g, top)
		if after := arrays(g) + arrays(values); after != before {
			t.Errorf("%s: then %s", before, after)
		}
		if want, wantE := checkDesign(t, f, top, args); e != wantE || !sameAs(c, want) {
			t.Errorf("%s: %d %s", written(f), e, show(c))
		}
		if want, wantE := pathsAsSaid(f, top); e2 != wantE || !slices.Equal(paths, want) {
			t.Errorf("%s: %d %v", written(f), e2, paths)
		}
		d := roomy(c, 1+n%5)
		before = arrays(d)
		valid := elaborate.Valid(d)
		for _, p := range d.Procs {
			valid = valid && elaborate.ValidProc(p)
			for _, x := range exprsOf(p) {
				w, e := elaborate.Width(p, x)
				valid = valid && w > 0 && e == api.OK
			}
		}
		if after := arrays(d); after != before || !valid {
			t.Errorf("%s: %v, then %s", before, valid, after)
		}
	})
}

// overwrite changes everything that a tree refers to, up to the ends of its arrays.
func overwrite(tree any) {
	var lists func(v reflect.Value)
	lists = func(v reflect.Value) {
		switch v.Kind() {
		case reflect.Struct:
			for i := range v.NumField() {
				lists(v.Field(i))
			}
		case reflect.Slice:
			v = v.Slice(0, v.Cap())
			for i := range v.Len() {
				lists(v.Index(i))
				fill(v.Index(i))
			}
		}
	}
	lists(reflect.ValueOf(tree))
}

// A result shares no memory with the arguments, and no two lists of it share any.
func TestK5ResultsAreNew(t *testing.T) {
	eachDesign(100, func(_ *rand.Rand, f api.File, top string, args []int) {
		g := copyOf(f)
		c, e := elaborate.Elaborate(g, top, args)
		kept := copyOf(c)
		seen := map[uintptr]bool{}
		for _, v := range leavesOf(&c) {
			if v.Kind() == reflect.Slice && v.Cap() > 0 {
				if seen[v.Pointer()] {
					t.Errorf("shared memory in %s", show(c))
				}
				seen[v.Pointer()] = true
			}
		}
		overwrite(c)
		if !sameAs(g, f) {
			t.Errorf("%s: became %+v", written(f), g)
		}
		c, _ = elaborate.Elaborate(g, top, args)
		overwrite(g)
		if !sameAs(c, kept) || e != api.OK && !sameAs(c, api.Circuit{}) {
			t.Errorf("%s: then %s", show(kept), show(c))
		}
	})
}

func TestP1Empty(t *testing.T) {
	none := api.File{}
	noNames := api.File{Modules: []api.Module{{}}}
	noItem := api.File{Modules: []api.Module{{Name: "m", Clock: "k", Items: []api.Item{{}}}}}
	for _, top := range []string{"", "m", "a.b", "\xff"} {
		for _, args := range [][]int{nil, {}, {1}, {-1, 99}} {
			checkError(t, none, top, args, api.ErrNone)
			checkError(t, noNames, top, args, api.ErrCheck)
			checkError(t, noItem, top, args, api.ErrCheck)
		}
	}
	checkError(t, api.File{Modules: []api.Module{{Name: "m", Clock: "k"}}}, "m", nil, api.OK)
	if checkWidth(t, api.Proc{}, api.Expr{}) != 0 || !checkProc(t, api.Proc{}) || !checkValid(t, api.Circuit{}) || !checkValid(t, api.Circuit{Procs: []api.Proc{{}}}) {
		t.Error("empty processes and circuits")
	}
	if checkProc(t, api.Proc{Regs: []api.Reg{{}}}) || checkProc(t, api.Proc{Mems: []api.Mem{{}}}) || checkProc(t, api.Proc{Takes: []api.Take{{}}}) || checkProc(t, api.Proc{Puts: []api.Put{{}}}) || checkValid(t, api.Circuit{Chans: []api.Chan{{}}}) {
		t.Error("empty parts")
	}
}

// checkLarge says which error a design has that is too large for the other reading of the chapter.
func checkLarge(t *testing.T, f api.File, want api.Errno) {
	t.Helper()
	c, e := elaborate.Elaborate(f, "m", nil)
	if e != want || e != api.OK && len(c.Procs)+len(c.Chans) > 0 {
		t.Errorf("%d with %d processes, want %d", e, len(c.Procs), want)
	}
	if l, e := elaborate.Paths(f, "m"); e != api.OK || len(l) != 1 {
		t.Errorf("%d %v", e, l)
	}
}

// moduleOf is a file with one module, which has a register r of one bit and these items.
func moduleOf(items ...api.Item) api.File {
	r := api.Item{Kind: api.IReg, Name: "r", Width: num(1), A: ref("r")}
	return api.File{Modules: []api.Module{{Name: "m", Clock: "k", Items: append([]api.Item{r}, items...)}}}
}

// shared is an expression in which there are 2^n ways to another one, as the arguments share their memory.
func shared(e api.Expr, n int) api.Expr {
	for range n {
		e = node(api.EAnd, e, e)
	}
	return e
}

// around is an expression that has itself as all of its n arguments.
func around(op, n int) api.Expr {
	args := make([]api.Expr, n)
	for i := range args {
		args[i] = api.Expr{Op: op, Name: "r", Args: args}
	}
	return args[0]
}

func wire(w int, e api.Expr) api.Item {
	return api.Item{Kind: api.IWire, Name: "x", Width: num(w), A: e}
}

// Expressions with more ways to their parts than could be counted.
func TestP1SharedExpressions(t *testing.T) {
	used := api.Item{Kind: api.IReg, Name: "s", Width: num(1), A: ref("x")}
	for _, n := range []int{3, 6, 7, 8, 12, 200} {
		e, wide := shared(ref("r"), n), shared(node(api.EXor, ref("r"), constant(0, 2)), n)
		checkLarge(t, moduleOf(wire(1, e)), api.OK)
		checkLarge(t, moduleOf(wire(2, e)), api.ErrCircuit)
		checkLarge(t, moduleOf(wire(1, wide)), api.ErrCircuit)
		want := api.OK
		if n > 6 {
			want = api.ErrBig
		}
		checkLarge(t, moduleOf(wire(1, e), used), want)
		checkLarge(t, moduleOf(wire(1, e), used, api.Item{Kind: api.IWire, Name: "y", Width: num(1), A: wide}), api.ErrCircuit)
		p := api.Proc{Regs: []api.Reg{{W: 1, Next: shared(reg(0), n)}}}
		if w, e := elaborate.Width(p, p.Regs[0].Next); w != 1 || e != api.OK {
			t.Error(n, w, e)
		}
		if w, e := elaborate.Width(p, shared(reg(1), n)); w != 0 || e != api.ErrCircuit {
			t.Error(n, w, e)
		}
		if elaborate.ValidProc(p) != (n <= 6) || elaborate.Valid(api.Circuit{Procs: []api.Proc{p}}) != (n <= 6) {
			t.Error(n, elaborate.ValidProc(p))
		}
	}
}

// Expressions without an end have no width.
func TestP1EndlessExpressions(t *testing.T) {
	operands := map[int]int{api.ENot: 1, api.EMux: 3, api.ESlice: 1, api.EExt: 1, api.EConst: 0, api.ERef: 0, api.EMem: 1}
	mem := api.Item{Kind: api.IMem, Name: "n", Width: num(1), Depth: num(1), A: one, B: one, C: one}
	for op := -1; op <= 20; op++ {
		for n := 1; n <= 4; n++ {
			e := around(op, n)
			want := api.ErrCheck
			if args, known := operands[op]; known && args == n && op != api.EMem || !known && n == 2 && op >= api.EAnd && op <= api.ECat {
				want = api.ErrCircuit
			}
			for w := range 3 {
				checkRefused(t, moduleOf(mem, wire(w, e)), want)
				checkRefused(t, moduleOf(mem, wire(1, one), api.Item{Kind: api.IReg, Name: "s", Width: num(w), A: e}), want)
			}
			p := api.Proc{Regs: []api.Reg{{W: 1}}, Mems: []api.Mem{{W: 1, Words: 1}}, Takes: []api.Take{{W: 1}}}
			e.Name = ""
			for i := range e.Args {
				e.Args[i].Name = ""
			}
			if w, errno := elaborate.Width(p, e); w != 0 || errno != api.ErrCircuit {
				t.Error(op, n, w, errno)
			}
			p.Regs[0].Next = e
			if elaborate.ValidProc(p) || elaborate.Valid(api.Circuit{Procs: []api.Proc{p}}) || elaborate.ValidProc(api.Proc{Takes: []api.Take{{W: 1, When: e}}}) {
				t.Error(op, n)
			}
		}
	}
	e := around(api.EMem, 1)
	e.Name, e.Args[0].Name = "n", "n"
	checkLarge(t, moduleOf(mem, wire(1, e)), api.ErrCircuit)
}

// checkRefused says with which error a design is refused.
func checkRefused(t *testing.T, f api.File, want api.Errno) {
	t.Helper()
	if c, e := elaborate.Elaborate(f, "m", nil); e != want || len(c.Procs)+len(c.Chans) > 0 {
		t.Errorf("%d with %d processes, want %d", e, len(c.Procs), want)
	}
}

// Lists of arguments that have some of their elements in common.
func TestP1OverlappingExpressions(t *testing.T) {
	for at := range 4 {
		args := []api.Expr{ref("r"), one, node(api.ENot, one), ref("r")}
		args[at] = constant(0, 2)
		for _, l := range [][]api.Expr{
			{node(api.EAnd, args[:2]...), node(api.EMux, args[1:]...)}, {node(api.EMux, args[1:]...), node(api.EAnd, args[:2]...)}, {node(api.EAnd, args[2:]...), node(api.ENot, args[2:3]...)},
			{node(api.ENot, args[:1]...), node(api.EMux, args[:3]...), node(api.ENot, args[3:]...)}, {node(api.ENot, args[3:]...), node(api.EMux, args[:3]...), node(api.ENot, args[:1]...)},
		} {
			for w := 1; w <= 3; w++ {
				e := node([]int{api.ECat, api.EMux}[len(l)-2], l...)
				checkDesign(t, moduleOf(wire(w, e), api.Item{Kind: api.IReg, Name: "s", Width: num(w), A: e}), "m", nil)
			}
		}
	}
}

func TestP1DeepExpressions(t *testing.T) {
	good, bad, inner, none := ref("r"), constant(0, 9), reg(0), reg(1)
	for range 1 << 17 {
		good, bad, inner, none = node(api.ENot, good), node(api.ENot, bad), node(api.ENot, inner), node(api.ENot, none)
	}
	checkLarge(t, moduleOf(wire(1, good)), api.OK)
	checkLarge(t, moduleOf(wire(1, bad)), api.ErrCircuit)
	checkLarge(t, moduleOf(wire(1, good), api.Item{Kind: api.IReg, Name: "s", Width: num(1), A: ref("x")}), api.ErrBig)
	p := api.Proc{Regs: []api.Reg{{W: 5}}}
	if w, e := elaborate.Width(p, inner); w != 5 || e != api.OK {
		t.Error(w, e)
	}
	if w, e := elaborate.Width(p, none); w != 0 || e != api.ErrCircuit {
		t.Error(w, e)
	}
}

// Many wires, each of which is the next one, and many instances of which there are too many.
func TestP1ManyItems(t *testing.T) {
	const n = 2000
	items := []api.Item{{Kind: api.IReg, Name: "s", Width: num(1), A: ref("x0")}}
	for i := range n {
		items = append(items, api.Item{Kind: api.IWire, Name: fmt.Sprint("x", i), Width: num(1), A: ref(fmt.Sprint("x", i+1))})
	}
	items[n].A = ref("r")
	c, e := elaborate.Elaborate(moduleOf(items...), "m", nil)
	if e != api.OK || len(c.Procs) != 1 || showExpr(c.Procs[0].Regs[1].Next) != "reg" {
		t.Errorf("%d %s", e, show(c))
	}
	f := moduleOf()
	for i := range n {
		f.Modules[0].Items = append(f.Modules[0].Items, api.Item{Kind: api.IInst, Name: fmt.Sprint("i", i), Of: fmt.Sprint("e", i)})
		f.Modules = append(f.Modules, api.Module{Name: fmt.Sprint("e", i), Clock: "k"})
	}
	checkRefused(t, f, api.ErrBig)
	if l, e := elaborate.Paths(f, "m"); e != api.ErrBig || l != nil {
		t.Error(e, l)
	}
}
