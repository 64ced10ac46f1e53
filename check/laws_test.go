package check_test

import (
	"fmt"
	"math/rand/v2"
	"reflect"
	"slices"
	"strings"
	"testing"

	"wireloom/api"
	"wireloom/check"
)

// ofModule returns the problems of a module, as those of another one.
func ofModule(l []api.Problem, k, as int) []api.Problem {
	var found []api.Problem
	for _, p := range l {
		if p.Module == k {
			p.Module = as
			found = append(found, p)
		}
	}
	return found
}

// checkOrder says that the modules of a file have the same problems in another order.
func checkOrder(t *testing.T, f api.File, order []int) {
	t.Helper()
	l := check.Check(f)
	var g api.File
	var want []api.Problem
	for as, k := range order {
		g.Modules = append(g.Modules, f.Modules[k])
		want = append(want, ofModule(l, k, as)...)
	}
	if got := check.Check(g); !slices.Equal(got, want) {
		t.Errorf("%+v in the order %v: %v, want %v", f, order, got, want)
	}
}

// orders calls f for all orders of the numbers below n.
func orders(n int, f func(order []int)) {
	if n == 0 {
		f(nil)
		return
	}
	orders(n-1, func(order []int) {
		for at := range n {
			f(slices.Insert(slices.Clone(order), at, n-1))
		}
	})
}

func haveSameName(m, n api.Module) bool { return m.Name == n.Name }

func TestP10_2OrderOfModules(t *testing.T) {
	several, broken := 0, 0
	eachFile(func(r *rand.Rand, f api.File) {
		names := slices.SortedFunc(slices.Values(f.Modules), func(m, n api.Module) int { return strings.Compare(m.Name, n.Name) })
		if len(f.Modules) > 4 || len(slices.CompactFunc(names, haveSameName)) < len(f.Modules) {
			return
		}
		if l := check.Check(f); len(l) > 0 && len(f.Modules) > 1 {
			broken++
			orders(len(f.Modules), func(order []int) { checkOrder(t, f, order) })
		} else if len(f.Modules) > 1 {
			several++
			checkOrder(t, f, r.Perm(len(f.Modules)))
		}
	})
	f := fileOf(t, "module a() @ k { inst i: b() (); } module b() @ k { inst i: d() (p = p); in p: 1; } module d() @ k { inst i: b() (); inst j: e(1) (); in p: 1; } module e(w, w) @ k { }")
	checkProblems(t, f, "6@0 | 7@head | 7@head 6@0 6@1 5@2 | 1@head")
	orders(4, func(order []int) { checkOrder(t, f, order) })
	if several < 1500 || broken < 500 {
		t.Errorf("only %d valid files, and %d others", several, broken)
	}
}

// appended is an item that is neither a port nor an instance.
func appended(r *rand.Rand, f api.File) api.Item {
	item := oneOf(r, wildItem(r), itemOf(api.IReg, "x"))
	item.Kind = oneOf(r, api.IChan, api.IReg, api.IWire, api.IMem, api.ITake, api.IPut, 0, -1, 10)
	item.Name = oneOf(r, someNames(f)...)
	return item
}

func TestP10_3Locality(t *testing.T) {
	others, changedHere := 0, 0
	eachFile(func(r *rand.Rand, f api.File) {
		if len(f.Modules) == 0 {
			return
		}
		k := r.IntN(len(f.Modules))
		g := copyOf(f)
		g.Modules[k].Items = append(g.Modules[k].Items, appended(r, f))
		before, after := check.Check(f), check.Check(g)
		if !slices.Equal(ofModule(before, k, k), ofModule(after, k, k)) {
			changedHere++
		}
		for other := range f.Modules {
			if l := ofModule(before, other, other); other != k && !slices.Equal(l, ofModule(after, other, other)) {
				t.Errorf("%+v in module %d of %+v: %v, before %v", g.Modules[k].Items[len(f.Modules[k].Items)], k, f, after, before)
			} else if other != k && len(l) > 0 {
				others++
			}
		}
	})
	if others < 500 || changedHere < 2500 {
		t.Errorf("only %d modules of others have problems, and %d problems are new", others, changedHere)
	}
}

// wiresIn returns the indices of the wires of a module.
func wiresIn(m api.Module) []int {
	var l []int
	for i, item := range m.Items {
		if item.Kind == api.IWire {
			l = append(l, i)
		}
	}
	return l
}

// canBeOrdered removes those of n things that need none that is left, until none can be removed.
func canBeOrdered(n int, needs func(i, k int) bool) bool {
	left := make([]int, n)
	for i := range left {
		left[i] = i
	}
	for len(left) > 0 {
		free := slices.IndexFunc(left, func(i int) bool {
			return !slices.ContainsFunc(left, func(k int) bool { return needs(i, k) })
		})
		if free < 0 {
			return false
		}
		left = slices.Delete(left, free, free+1)
	}
	return true
}

func TestP10_4NoCycles(t *testing.T) {
	files, wires, modules := 0, 0, 0
	eachFile(func(_ *rand.Rand, f api.File) {
		if !check.Valid(f) {
			return
		}
		for _, m := range f.Modules {
			l := wiresIn(m)
			if !canBeOrdered(len(l), func(i, k int) bool {
				return slices.Contains(namesIn([]api.Expr{m.Items[l[i]].A}, api.ERef), m.Items[l[k]].Name)
			}) {
				t.Errorf("wires of %+v cannot be ordered", m)
			}
			wires += len(l)
		}
		if !canBeOrdered(len(f.Modules), func(i, k int) bool { return canReach(f, i, k, 1) }) {
			t.Errorf("modules of %+v cannot be ordered", f)
		}
		files++
		modules += len(f.Modules)
	})
	if files < 2500 || wires < 2500 || modules < 2500 {
		t.Errorf("only %d valid files with %d modules and %d wires", files, modules, wires)
	}
}

// A circle of wires within a valid file is a problem of each of them.
func TestP10_4CyclesOfWires(t *testing.T) {
	r := source()
	for range 2000 {
		f := api.File{Modules: []api.Module{validModule(r, "m", nil)}}
		l := wiresIn(f.Modules[0])
		if len(l) == 0 {
			continue
		}
		r.Shuffle(len(l), reflect.Swapper(l))
		l = l[:1+r.IntN(len(l))]
		items := f.Modules[0].Items
		for n, i := range l {
			next := items[l[(n+1)%len(l)]].Name
			items[i].A = oneOf(r, places(node(api.EXor, items[i].A, ref(next)))[:7]...)
		}
		slices.Sort(l)
		var want string
		for _, i := range l {
			want += fmt.Sprintf(" 4@%d", i)
		}
		got := withCode(checkFile(t, f), 4)
		for _, p := range problems(want) {
			if !slices.Contains(got, p) {
				t.Errorf("%+v: %v, want %s", f, got, want)
			}
		}
	}
}

func TestP10_4CyclesOfModules(t *testing.T) {
	r := source()
	circles := 0
	for range 500 {
		f := validFile(r)
		for i := range f.Modules {
			for k := range f.Modules {
				if i != k && !canReach(f, i, k, len(f.Modules)) {
					continue
				}
				g := copyOf(f)
				g.Modules[k].Items = append(g.Modules[k].Items, api.Item{Kind: api.IInst, Name: "zz", Of: f.Modules[i].Name})
				l := checkFile(t, g)
				if !slices.Contains(l, api.Problem{Code: 7, Module: k, Item: -1}) || !slices.Contains(l, api.Problem{Code: 7, Module: i, Item: -1}) {
					t.Errorf("%+v: %v", g, l)
				}
				circles++
			}
		}
	}
	if circles < 500 {
		t.Errorf("only %d circles", circles)
	}
}

// renamed is an expression in which a name is replaced.
func renamed(e api.Expr, from, to string) api.Expr {
	if e.Name == from {
		e.Name = to
	}
	e.Args = slices.Clone(e.Args)
	for i, arg := range e.Args {
		e.Args[i] = renamed(arg, from, to)
	}
	return e
}

// withRenamed is a file in which the item i of the module k is renamed at its declaration and in all expressions.
func withRenamed(f api.File, k, i int, to string) api.File {
	f = copyOf(f)
	items := f.Modules[k].Items
	from := items[i].Name
	items[i].Name = to
	for n := range items {
		for _, e := range []*api.Expr{&items[n].A, &items[n].B, &items[n].C} {
			*e = renamed(*e, from, to)
		}
	}
	return f
}

func TestP10_5Renaming(t *testing.T) {
	r := source()
	renamings := 0
	for range 120 {
		f := validFile(r)
		for k, m := range f.Modules {
			for i, item := range m.Items {
				if item.Kind != api.IReg && item.Kind != api.IWire {
					continue
				}
				for _, to := range []string{"zz", "abcdefghijklmnop", "reg", m.Name, "old"} {
					if g := withRenamed(f, k, i, to); !check.Valid(g) {
						t.Errorf("item %d of module %d of %+v as %s: %v", i, k, f, to, check.Check(g))
					}
				}
				for _, to := range append([]string{"Zz", "", "abcdefghijklmnopq"}, m.Params...) {
					checkMisnamed(t, f, k, i, to)
				}
				renamings++
			}
		}
	}
	if renamings < 200 {
		t.Errorf("only %d renamings", renamings)
	}
}

// checkMisnamed says that an item must not have another name.
func checkMisnamed(t *testing.T, f api.File, k, i int, to string) {
	t.Helper()
	if l := check.Check(withRenamed(f, k, i, to)); !slices.Contains(l, api.Problem{Code: 1, Module: k, Item: i}) {
		t.Errorf("item %d of module %d of %+v as %q: %v", i, k, f, to, l)
	}
}

// A register or a wire that is renamed at its declaration alone is missing where it is referred to.
func TestP10_5RenamingOfHalf(t *testing.T) {
	for _, items := range []string{"reg x: 1 = 0 -> y init; wire y: 1 = x;", "wire x: 1 = [1 : 1]; reg y: 1 = 0 -> x init;"} {
		f := inModule(t, items)
		checkProblems(t, f, "")
		checkProblems(t, withRenamed(f, 0, 0, "zz"), "")
		f.Modules[0].Items[0].Name = "zz"
		checkProblems(t, f, "3@1")
		f.Modules[0].Items[0].Name = "y"
		checkCode(t, f, 1, "1@1")
	}
}

func TestP10_6Removal(t *testing.T) {
	r := source()
	removed := map[int]int{}
	for range 600 {
		f := validFile(r)
		for k, m := range f.Modules {
			for i, item := range m.Items {
				if item.Kind != api.ITake && item.Kind != api.IPut && item.Kind != api.IInst {
					continue
				}
				g := copyOf(f)
				g.Modules[k].Items = slices.Delete(g.Modules[k].Items, i, i+1)
				if l := checkFile(t, g); (len(l) == 0) != (item.Kind == api.IInst && len(item.Ports) == 0) {
					t.Errorf("%+v without the item %d of module %d: %v", f, i, k, l)
				}
				removed[item.Kind]++
			}
		}
	}
	if len(removed) != 3 || removed[api.IInst] < 300 {
		t.Errorf("only %v removed", removed)
	}
}

func TestP10_6KnownRemovals(t *testing.T) {
	items := []string{"in a: 1; ", "out b: 1; ", "chan d: 1 [2]; ", "take a if [1 : 1]; ", "put d if [1 : 1] = a; ", "inst i: n() (p = d, q = b); "}
	for left, want := range map[string]string{
		"012345": "", "01245": "5@0 3@3", "01235": "5@2", "01234": "5@1 5@2", "0124": "5@0 5@1 5@2 3@3", "0125": "5@0 5@2",
	} {
		text := "module m() @ k { "
		for _, c := range left {
			text += items[c-'0']
		}
		checkProblems(t, fileOf(t, text+"} module n() @ k { in p: 1; out q: 1; take p if [1 : 1]; put q if [1 : 1] = p; }"), want)
	}
}

// arrays is all lists of a tree, with what stands behind their ends in the same arrays.
func arrays(v reflect.Value) string {
	var s strings.Builder
	eachLeaf(v, func(v reflect.Value) {
		if v.Kind() == reflect.Slice {
			fmt.Fprintf(&s, "%d of %+v\n", v.Len(), v.Slice(0, v.Cap()))
		}
	})
	return s.String()
}

func TestJ3ArgumentsStay(t *testing.T) {
	n := 0
	eachFile(func(_ *rand.Rand, f api.File) {
		if n++; n%16 > 0 {
			return
		}
		v := copied(reflect.ValueOf(f), 1+n%5)
		g := v.Interface().(api.File)
		before := arrays(v)
		l, valid := check.Check(g), check.Valid(g)
		if after := arrays(v); after != before {
			t.Errorf("%s: then %s", before, after)
		}
		if again := check.Check(f); !slices.Equal(again, l) || valid != (len(l) == 0) {
			t.Errorf("%+v: %v, with room behind its lists %v, %v", f, again, l, valid)
		}
	})
}

// The problems belong to the caller alone.
func TestJ3ResultsAreNew(t *testing.T) {
	f := inModule(t, "in x: 1; out y: 1;")
	l := check.Check(f)
	for i := range l[:cap(l)] {
		l[:cap(l)][i] = api.Problem{Code: 77}
	}
	checkProblems(t, f, "5@0 5@1")
}

// around is an expression that has itself as all of its arguments.
func around(op, n int) api.Expr {
	args := make([]api.Expr, n)
	for i := range args {
		args[i] = api.Expr{Op: op, Name: "r", Args: args}
	}
	return args[0]
}

// checkOnly says which problems a file has that is too large for the other reading of the chapter.
func checkOnly(t *testing.T, f api.File, want string) {
	t.Helper()
	if got := check.Check(f); !slices.Equal(got, problems(want)) || check.Valid(f) != (want == "") {
		t.Errorf("%v, want %s", got[:min(len(got), 100)], want)
	}
}

// Expressions without an end, and expressions that are arguments in more ways than could be counted.
func TestP1SharedExpressions(t *testing.T) {
	for op := -1; op <= 20; op++ {
		for n := 1; n <= 4; n++ {
			var want []string
			if operator, known := takes[op]; !known || operator.args != n {
				want = append(want, "2@1")
			}
			if op == api.EMem {
				want = append(want, "3@1")
			}
			wire := func(e api.Expr) api.File {
				return moduleOf(itemOf(api.IReg, "r"), api.Item{Kind: api.IWire, Name: "x", A: e})
			}
			checkOnly(t, wire(around(op, n)), strings.Join(want, " "))
			e := api.Expr{Op: op, Name: "r"}
			for range 200 {
				e = api.Expr{Op: op, Name: "r", Args: slices.Repeat([]api.Expr{e}, n)}
			}
			if _, known := takes[op]; known && !slices.Contains(want, "2@1") {
				want = slices.Insert(want, 0, "2@1")
			}
			checkOnly(t, wire(e), strings.Join(want, " "))
		}
	}
	args := []api.Expr{ref("x"), {}}
	args[1] = node(api.EAdd, args...)
	args[1].Args = args
	checkOnly(t, moduleOf(api.Item{Kind: api.IWire, Name: "x", A: args[1]}), "4@0")
	args[0] = ref("c")
	checkOnly(t, moduleOf(itemOf(api.IChan, "c"), itemOf(api.IPut, "c"), api.Item{Kind: api.ITake, Name: "c", A: args[1]}), "8@2")
}

// Lists of arguments that have some of their elements in common.
func TestP1OverlappingExpressions(t *testing.T) {
	for at := range 4 {
		args := []api.Expr{one, one, one, one}
		args[at] = ref("zz")
		for _, l := range [][]api.Expr{
			{node(api.EAnd, args[:2]...), node(api.EMux, args[1:]...)}, {node(api.EMux, args[1:]...), node(api.EAnd, args[:2]...)},
			{node(api.ENot, args[:1]...), node(api.EMux, args[:3]...), node(api.ENot, args[3:]...)}, {node(api.ENot, args[3:]...), node(api.EMux, args[:3]...), node(api.ENot, args[:1]...)},
		} {
			op := []int{api.EAnd, api.EMux}[len(l)-2]
			checkProblems(t, moduleOf(api.Item{Kind: api.IWire, Name: "x", A: node(op, l...)}), "3@0")
		}
	}
}

func TestP1DeepExpressions(t *testing.T) {
	good, bad := ref("r"), ref("zz")
	for range 1 << 17 {
		good, bad = node(api.ENot, good), node(api.ENot, bad)
	}
	checkOnly(t, moduleOf(itemOf(api.IReg, "r"), api.Item{Kind: api.IWire, Name: "x", A: good}), "")
	checkOnly(t, moduleOf(itemOf(api.IReg, "r"), api.Item{Kind: api.IMem, Name: "x", A: good, B: good, C: bad}), "3@1")
}

// chain is n wires, each of which needs the next one twice; the last one needs the wire to.
func chain(n, to int) []api.Item {
	items := make([]api.Item, n)
	for i := range items {
		next := ref(fmt.Sprint("a", i+1))
		if i == n-1 {
			next = ref(fmt.Sprint("a", to))
		}
		items[i] = api.Item{Kind: api.IWire, Name: fmt.Sprint("a", i), A: node(api.EAnd, next, next)}
	}
	return items
}

func TestP1ManyItems(t *testing.T) {
	const n = 2000
	var circle, upper string
	for i := range n {
		circle += fmt.Sprintf(" 4@%d", i)
		if i >= n/2 {
			upper += fmt.Sprintf(" 4@%d", i)
		}
	}
	checkOnly(t, moduleOf(append(chain(n, n), itemOf(api.IReg, fmt.Sprint("a", n)))...), "")
	checkOnly(t, moduleOf(chain(n, 0)...), circle)
	checkOnly(t, moduleOf(chain(n, n/2)...), upper)
	checkOnly(t, moduleOf(append(chain(n, n), itemOf(api.IChan, fmt.Sprint("a", n)), api.Item{Kind: api.ITake, Name: fmt.Sprint("a", n), A: ref("a0")}, itemOf(api.IPut, fmt.Sprint("a", n)))...), fmt.Sprintf("8@%d", n+1))
	var f api.File
	for i := range n {
		m := api.Module{Name: fmt.Sprint("a", i), Clock: "k"}
		for part := range 2 {
			m.Items = append(m.Items, api.Item{Kind: api.IInst, Name: fmt.Sprint("i", part), Of: fmt.Sprint("a", min(i+1, n-1))})
		}
		f.Modules = append(f.Modules, m)
	}
	checkOnly(t, f, strings.Repeat("| ", n-1)+"7@head")
	f.Modules[n-1].Items = nil
	checkOnly(t, f, "")
}
