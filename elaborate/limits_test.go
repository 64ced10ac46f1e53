package elaborate_test

import (
	"fmt"
	"math"
	"math/rand/v2"
	"slices"
	"strings"
	"testing"

	"wireloom/api"
	"wireloom/elaborate"
)

const marked = 777777

// withNumber is a file with another number in the place of all that are marked.
func withNumber(f api.File, n api.Num) api.File {
	f = copyOf(f)
	for _, x := range numbersIn(&f) {
		if x.N == marked {
			*x = n
		}
	}
	return f
}

// upTo returns all numbers from least to most.
func upTo(least, most int) []int {
	var l []int
	for n := least; n <= most; n++ {
		l = append(l, n)
	}
	return l
}

// places is items that have a number, for which X stands, and the values that it may have.
var places = []struct {
	items string
	good  []int
}{
	{"in i: X; take i if r0;", upTo(1, 8)},
	{"out o: X; put o if r0 = x; reg x: X = 0 -> x init;", upTo(1, 8)},
	{"chan c: X [1]; take c if r0; put c if r0 = c;", upTo(1, 8)},
	{"chan c: 1 [X]; take c if r0; put c if r0 = c;", upTo(1, 8)},
	{"reg x: X = 0 -> x init;", upTo(1, 8)},
	{"wire x: X = y; reg y: X = 0 -> y init;", upTo(1, 8)},
	{"mem x: X [1] if r0 at r0 = x[r0] init;", upTo(1, 8)},
	{"mem x: 1 [X] if r0 at r0 = x[r0] init;", []int{1, 2, 4, 8}},
	{"reg x: 1 = X -> x init;", upTo(0, 1)}, {"reg x: 2 = X -> x init;", upTo(0, 3)}, {"reg x: 3 = X -> x init;", upTo(0, 7)}, {"reg x: 4 = X -> x init;", upTo(0, 15)},
	{"reg x: 5 = X -> x init;", upTo(0, 31)}, {"reg x: 6 = X -> x init;", upTo(0, 63)}, {"reg x: 7 = X -> x init;", upTo(0, 127)}, {"reg x: 8 = X -> x init;", upTo(0, 255)},
	{"reg x: X = 15 -> x init;", upTo(4, 8)}, {"reg x: X = 16 -> x init;", upTo(5, 8)},
	{"inst i: n(X, 1) ();", upTo(0, 64)}, {"inst i: n(64, X) ();", upTo(0, 64)}, {"inst i: n(0, 64) (); inst j: n(X, X) ();", upTo(0, 64)},
	{"wire u: 4 = m1[[X : 8]];", upTo(0, 255)}, {"wire u: 4 = m1[[X : 3]];", upTo(0, 7)}, {"wire u: 4 = m1[[3 : X]];", upTo(2, 8)}, {"wire u: 1 = [1 : X];", upTo(1, 1)}, {"reg u: 4 = 0 -> (r1 + [X : 4]) init;", upTo(0, 15)},
	{"wire u: 4 = m1[{r1 @ X : 2}];", upTo(0, 2)}, {"wire u: 4 = m1[{r1 @ 1 : X}];", upTo(1, 3)}, {"wire u: 2 = {r1 @ X : X};", upTo(2, 2)}, {"wire u: 4 = m1[{r1 : X}];", upTo(4, 8)}, {"wire u: 4 = m1[~{r0 : X}];", upTo(1, 8)},
}

// Each number of a module that is used, with and without a parameter.
func TestP11_1Numbers(t *testing.T) {
	for _, place := range places {
		f := inModule(t, strings.ReplaceAll(place.items, "X", fmt.Sprint(marked)))
		f.Modules = append(f.Modules, fileOf(t, "module n(v, w) @ k { }").Modules...)
		check := func(n api.Num, v int) {
			want := api.ErrCircuit
			if slices.Contains(place.good, v) {
				want = api.OK
			}
			checkError(t, withNumber(f, n), "m", []int{2, 64}, want)
		}
		for v := -3; v < 68; v++ {
			check(num(v), v)
			check(api.Num{N: v - 2, Param: "w"}, v)
			check(api.Num{N: v - 64, Param: "v"}, v)
		}
		for _, v := range []int{126, 127, 128, 129, 254, 255, 256, 257, 258, 511, 512, 1 << 32, 1<<32 + 1, 1<<62 + 1, -1 << 62, mostN - 1, mostN, mostN + 1, -mostN + 1, -mostN, -mostN - 1, math.MinInt, math.MaxInt} {
			check(num(v), v)
		}
		for _, n := range []int{mostN - 2, mostN - 1, mostN, mostN + 1, math.MaxInt - 2, math.MaxInt, math.MinInt, math.MinInt + 62, math.MinInt + 64, -mostN - 1, -mostN, -mostN + 2} {
			check(api.Num{N: n, Param: "w"}, n+2)
			check(api.Num{N: n, Param: "v"}, n+64)
		}
	}
}

// Parameters have the values of the arguments, by their places, in each instance anew.
func TestP11_1Arguments(t *testing.T) {
	f := fileOf(t, `
		module top(a, b) @ k { inst x: mid(a, b, 5) (); inst y: mid(b - 1, 3, a + 2) (); reg r: 8 = a -> [b : 8] init; }
		module mid(b, c, a) @ k { inst z: low(c, b + 1) (); reg r: 8 = a -> [b : 8] init; reg s: 8 = c -> s init; }
		module low(a, b) @ k { reg r: 8 = a -> [b : 8] init; }`)
	checkShown(t, f, "top", []int{60, 2}, `
		proc top @ k
		reg r: 8 = 60 -> const:2/8 0 "" 0
		proc top.x @ k
		reg r: 8 = 5 -> const:60/8 0 "" 0
		reg s: 8 = 2 -> reg:1 0 "" 0
		proc top.x.z @ k
		reg r: 8 = 2 -> const:61/8 0 "" 0
		proc top.y @ k
		reg r: 8 = 62 -> const:1/8 0 "" 0
		reg s: 8 = 3 -> reg:1 0 "" 0
		proc top.y.z @ k
		reg r: 8 = 3 -> const:2/8 0 "" 0`)
	for a := -1; a < 67; a++ {
		for b, want := range map[int]api.Errno{-1: api.ErrArg, 0: api.ErrCircuit, 1: api.OK, 64: api.OK, 65: api.ErrArg} {
			switch {
			case a < 0 || a > 64:
				want = api.ErrArg
			case a > 62 && want == api.OK:
				want = api.ErrCircuit
			}
			checkError(t, f, "top", []int{a, b}, want)
		}
	}
	for _, args := range [][]int{nil, {}, {1}, {1, 1, 1}, {1, 1, 65}, {math.MinInt, 1}, {1, math.MaxInt}, {1 << 32, 1}, {65, 65}} {
		checkError(t, f, "top", args, api.ErrArg)
	}
	checkError(t, f, "low", []int{0, 0}, api.OK)
	checkError(t, fileOf(t, "module m() @ k { }"), "m", []int{0}, api.ErrArg)
	checkError(t, fileOf(t, "module m() @ k { }"), "m", []int{}, api.OK)
}

// Widths of a port and of what it is bound to, in the instance with the item, which is the top one or within it.
func TestP11_1Bindings(t *testing.T) {
	f := fileOf(t, `
		module top(p, q) @ k { inst i: m(p, q) (a = c, b = d); chan c: p [1]; chan d: q [1]; inst j: n(q, p) (a = d, b = c); }
		module m(p, q) @ k { in a: p; out b: q; inst i: n(p, q) (b = b, a = a); }
		module n(q, p) @ k { out b: p; take a if [1 : 1]; put b if [1 : 1] = {[1 : 1] : p}; in a: q; }
		module wide(p, q) @ k { in a: p; out b: q; inst i: n(p, q + 1) (b = b, a = a); }
		module wider(p, q) @ k { in a: p; out b: q; inst i: n(p + 1, q) (b = b, a = a); }
		module around(p, q) @ k { inst i: wide(p, q) (a = a, b = b); in a: p; out b: q; }
		module chans(p, q) @ k { inst i: n(p, p) (a = a, b = a); chan a: q [1]; inst j: n(q, 1) (a = b, b = d); inst h: n(1, q) (a = d, b = b); chan b: q [1]; chan d: 1 [1]; }`)
	for p := range 10 {
		for q := range 10 {
			good := isIn(p, 1, 8) && isIn(q, 1, 8)
			for top, fits := range map[string]bool{"top": good, "m": good, "n": good, "wide": false, "wider": false, "around": false, "chans": good && p == q} {
				want := api.ErrCircuit
				if fits {
					want = api.OK
				}
				checkError(t, f, top, []int{p, q}, want)
			}
		}
	}
}

// checkErrors says with which errors a design and its paths are refused.
func checkErrors(t *testing.T, f api.File, top string, args []int, want, wantPaths api.Errno) {
	t.Helper()
	checkError(t, f, top, args, want)
	if _, e := elaborate.Paths(f, top); e != wantPaths {
		t.Errorf("paths of %s of %s: %d, want %d", top, written(f), e, wantPaths)
	}
}

// faults has what can be wrong with a design, in the order of the errors of K1; each of them adds items to its top module.
var faults = []struct {
	items string
	e     api.Errno
}{
	{"wire e: 1 = nothing;", api.ErrCheck}, {"", api.ErrNone}, {"", api.ErrArg},
	{"inst i0: e5() (); inst i1: bare() ();", api.ErrBig}, {"inst p0: four() (); inst p1: four() (); inst p2: p() ();", api.ErrBig}, {"inst c0: eight() (); inst c1: eight() (); chan c: 1 [1]; take c if r; put c if r = r;", api.ErrBig},
	{"wire x: 2 = [1 : 1];", api.ErrCircuit}, {"inst x1: bad() ();", api.ErrCircuit}, {"inst x2: worse(65) ();", api.ErrCircuit}, {"reg n: 1 = 0 -> w3 init;", api.ErrBig}, {"inst n1: long() ();", api.ErrBig},
}

// long is a register, and wires, of which the last one has 208 nodes.
const long = "reg l: 1 = 0 -> l init; wire w0: 1 = (((l & l) & (l & l)) & ((l & l) & (l & l))); wire w1: 1 = ((w0 & w0) & (w0 & w0)); wire w3: 1 = ((w1 & w1) & (w1 & {w0 : 1}));"

func TestP11_1OrderOfErrors(t *testing.T) {
	text := "module bare() @ k { } module e1() @ k { inst a: bare() (); inst b: bare() (); } module p() @ k { reg r: 1 = 0 -> r init; } module bad() @ k { wire x: 9 = [1 : 1]; } module worse(p) @ k { } module long() @ k { " + long + " reg n: 1 = 0 -> w3 init; } " +
		"module two() @ k { inst a: p() (); inst b: p() (); } module four() @ k { inst a: two() (); inst b: two() (); } module eight() @ k {"
	for n := range 8 {
		text += fmt.Sprintf(" chan c%d: 1 [1]; take c%d if [1 : 1]; put c%d if [1 : 1] = [1 : 1];", n, n, n)
	}
	text += " } "
	for n := 2; n <= 5; n++ {
		text += fmt.Sprintf("module e%d() @ k { inst a: e%d() (); inst b: e%d() (); } ", n, n-1, n-1)
	}
	for set := range 1 << len(faults) {
		items, top, args := "reg r: 1 = 0 -> r init; "+long, "t", []int{3}
		want, wantPaths := api.OK, api.OK
		for n := len(faults) - 1; n >= 0; n-- {
			if set>>n&1 == 0 {
				continue
			}
			items, want = items+faults[n].items, faults[n].e
			switch n {
			case 0, 3:
				wantPaths = want
			case 1:
				top, wantPaths = "u", want
			case 2:
				args = []int{}
			}
		}
		f := fileOf(t, text+"module t(w) @ k { "+items+" }")
		checkErrors(t, f, top, args, want, wantPaths)
	}
}

// line is n modules a1 to an, each of which has an instance of the one before.
func line(n int) string {
	text := "module a1() @ k { } "
	for i := 2; i <= n; i++ {
		text += fmt.Sprintf("module a%d() @ k { inst x: a%d() (); } ", i, i-1)
	}
	return text
}

// tree is n modules b1 to bn, each of which has two instances of the one before; b1 has these items.
func tree(n int, items string) string {
	text := "module b1() @ k { " + items + " } "
	for i := 2; i <= n; i++ {
		text += fmt.Sprintf("module b%d() @ k { inst x: b%d() (); inst y: b%d() (); } ", i, i-1, i-1)
	}
	return text
}

// many writes n items, in which # stands for their numbers.
func many(n int, item string) string {
	var s strings.Builder
	for i := range n {
		s.WriteString(strings.ReplaceAll(item, "#", fmt.Sprint(i)))
	}
	return s.String()
}

// checkLimit says whether a module t with these items is too big, or has too many instances.
func checkLimit(t *testing.T, modules, items string, big, bigPaths bool) {
	t.Helper()
	errors := map[bool]api.Errno{false: api.OK, true: api.ErrBig}
	checkErrors(t, fileOf(t, modules+" module t() @ k { "+items+" }"), "t", nil, errors[big], errors[bigPaths])
}

func TestP11_7Instances(t *testing.T) {
	for n := range 75 {
		checkLimit(t, "module e() @ k { }", many(n, "inst i#: e() ();"), n > 63, n > 63)
	}
	for n := 1; n < 90; n++ {
		checkLimit(t, line(n), fmt.Sprintf("inst x: a%d() ();", n), n > 63, n > 63)
	}
	for n := 1; n < 90; n++ {
		checkLimit(t, tree(n, ""), fmt.Sprintf("inst x: b%d() ();", n), n > 6, n > 6) // an instance of b6 has 62 others
		checkLimit(t, tree(6, "")+line(n), fmt.Sprintf("inst x: a%d() (); inst y: b6() ();", n), true, true)
		checkLimit(t, tree(5, "")+line(n), fmt.Sprintf("inst x: a%d() (); inst y: b5() ();", n), n > 32, n > 32)
		checkLimit(t, tree(5, "")+line(n), fmt.Sprintf("inst y: b5() (); inst x: a%d() ();", n), n > 32, n > 32)
	}
}

func TestP11_7Processes(t *testing.T) {
	for _, proc := range []string{"reg r: 1 = 0 -> r init;", "mem m: 1 [1] if m[[0 : 1]] at [0 : 1] = [0 : 1] init;"} {
		for n := range 12 {
			checkLimit(t, tree(1, proc), many(n, "inst i#: b1() ();"), n > 8, false)
			checkLimit(t, tree(1, proc), many(n, "inst i#: b1() ();")+proc, n > 7, false)
			checkLimit(t, tree(1, "inst i: p() ();")+"module p() @ k { "+proc+" }", many(n, "inst i#: b1() ();"), n > 8, false)
			checkLimit(t, tree(3, proc), many(n, "inst i#: b1() ();")+"inst x: b3() ();", n > 4, false)
		}
		for n := 1; n <= 5; n++ {
			checkLimit(t, tree(n, proc), fmt.Sprintf("inst x: b%d() ();", n), n > 4, false)
			checkLimit(t, tree(n, proc), fmt.Sprintf("inst x: b%d() ();", n)+proc, n > 3, false)
		}
	}
	for n := range 12 {
		ends := many(n, "inst i#: b1() (a = a#); in a#: 1;")
		checkLimit(t, tree(1, "in a: 1; take a if [1 : 1];"), ends, n > 8, false)
		checkLimit(t, tree(1, "out a: 1; put a if [1 : 1] = [1 : 1];"), strings.ReplaceAll(ends, "in a", "out a"), n > 8, false)
		checkLimit(t, tree(1, "in a: 1; inst i: p() (b = a);")+"module p() @ k { in b: 1; take b if [1 : 1]; }", ends, n > 8, false)
	}
}

func TestP11_7Channels(t *testing.T) {
	in, out := "in a#: 1; take a# if [1 : 1];", "out b#: 1; put b# if [1 : 1] = [1 : 1];"
	inside := "chan c#: 1 [1]; take c# if [1 : 1]; put c# if [1 : 1] = [1 : 1];"
	for n := range 20 {
		checkLimit(t, "", many(n, in), n > 16, false)
		checkLimit(t, "", many(n, out), n > 16, false)
		checkLimit(t, "", many(n, inside), n > 16, false)
		for k := range 18 {
			checkLimit(t, "", many(n, in)+many(k, out), n+k > 16, false)
			checkLimit(t, "", many(n, inside)+many(k, in), n+k > 16, false)
			checkLimit(t, tree(1, many(k, inside)), "inst i: b1() ();"+many(n, out), n+k > 16, false)
		}
		checkLimit(t, tree(3, many(3, inside)), "inst i: b3() ();"+many(n, inside), n > 4, false)
		checkLimit(t, tree(3, many(n, inside)), "inst i: b3() ();", n > 4, false)
		checkLimit(t, tree(2, many(n, inside)+"inst i: p() ();")+"module p() @ k { "+many(1, inside)+" }", "inst i: b2() ();", n > 7, false)
		// Ports of other instances are no channels.
		port := "in a#: 1; inst i#: p() (a = a#);"
		checkLimit(t, "module p() @ k { in a: 1; take a if [1 : 1]; } module q() @ k { "+many(8, "in a#: 1; take a# if [1 : 1];")+" }", many(8, "in d#: 1;")+"inst q: q() ("+strings.TrimSuffix(many(8, "a# = d#, "), ", ")+");"+many(n, port), n > 7, false)
	}
}

// shaped is an expression of one bit with n nodes.
func shaped(r *rand.Rand, n int) api.Expr {
	if n == 1 {
		return oneOf(r, one, ref("r"), constant(0, 1))
	}
	ops := []int{api.ENot, api.EMem}
	if n > 2 {
		ops = append(ops, api.EAnd, api.EOr, api.EXor, api.EAdd, api.ESub, api.EEq, api.ELt)
	}
	if n > 3 {
		ops = append(ops, api.EMux, api.EMux, api.EMux)
	}
	e := api.Expr{Op: oneOf(r, ops...)}
	count := map[int]int{api.ENot: 1, api.EMem: 1, api.EMux: 3}[e.Op]
	if count == 0 {
		count = 2
	}
	if e.Op == api.EMem {
		e.Name = "m"
	}
	for n--; count > 1; count-- {
		k := 1 + r.IntN(n-count+1)
		e.Args = append(e.Args, shaped(r, k))
		n -= k
	}
	e.Args = append(e.Args, shaped(r, n))
	return e
}

// exprsIn returns the expressions of the process of a module.
func exprsIn(m *api.Module) []*api.Expr {
	var l []*api.Expr
	for i := range m.Items {
		item := &m.Items[i]
		for _, name := range strings.Fields(uses[item.Kind].exprs) {
			if item.Kind != api.IWire {
				l = append(l, map[string]*api.Expr{"A": &item.A, "B": &item.B, "C": &item.C}[name])
			}
		}
	}
	return l
}

// allKinds has 14 expressions of all kinds of items, with a node each, and a wire that is in none of them.
const allKinds = `reg r: 1 = 0 -> r init; mem m: 1 [1] if r at r = r init; in a: 1; take a if r; out b: 1; put b if r = r;
	reg s: 1 = 0 -> r init; mem n: 1 [1] if r at r = r init; chan c: 1 [1]; take c if r; put c if r = r; wire w: 1 = r;`

func TestP11_7Nodes(t *testing.T) {
	r := source()
	f := fileOf(t, "module t() @ k { "+allKinds+" }")
	const count = 14
	if len(exprsIn(&f.Modules[0])) != count {
		t.Fatal(count)
	}
	for at := range count {
		for n, want := range map[int]api.Errno{1: api.OK, 2: api.OK, mostNodes - count: api.OK, mostNodes - count + 1: api.OK, mostNodes - count + 2: api.ErrBig, mostNodes - count + 3: api.ErrBig, mostNodes: api.ErrBig, mostNodes + 1: api.ErrBig, 500: api.ErrBig} {
			g := copyOf(f)
			*exprsIn(&g.Modules[0])[at] = shaped(r, n)
			checkError(t, g, "t", nil, want)
			g.Modules[0].Items[len(g.Modules[0].Items)-1].A = shaped(r, 600)
			checkError(t, g, "t", nil, want)
		}
	}
	for range 100 {
		g := copyOf(f)
		sizes, total := slices.Repeat([]int{1}, count), mostNodes-1+r.IntN(4)
		for left := total - count; left > 0; {
			n := 1 + r.IntN(left)
			sizes[r.IntN(count)] += n
			left -= n
		}
		for at, n := range sizes {
			*exprsIn(&g.Modules[0])[at] = shaped(r, n)
		}
		want := api.OK
		if total > mostNodes {
			want = api.ErrBig
		}
		checkError(t, g, "t", nil, want)
	}
}

// Each process may have 200 nodes.
func TestP11_7NodesOfProcesses(t *testing.T) {
	r := source()
	for n := 198; n < 203; n++ {
		for procs := 1; procs <= mostProcs; procs++ {
			f := fileOf(t, "module t() @ k { "+many(procs, "inst i#: p#() ();")+" } "+many(procs, "module p#() @ k { reg r: 1 = 0 -> r init; mem m: 1 [1] if r at r = r init; } "))
			at := 1 + r.IntN(procs)
			for k := range procs {
				f.Modules[1+k].Items[0].A = shaped(r, mostNodes-3)
			}
			f.Modules[at].Items[0].A = shaped(r, n-3)
			want := api.OK
			if n > mostNodes {
				want = api.ErrBig
			}
			checkError(t, f, "t", nil, want)
			checkError(t, f, fmt.Sprint("p", at-1), nil, want)
		}
	}
}

// A reference to a wire has as many nodes as the expression of the wire.
func TestP11_7NodesOfWires(t *testing.T) {
	r := source()
	for _, x := range []struct {
		items string
		size  int // of the wire w
		nodes int
	}{
		{"reg s: 1 = 0 -> w init;", 196, 196}, {"reg s: 1 = 0 -> w init;", 197, 197}, {"reg s: 1 = 0 -> w init;", 199, 199}, {"reg s: 1 = 0 -> w init;", 200, 200},
		{"reg s: 1 = 0 -> v init; wire v: 1 = u; wire u: 1 = x; wire x: 1 = w;", 196, 196}, {"reg s: 1 = 0 -> v init; wire v: 1 = u; wire u: 1 = x; wire x: 1 = w;", 197, 197},
		{"reg s: 1 = 0 -> ~v init; wire v: 1 = ~u; wire u: 1 = ~w;", 193, 196}, {"reg s: 1 = 0 -> ~v init; wire v: 1 = ~u; wire u: 1 = ~w;", 194, 197},
		{"reg s: 1 = 0 -> (w & w) init;", 97, 195}, {"reg s: 1 = 0 -> (w & w) init;", 98, 197}, {"reg s: 1 = 0 -> w init; mem n: 1 [2] if w at w = w init;", 49, 196}, {"reg s: 1 = 0 -> w init; mem n: 1 [2] if w at w = w init;", 50, 200},
		{"take i if w; in i: 1; put o if w = w; out o: 1;", 65, 195}, {"take i if w; in i: 1; put o if w = w; out o: 1;", 66, 198}, {"wire v: 1 = (w & w); wire u: 1 = (v & v); wire x: 1 = (u & u); wire y: 1 = (x & x); wire z: 1 = (y & y);", 190, 0},
		{"wire v: 1 = (w & w); wire u: 1 = (v & v); wire x: 1 = (u & u); wire y: 1 = (x & x); wire z: 1 = (y & y); reg s: 1 = 0 -> z init;", 5, 191},
		{"wire v: 1 = (w & w); wire u: 1 = (v & v); wire x: 1 = (u & u); wire y: 1 = (x & x); wire z: 1 = (y & y); reg s: 1 = 0 -> z init;", 6, 223},
		{"wire v: 1 = (w & r); wire u: 1 = (v & r); reg s: 1 = 0 -> (u & v) init;", 94, 195}, {"wire v: 1 = (w & r); wire u: 1 = (v & r); reg s: 1 = 0 -> (u & v) init;", 95, 197},
	} {
		f := fileOf(t, "module t() @ k { wire w: 1 = r; reg r: 1 = 0 -> r init; mem m: 1 [1] if r at r = r init;"+x.items+" }")
		f.Modules[0].Items[0].A = shaped(r, x.size)
		want := api.OK
		if x.nodes+4 > mostNodes {
			want = api.ErrBig
		}
		c, e := checkDesign(t, f, "t", nil)
		if e != want || e == api.OK && nodes(exprsOf(c.Procs[0])...) != x.nodes+4 {
			t.Errorf("%s with %d: %d %s", x.items, x.size, e, show(c))
		}
	}
}

// A file with n wires, each of which has the one before twice, stands for 2^n nodes.
func TestP11_7NodesOfManyWires(t *testing.T) {
	for _, n := range []int{1, 5, 6, 7, 20, 100, 150} {
		wires := "wire w0: 1 = r;"
		for i := 1; i <= n; i++ {
			wires += fmt.Sprintf("wire w%d: 1 = (w%d & w%d);", i, i-1, i-1)
		}
		reg := "reg r: 1 = 0 -> r init;"
		use := fmt.Sprintf("reg s: 1 = 0 -> w%d init;", n)
		for items, want := range map[string]api.Errno{
			reg: api.OK, reg + use: map[bool]api.Errno{false: api.OK, true: api.ErrBig}[n > 6],
			reg + use + "wire x: 2 = r;": api.ErrCircuit, "reg r: 2 = 0 -> r init;" + use: api.ErrCircuit, "reg r: 9 = 0 -> r init;": api.ErrCircuit, reg + fmt.Sprintf("wire x: 2 = w%d;", n): api.ErrCircuit,
		} {
			if _, e := elaborate.Elaborate(fileOf(t, "module t() @ k { "+wires+items+" }"), "t", nil); e != want {
				t.Errorf("%d wires and %s: %d, want %d", n, items, e, want)
			}
		}
	}
}
