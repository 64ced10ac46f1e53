package elaborate_test

import (
	"fmt"

	"strings"
	"testing"

	"wireloom/api"
	"wireloom/elaborate"
)

// checkShown says how the circuit of a design is written; blanks before its lines do not matter.
func checkShown(t *testing.T, f api.File, top string, args []int, want string) {
	t.Helper()
	c, e := checkDesign(t, f, top, args)
	var lines []string
	for line := range strings.Lines(strings.TrimSpace(want)) {
		lines = append(lines, strings.TrimSpace(line)+"\n")
	}
	if got := show(c); e != api.OK || got != strings.Join(lines, "") {
		t.Errorf("%s%v: %d\n%swant\n%s", top, args, e, got, strings.Join(lines, ""))
	}
	checkValid(t, c)
}

const example = "module m(w) @ clk { in a: w; out b: w; reg r: w = 1 -> (r + a) keep; take a if [1 : 1]; put b if [1 : 1] = r; }"

func TestP11_1Example(t *testing.T) {
	f := fileOf(t, example)
	checkShown(t, f, "m", []int{4}, `
		chan m.a: 4 [0] -1 to 0
		chan m.b: 4 [0] 0 to -1
		proc m @ clk
		reg r: 4 = 1 -> add(reg data) 1 "" 0
		take 0: 4 if const:1/1
		put 1: 4 if const:1/1 = reg`)
	for w := range 68 {
		want := api.OK
		if w > 64 {
			want = api.ErrArg
		} else if w < 1 || w > 8 {
			want = api.ErrCircuit
		}
		checkError(t, f, "m", []int{w}, want)
	}
	checkError(t, f, "m", nil, api.ErrArg)
	checkError(t, f, "m", []int{4, 4}, api.ErrArg)
	checkError(t, f, "n", []int{4}, api.ErrNone)
}

// nested has instances within instances, between other items, of modules that stand before and behind them.
const nested = `
	module leaf() @ k0 { reg r: 1 = 0 -> r init; }
	module top() @ k1 { inst z: mid() (); wire w: 1 = [1 : 1]; inst b: leaf() (); inst a: wide() (); }
	module mid() @ k2 { inst y: leaf() (); inst x: bare() (); inst w: leaf() (); reg r: 2 = 3 -> r keep; }
	module bare() @ k3 { }
	module wide() @ k4 { inst b: mid() (); inst a: bare() (); inst c: mid() (); }`

func TestP11_1Paths(t *testing.T) {
	f := fileOf(t, nested)
	for top, want := range map[string]string{
		"leaf": "leaf", "bare": "bare", "mid": "mid mid.y mid.x mid.w", "wide": "wide wide.b wide.b.y wide.b.x wide.b.w wide.a wide.c wide.c.y wide.c.x wide.c.w",
		"top": "top top.z top.z.y top.z.x top.z.w top.b top.a top.a.b top.a.b.y top.a.b.x top.a.b.w top.a.a top.a.c top.a.c.y top.a.c.x top.a.c.w",
	} {
		if paths, e := elaborate.Paths(f, top); e != api.OK || strings.Join(paths, " ") != want {
			t.Errorf("%s: %d %v, want %s", top, e, paths, want)
		}
	}
	checkShown(t, f, "wide", nil, `
		proc wide.b @ k2
		reg r: 2 = 3 -> reg 1 "" 0
		proc wide.b.y @ k0
		reg r: 1 = 0 -> reg 0 "" 0
		proc wide.b.w @ k0
		reg r: 1 = 0 -> reg 0 "" 0
		proc wide.c @ k2
		reg r: 2 = 3 -> reg 1 "" 0
		proc wide.c.y @ k0
		reg r: 1 = 0 -> reg 0 "" 0
		proc wide.c.w @ k0
		reg r: 1 = 0 -> reg 0 "" 0`)
	checkShown(t, f, "bare", nil, "")
	checkError(t, f, "top", nil, api.ErrBig) // 10 processes
}

// A module is a process if it has a register, a memory, a take or a put.
func TestP11_1Processes(t *testing.T) {
	for items, want := range map[string]string{
		"": "", "wire x: 1 = [1 : 1]; wire y: 2 = (x . x);": "", "inst i: n() (); wire x: 3 = [1 : 3];": "proc m.i @ n\nreg r: 1 = 0 -> reg 0 \"\" 0\n",
		"reg x: 1 = 1 -> x init;":                            "proc m @ k\nreg x: 1 = 1 -> reg 0 \"\" 0\n",
		"mem x: 1 [2] if [1 : 1] at [0 : 3] = [0 : 1] init;": "proc m @ k\nmem x: 1 [2] if const:1/1 at const/3 = const/1 0 \"\" 0\n",
		"in x: 1; take x if [0 : 1];":                        "chan m.x: 1 [0] -1 to 0\nproc m @ k\ntake 0: 1 if const/1\n",
		"out x: 1; put x if [0 : 1] = [1 : 1];":              "chan m.x: 1 [0] 0 to -1\nproc m @ k\nput 0: 1 if const/1 = const:1/1\n",
	} {
		checkShown(t, fileOf(t, "module m() @ k { "+items+" } module n() @ n { reg r: 1 = 0 -> r init; }"), "m", nil, want)
	}
}

// Ports of the top instance come first, and then the channels of the instances in order.
func TestP11_1Channels(t *testing.T) {
	f := fileOf(t, `
		module stage(w) @ s { in p: w; out q: w; chan c: w [w]; take p if [1 : 1]; put q if [1 : 1] = {[1 : 1] : w}; take c if [1 : 1]; put c if [0 : 1] = c; }
		module shell(w) @ s { chan d: w [5]; inst i: stage(w) (q = d, p = in1); out out1: w; in in1: w; inst j: stage(w) (p = d, q = out1); }
		module top() @ t {
			chan e: 2 [8]; out o: 2; inst one: shell(2) (in1 = i, out1 = e); chan f: 3 [1]; inst loop: stage(3) (p = f, q = f); in i: 2; inst two: stage(2) (q = o, p = g);
			chan g: 2 [2]; put g if (e == e) = e; take e if [1 : 1]; in x: 1; take x if [1 : 1];
		}`)
	stage := func(name string, c, w, p, q int) string {
		return fmt.Sprintf("proc %s @ s\ntake %d: %d if const:1/1\ntake %d: %d if const:1/1\nput %d: %d if const:1/1 = ext/%d(const:1/1)\nput %d: %d if const/1 = data:1\n", name, p, w, c, w, q, w, w, c, w)
	}
	checkShown(t, f, "top", nil, `
		chan top.o: 2 [0] 4 to -1
		chan top.i: 2 [0] -1 to 1
		chan top.x: 1 [0] -1 to 0
		chan top.e: 2 [8] 2 to 0
		chan top.f: 3 [1] 3 to 3
		chan top.g: 2 [2] 0 to 4
		chan top.one.d: 2 [5] 1 to 2
		chan top.one.i.c: 2 [2] 1 to 1
		chan top.one.j.c: 2 [2] 2 to 2
		chan top.loop.c: 3 [3] 3 to 3
		chan top.two.c: 2 [2] 4 to 4
		proc top @ t
		take 3: 2 if const:1/1
		take 2: 1 if const:1/1
		put 5: 2 if eq(data data) = data
		`+stage("top.one.i", 7, 2, 1, 6)+stage("top.one.j", 8, 2, 6, 3)+stage("top.loop", 9, 3, 4, 4)+stage("top.two", 10, 2, 5, 0))
}

const echo = " module echo() @ k { in p: 3; out q: 3; take p if [1 : 1]; put q if [1 : 1] = p; }"

// shells is n modules around echo, each of which has an instance x of the next one; the outer one is s and its number.
func shells(n int) string {
	text, inner := echo, "echo"
	for i := range n {
		outer := fmt.Sprint("s", i+1)
		text += " module " + outer + "() @ k { out q: 3; in p: 3; inst x: " + inner + "() (q = q, p = p); }"
		inner = outer
	}
	return text
}

// Ports can be bound to ports of any number of instances around.
func TestP11_1DeepPorts(t *testing.T) {
	for _, n := range []int{1, 2, 3, 10, 60, 62} {
		path := fmt.Sprint("s", n) + strings.Repeat(".x", n)
		checkShown(t, fileOf(t, shells(n)), fmt.Sprint("s", n), nil, fmt.Sprintf("chan s%d.q: 3 [0] 0 to -1\nchan s%d.p: 3 [0] -1 to 0\nproc %s @ k\ntake 1: 3 if const:1/1\nput 0: 3 if const:1/1 = data\n", n, n, path))
		loop := fileOf(t, shells(n)+fmt.Sprintf(" module t() @ k { inst y: s%d() (q = c, p = c); chan c: 3 [4]; }", n))
		path = "t.y" + strings.Repeat(".x", n)
		checkShown(t, loop, "t", nil, fmt.Sprintf("chan t.c: 3 [4] 0 to 0\nproc %s @ k\ntake 0: 3 if const:1/1\nput 0: 3 if const:1/1 = data\n", path))
	}
}

// Names of modules, items and channels can be the same.
func TestP11_1SameNames(t *testing.T) {
	f := fileOf(t, "module a() @ a { in b: 1; out c: 1; inst a: b() (b = b, c = d); chan d: 1 [2]; inst e: b() (b = d, c = c); } module b() @ b { out c: 1; in b: 1; take b if [1 : 1]; put c if [1 : 1] = b; }")
	checkShown(t, f, "a", nil, `
		chan a.b: 1 [0] -1 to 0
		chan a.c: 1 [0] 1 to -1
		chan a.d: 1 [2] 0 to 1
		proc a.a @ b
		take 0: 1 if const:1/1
		put 2: 1 if const:1/1 = data
		proc a.e @ b
		take 2: 1 if const:1/1
		put 1: 1 if const:1/1 = data`)
}

func TestP11_1Fields(t *testing.T) {
	checkShown(t, fileOf(t, `module m(w) @ clk {
		reg r1: 8 = 255 -> [7 : 8] init; take x if r4; mem m1: 3 [1] if r4 at r1 = [5 : 3] add old 9; put y if ~r4 = (r3 ^ r3);
		reg r2: 1 = 1 -> r2 keep; mem m2: 8 [8] if r2 at r3 = r1 init; reg r3: w = w -> [w : w] copy old; mem m3: 1 [2] if r4 at r4 = r2 keep;
		put z if [0 : 1] = r3; reg r4: 1 = 0 -> [1 : 1] add r4 1000000; take v if [1 : 1]; mem m4: 1 [4] if r4 at r4 = r2 copy m4;
		in x: 2; out z: w; in v: 7; out y: 3; }`), "m", []int{3}, `
		chan m.x: 2 [0] -1 to 0
		chan m.z: 3 [0] 0 to -1
		chan m.v: 7 [0] -1 to 0
		chan m.y: 3 [0] 0 to -1
		proc m @ clk
		reg r1: 8 = 255 -> const:7/8 0 "" 0
		reg r2: 1 = 1 -> reg:1 1 "" 0
		reg r3: 3 = 3 -> const:3/3 2 "old" 0
		reg r4: 1 = 0 -> const:1/1 3 "r4" 1000000
		mem m1: 3 [1] if reg:3 at reg = const:5/3 3 "old" 9
		mem m2: 8 [8] if reg:1 at reg:2 = reg 0 "" 0
		mem m3: 1 [2] if reg:3 at reg:3 = reg:1 1 "" 0
		mem m4: 1 [4] if reg:3 at reg:3 = reg:1 2 "m4" 0
		take 0: 2 if reg:3
		take 2: 7 if const:1/1
		put 3: 3 if not(reg:3) = xor(reg:2 reg:2)
		put 1: 3 if const/1 = reg:2`)
}

// inModule is a file with one module, which has the parameters w and v, and items that expressions can refer to.
func inModule(t *testing.T, items string) api.File {
	t.Helper()
	return fileOf(t, `module m(w, v) @ k {
		reg r0: 1 = 0 -> r0 init; mem m0: 1 [1] if r0 at r0 = r0 init; take d0 if r0; put e0 if r0 = r1; reg r1: 4 = 0 -> r1 init; mem m1: 4 [2] if r0 at r0 = r1 init;
		in d0: 1; out e0: 4; in d1: 4; wire w0: 1 = r0; wire w1: 4 = m1[d0]; take d1 if r0; `+items+" }")
}

// Expressions with their widths and their translations, for w = 2 and v = 3.
var expressions = []struct {
	text  string
	width int
	want  string
}{
	{"[w : 5]", 5, "const:2/5"}, {"[0 : 8]", 8, "const/8"}, {"[w + 253 : v + 5]", 8, "const:255/8"}, {"[w - 2 : 1]", 1, "const/1"}, {"[v - 2 : w - 1]", 1, "const:1/1"},
	{"r0", 1, "reg"}, {"r1", 4, "reg:1"}, {"d0", 1, "data"}, {"d1", 4, "data:1"}, {"m0[r1]", 1, "read(reg:1)"}, {"m1[m1[d1]]", 4, "read:1(read:1(data:1))"},
	{"~r1", 4, "not(reg:1)"}, {"(r0 & d0)", 1, "and(reg data)"}, {"(r1 | d1)", 4, "or(reg:1 data:1)"}, {"(d1 ^ r1)", 4, "xor(data:1 reg:1)"}, {"(r1 + [15 : 4])", 4, "add(reg:1 const:15/4)"},
	{"(r1 - d1)", 4, "sub(reg:1 data:1)"}, {"(r1 == d1)", 1, "eq(reg:1 data:1)"}, {"(d1 < r1)", 1, "lt(data:1 reg:1)"}, {"(r0 ? d1 : r1)", 4, "mux(reg data:1 reg:1)"}, {"(d0 . r1)", 5, "cat(data reg:1)"},
	{"{r1 @ 0 : 4}", 4, "slice/4(reg:1)"}, {"{r1 @ v : v - 2}", 1, "slice:3/1(reg:1)"}, {"{d1 @ w - 1 : w}", 2, "slice:1/2(data:1)"}, {"{r1 : 4}", 4, "ext/4(reg:1)"}, {"{r0 : w + 6}", 8, "ext/8(reg)"},
	{"w0", 1, "reg"}, {"w1", 4, "read:1(data)"}, {"(w1 . (w0 . w0))", 6, "cat(read:1(data) cat(reg reg))"}, {"~{(w1 + w1) @ 2 : 2}", 2, "not(slice:2/2(add(read:1(data) read:1(data))))"},
	{"m1[(w0 ? w1 : d1)]", 4, "read:1(mux(reg read:1(data) data:1))"}, {"((r1 < w1) ? (r1 - w1) : (w1 - r1))", 4, "mux(lt(reg:1 read:1(data)) sub(reg:1 read:1(data)) sub(read:1(data) reg:1))"},
}

func TestP11_1Expressions(t *testing.T) {
	for _, x := range expressions {
		f := inModule(t, fmt.Sprintf("reg r2: %d = 0 -> %s init; wire u: %d = %s; out o: %d; put o if r0 = u;", x.width, x.text, x.width, x.text, x.width))
		c, e := checkDesign(t, f, "m", []int{2, 3})
		if e != api.OK || showExpr(c.Procs[0].Regs[2].Next) != x.want || showExpr(c.Procs[0].Puts[1].Data) != x.want {
			t.Errorf("%s: %d %s, want %s", x.text, e, show(c), x.want)
		}
		for w := 1; w <= mostBits; w++ {
			for _, items := range []string{"reg r2: %d = 0 -> %s init;", "wire u: %d = %s;", "out o: %d; put o if r0 = %s;", "mem m2: %d [8] if r0 at r0 = %s init;", "chan c: %d [1]; take c if r0; put c if r0 = %s;"} {
				want := api.OK
				if w != x.width {
					want = api.ErrCircuit
				}
				checkError(t, inModule(t, fmt.Sprintf(items, w, x.text)), "m", []int{2, 3}, want)
			}
		}
		want := api.OK
		if x.width != 1 {
			want = api.ErrCircuit
		}
		for _, items := range []string{"mem m2: 1 [1] if %s at r0 = r0 init;", "out o: 1; put o if %s = r0;", "out o: 1; put o if r0 = %s;"} {
			checkError(t, inModule(t, fmt.Sprintf(items, x.text)), "m", []int{2, 3}, want)
		}
		if !strings.Contains(x.want, "data") {
			checkError(t, inModule(t, fmt.Sprintf("in i: 7; take i if %s;", x.text)), "m", []int{2, 3}, want)
		}
		checkError(t, inModule(t, fmt.Sprintf("mem m2: 1 [1] if r0 at %s = r0 init;", x.text)), "m", []int{2, 3}, api.OK)
		checkError(t, inModule(t, fmt.Sprintf("wire u: 4 = m1[%s];", x.text)), "m", []int{2, 3}, api.OK)
	}
}

// Expressions that have no width, for w = 2 and v = 3.
var widthless = []string{
	"[w : 1]", "[256 : 8]", "[0 : 0]", "[0 : 9]", "[w - 3 : 4]", "[1 : v - 3]", "[1 : v - 4]", "[1 : w + 7]", "[1000000 : 1000000]", "(r0 & r1)", "(r1 | d0)", "(w1 ^ w0)", "(r1 + [1 : 3])", "(d1 - r0)", "(r0 == r1)", "(d1 < d0)",
	"(r1 ? r0 : d0)", "(r0 ? r0 : r1)", "(r0 ? r1 : r0)", "((r1 . r1) . r0)", "{r1 @ 0 : 5}", "{r1 @ 1 : 4}", "{r1 @ 4 : 1}", "{r1 @ w : v}", "{r1 @ 0 : 0}", "{r1 @ w - 3 : 1}", "{r1 @ 1 : w - 3}", "{r1 : v}", "{r1 : 9}", "{r1 : 0}", "{r0 : w - 2}",
	"{r0 : w - 3}",
}

func TestP11_1Widthless(t *testing.T) {
	for _, text := range widthless {
		for _, x := range []string{text, "~" + text, "(r0 == " + text + ")", "(r0 ? r0 : " + text + ")", "(" + text + " . r0)", "{" + text + " @ 0 : 1}", "{" + text + " : 8}", "m0[" + text + "]", "m1[~m1[" + text + "]]", "{m0[" + text + "] : 8}"} {
			for w := 1; w <= mostBits; w++ {
				checkError(t, inModule(t, fmt.Sprintf("wire u: %d = %s;", w, x)), "m", []int{2, 3}, api.ErrCircuit)
			}
			for _, items := range []string{
				"reg r2: 1 = 0 -> %s init;", "mem m2: 1 [1] if %s at r0 = r0 init;", "mem m2: 1 [1] if r0 at %s = r0 init;", "mem m2: 1 [1] if r0 at r0 = %s init;",
				"out o: 1; put o if %s = r0;", "out o: 1; put o if r0 = %s;", "in i: 7; take i if %s;",
			} {
				if strings.Contains(items, "take") && (strings.Contains(x, "d") || strings.Contains(x, "w1")) {
					continue
				}
				checkError(t, inModule(t, fmt.Sprintf(items, x)), "m", []int{2, 3}, api.ErrCircuit)
			}
		}
	}
}

func TestP11_1WiresWithinWires(t *testing.T) {
	a := "slice:1/3(read(slice/2(sub(reg data))))"
	checkShown(t, fileOf(t, `module m() @ k {
		wire d: 3 = (c + b); wire b: 3 = a; wire c: 3 = (b ^ (a ^ r)); wire a: 3 = {x[b2] @ 1 : 3}; wire b2: 2 = {a2 @ 0 : 2}; wire a2: 3 = (r - i);
		reg r: 3 = 0 -> d init; mem x: 5 [4] if {b @ 2 : 1} at c = (b2 . a) keep; in i: 3; take i if e; wire e: 1 = (r == ~r); out o: 1; put o if e = {d @ 2 : 1}; }`), "m", nil, strings.ReplaceAll(`
		chan m.i: 3 [0] -1 to 0
		chan m.o: 1 [0] 0 to -1
		proc m @ k
		reg r: 3 = 0 -> add(xor(A xor(A reg)) A) 0 "" 0
		mem x: 5 [4] if slice:2/1(A) at xor(A xor(A reg)) = cat(slice/2(sub(reg data)) A) 1 "" 0
		take 0: 3 if eq(reg not(reg))
		put 1: 1 if eq(reg not(reg)) = slice:2/1(add(xor(A xor(A reg)) A))`, "A", a))
}
