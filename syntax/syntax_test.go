package syntax_test

import (
	"math/rand/v2"
	"reflect"
	"slices"
	"strings"
	"testing"

	"wireloom/api"
	"wireloom/lexer"
	"wireloom/syntax"
)

func ref(name string) api.Expr { return api.Expr{Op: api.ERef, Name: name} }

func num(n int) api.Num { return api.Num{N: n} }

func param(name string, n int) api.Num { return api.Num{Param: name, N: n} }

func constant(k, w api.Num) api.Expr { return api.Expr{Op: api.EConst, K: k, W: w} }

func node(op int, args ...api.Expr) api.Expr { return api.Expr{Op: op, Args: args} }

// exampleText is the chapter's example, which has all forms.
const exampleText = `module top(w, d) @ clk {
  in a: w;
  out b: w + 1;
  chan c: 4 [d - 1];
  reg r: w = 0 -> (r + a) copy old;
  reg s: 1 = 1 -> ~(r == [2 : w]) add s 3;
  wire x: w = {{a @ 0 : 2} : w};
  mem m: 4 [8] if (s ? [1 : 1] : [0 : 1]) at (r . s) = m[r] keep;
  take a if [1 : 1];
  put b if (r < x) = ((r & x) | (r ^ (x - r)));
  inst u: adder(3, w) (p = c, q = b);
  reg t: 1 = 0 -> t init;
}
`

// exampleTree is the tree of the chapter's example, written down by hand.
func exampleTree() api.File {
	w := param("w", 0)
	one := constant(num(1), num(1))
	return api.File{Modules: []api.Module{{Name: "top", Clock: "clk", Params: []string{"w", "d"}, Items: []api.Item{
		{Kind: api.IIn, Name: "a", Width: w},
		{Kind: api.IOut, Name: "b", Width: param("w", 1)},
		{Kind: api.IChan, Name: "c", Width: num(4), Depth: param("d", -1)},
		{Kind: api.IReg, Name: "r", Width: w, A: node(api.EAdd, ref("r"), ref("a")), Rule: api.Rule{Kind: api.RCopy, From: "old"}},
		{Kind: api.IReg, Name: "s", Width: num(1), Init: num(1), A: node(api.ENot, node(api.EEq, ref("r"), constant(num(2), w))), Rule: api.Rule{Kind: api.RAdd, From: "s", N: 3}},
		{Kind: api.IWire, Name: "x", Width: w, A: api.Expr{Op: api.EExt, W: w, Args: []api.Expr{{Op: api.ESlice, W: num(2), Args: []api.Expr{ref("a")}}}}},
		{Kind: api.IMem, Name: "m", Width: num(4), Depth: num(8), A: node(api.EMux, ref("s"), one, constant(num(0), num(1))), B: node(api.ECat, ref("r"), ref("s")), C: api.Expr{Op: api.EMem, Name: "m", Args: []api.Expr{ref("r")}}, Rule: api.Rule{Kind: api.RKeep}},
		{Kind: api.ITake, Name: "a", A: one},
		{Kind: api.IPut, Name: "b", A: node(api.ELt, ref("r"), ref("x")), B: node(api.EOr, node(api.EAnd, ref("r"), ref("x")), node(api.EXor, ref("r"), node(api.ESub, ref("x"), ref("r"))))},
		{Kind: api.IInst, Name: "u", Of: "adder", Args: []api.Num{num(3), w}, Ports: []api.Bind{{Port: "p", Chan: "c"}, {Port: "q", Chan: "b"}}},
		{Kind: api.IReg, Name: "t", Width: num(1), A: ref("t"), Rule: api.Rule{Kind: api.RInit}},
	}}}}
}

// moduleOf is a file whose only module has these items.
func moduleOf(items ...api.Item) api.File {
	return api.File{Modules: []api.Module{{Name: "m", Clock: "c", Items: items}}}
}

// wireOf is a file whose only item is a wire with this value; wireText is its text, with the text of the value.
func wireOf(e api.Expr) api.File {
	return moduleOf(api.Item{Kind: api.IWire, Name: "x", Width: num(1), A: e})
}

func wireText(value string) string { return "module m() @ c {\n  wire x: 1 = " + value + ";\n}\n" }

// inModule is a file whose only module has this text as its items.
func inModule(items string) string { return "module m() @ c { " + items + " }" }

func TestP9_1Examples(t *testing.T) {
	checkTree(t, exampleText, exampleTree())
	checkText(t, exampleTree(), exampleText)
	three := moduleOf(api.Item{Kind: api.IIn, Name: "a", Width: num(3)})
	checkTree(t, "module m() @ c { in a : 3 ; }", three)
	checkText(t, three, "module m() @ c {\n  in a: 3;\n}\n")
	checkError(t, "module if", 7, api.ErrSyntax)
	checkTree(t, "", api.File{})
	checkText(t, api.File{}, "")
	checkError(t, "module m() @ c {", 16, api.ErrSyntax)
}

// The reading of the chapter that the other tests compare with reads the example as it was written down by hand.
func TestP9_1ReadingOfTheExample(t *testing.T) {
	if f, at, e := parseAsSaid(t, exampleText); !sameFile(f, exampleTree()) || at != 0 || e != api.OK {
		t.Errorf("%v, %d, %d", f, at, e)
	}
	if s, e := printAsSaid(exampleTree()); s != exampleText || e != api.OK {
		t.Errorf("%s, %d", s, e)
	}
}

func TestP9_1Modules(t *testing.T) {
	text := "module a() @ c {\n}\nmodule b(p) @ d {\n  take x if y;\n}\nmodule a(p, p, q) @ a {\n}\n"
	f := api.File{Modules: []api.Module{
		{Name: "a", Clock: "c"},
		{Name: "b", Clock: "d", Params: []string{"p"}, Items: []api.Item{{Kind: api.ITake, Name: "x", A: ref("y")}}},
		{Name: "a", Clock: "a", Params: []string{"p", "p", "q"}},
	}}
	checkTree(t, text, f)
	checkText(t, f, text)
	checkTree(t, "module m()@c{}", moduleOf())
	checkText(t, moduleOf(), "module m() @ c {\n}\n")
	checkTree(t, " // nothing\n\n//", api.File{})
	checkText(t, api.File{Modules: []api.Module{}}, "")
}

// These items and their texts were written down by hand.
func TestP9_1Items(t *testing.T) {
	n, a, b, c := num(1), ref("a"), ref("b"), ref("d")
	for text, item := range map[string]api.Item{
		"in p: 1":                                {Kind: api.IIn, Name: "p", Width: n},
		"out p: q":                               {Kind: api.IOut, Name: "p", Width: param("q", 0)},
		"chan p: 1 [2]":                          {Kind: api.IChan, Name: "p", Width: n, Depth: num(2)},
		"chan p: w [d + 1]":                      {Kind: api.IChan, Name: "p", Width: param("w", 0), Depth: param("d", 1)},
		"reg p: 1 = 2 -> a init":                 {Kind: api.IReg, Name: "p", Width: n, Init: num(2), A: a},
		"reg p: w - 1 = w -> a keep":             {Kind: api.IReg, Name: "p", Width: param("w", -1), Init: param("w", 0), A: a, Rule: api.Rule{Kind: api.RKeep}},
		"reg p: 1 = 2 -> a copy q":               {Kind: api.IReg, Name: "p", Width: n, Init: num(2), A: a, Rule: api.Rule{Kind: api.RCopy, From: "q"}},
		"reg p: 1 = 2 -> a add q 0":              {Kind: api.IReg, Name: "p", Width: n, Init: num(2), A: a, Rule: api.Rule{Kind: api.RAdd, From: "q"}},
		"reg p: 1 = 2 -> a add q 1000000":        {Kind: api.IReg, Name: "p", Width: n, Init: num(2), A: a, Rule: api.Rule{Kind: api.RAdd, From: "q", N: 1000000}},
		"wire p: 1 = a":                          {Kind: api.IWire, Name: "p", Width: n, A: a},
		"mem p: 1 [2] if a at b = d init":        {Kind: api.IMem, Name: "p", Width: n, Depth: num(2), A: a, B: b, C: c},
		"mem p: 1 [2] if a at b = d keep":        {Kind: api.IMem, Name: "p", Width: n, Depth: num(2), A: a, B: b, C: c, Rule: api.Rule{Kind: api.RKeep}},
		"mem p: 1 [2] if a at b = d copy q":      {Kind: api.IMem, Name: "p", Width: n, Depth: num(2), A: a, B: b, C: c, Rule: api.Rule{Kind: api.RCopy, From: "q"}},
		"mem p: 1 [w - 2] if a at b = a add q 7": {Kind: api.IMem, Name: "p", Width: n, Depth: param("w", -2), A: a, B: b, C: a, Rule: api.Rule{Kind: api.RAdd, From: "q", N: 7}},
		"take p if a":                            {Kind: api.ITake, Name: "p", A: a},
		"put p if a = b":                         {Kind: api.IPut, Name: "p", A: a, B: b},
		"inst p: q() ()":                         {Kind: api.IInst, Name: "p", Of: "q"},
		"inst p: q(1) (a = b)":                   {Kind: api.IInst, Name: "p", Of: "q", Args: []api.Num{n}, Ports: []api.Bind{{Port: "a", Chan: "b"}}},
		"inst p: p(1, w, w + 1, w - 1) ()":       {Kind: api.IInst, Name: "p", Of: "p", Args: []api.Num{n, param("w", 0), param("w", 1), param("w", -1)}},
		"inst p: q() (a = a, a = b, b = a)":      {Kind: api.IInst, Name: "p", Of: "q", Ports: []api.Bind{{Port: "a", Chan: "a"}, {Port: "a", Chan: "b"}, {Port: "b", Chan: "a"}}},
	} {
		checkTree(t, inModule(text+";"), moduleOf(item))
		checkText(t, moduleOf(item), "module m() @ c {\n  "+text+";\n}\n")
		checkTree(t, inModule(text+";"+text+" ;\n"+text+";"), moduleOf(item, item, item))
	}
}

func TestP9_1Expressions(t *testing.T) {
	a, b, c := ref("a"), ref("b"), ref("d")
	for text, e := range map[string]api.Expr{
		"a":               a,
		"[0 : 1]":         constant(num(0), num(1)),
		"[w : w - 1]":     constant(param("w", 0), param("w", -1)),
		"[w + 2 : 1]":     constant(param("w", 2), num(1)),
		"a[b]":            {Op: api.EMem, Name: "a", Args: []api.Expr{b}},
		"a[b[d]]":         {Op: api.EMem, Name: "a", Args: []api.Expr{{Op: api.EMem, Name: "b", Args: []api.Expr{c}}}},
		"a[[1 : 2]]":      {Op: api.EMem, Name: "a", Args: []api.Expr{constant(num(1), num(2))}},
		"~a":              node(api.ENot, a),
		"~~a[b]":          node(api.ENot, node(api.ENot, api.Expr{Op: api.EMem, Name: "a", Args: []api.Expr{b}})),
		"(a & b)":         node(api.EAnd, a, b),
		"(a | b)":         node(api.EOr, a, b),
		"(a ^ b)":         node(api.EXor, a, b),
		"(a + b)":         node(api.EAdd, a, b),
		"(a - b)":         node(api.ESub, a, b),
		"(a == b)":        node(api.EEq, a, b),
		"(a < b)":         node(api.ELt, a, b),
		"(a . b)":         node(api.ECat, a, b),
		"(a ? b : d)":     node(api.EMux, a, b, c),
		"{a @ 1 : 2}":     {Op: api.ESlice, K: num(1), W: num(2), Args: []api.Expr{a}},
		"{a @ w : w + 1}": {Op: api.ESlice, K: param("w", 0), W: param("w", 1), Args: []api.Expr{a}},
		"{a : 2}":         {Op: api.EExt, W: num(2), Args: []api.Expr{a}},
		"{a : w - 1}":     {Op: api.EExt, W: param("w", -1), Args: []api.Expr{a}},
		"((a - b) - d)":   node(api.ESub, node(api.ESub, a, b), c),
		"(a - (b - d))":   node(api.ESub, a, node(api.ESub, b, c)),
		"((a ? b : d) ? (b ? d : a) : (d ? a : b))": node(api.EMux, node(api.EMux, a, b, c), node(api.EMux, b, c, a), node(api.EMux, c, a, b)),
	} {
		checkTree(t, wireText(text), wireOf(e))
		checkText(t, wireOf(e), wireText(text))
		checkTree(t, wireText(strings.Join(texts(text), "")), wireOf(e))
	}
}

// The token behind the mark is the first one that cannot continue.
func TestP9_1KnownErrorsOfModules(t *testing.T) {
	for _, s := range []string{
		"!in a: 3;", "!3", "!;", "!modules m() @ c {}", "!m", "!}", "// in\n !a", "!== module",
		"module!", "module\n//!", "module !3", "module !(", "module !module", "module !keep() @ c {}",
		"module m!", "module m !@ c {}", "module m !n() @ c {}", "module m !1",
		"module m(!", "module m(!1)", "module m(!,)", "module m(!in)", "module m(!(", "module m()!) @ c {}", "module m(a!", "module m(a !b)", "module m(a!;b)", "module m(a!=b)", "module m(a!(", "module m(a !1)",
		"module m(a,!", "module m(a,!)", "module m(a,!,b)", "module m(a,!if)", "module m(a,!1)", "module m(a,b!",
		"module m()!", "module m() !c {}", "module m() !{", "module m() @!", "module m() @ !{", "module m() @ !3", "module m() @ !put {}", "module m() @ !@",
		"module m() @ c!", "module m() @ c !}", "module m() @ c !d", "module m() @ c !;", "module m() @ c !3",
		"module m() @ c {!", "module m() @ c {!;}", "module m() @ c {!a: 3;}", "module m() @ c {!module n", "module m() @ c {!if", "module m() @ c {!init", "module m() @ c {!)", "module m() @ c {!3", "module m() @ c { !inn a: 3; }",
		"module m() @ c {}!}", "module m() @ c {}!;", "module m() @ c {} !in a: 3;", "module m() @ c {} !n", "module m() @ c {} module!", "module m() @ c {} module n() @ c {!",
	} {
		checkMarked(t, s)
	}
}

func TestP9_1KnownErrorsOfItems(t *testing.T) {
	for _, s := range []string{
		"in !}", "in !: 3;", "in !in: 3;", "in !3: 3;", "in a!;", "in a !3;", "in a !b;", "in a != 3;", "in a:!;", "in a: !if;", "in a: !-1;", "in a: !(3);", "in a: 3!}", "in a: 3 !4;", "in a: 3 !+ 1;", "in a: 3 !- 1;", "in a: 3 !w;", "in a: 3!, b: 4;", "in a: 3 ![4];",
		"in a: w !w;", "in a: w !3;", "in a: w + !w;", "in a: w + !0;", "in a: w - !0;", "in a: w - !-1;", "in a: w -!;", "in a: w + 1 !+ 1;", "in a: w + 1 !- 1;", "in a: w !-> 1;", "in a: w !. 1;", "in a: w![1];", "in a: 3;!;",
		"out !;", "out a !3;", "out a: 3 !init;", "out a:!}",
		"chan !;", "chan a![2];", "chan a: ![2];", "chan a: 1!;", "chan a: 1 !2;", "chan a: 1 [!];", "chan a: 1 [2!;", "chan a: 1 [2 !: 3];", "chan a: 1 [w !& 2];", "chan a: 1 [2] ![3];", "chan a: 1 [2] !init;", "chan a: 1 !(2);",
		"reg !;", "reg a: 1!;", "reg a: 1 !-> a init;", "reg a: 1 = !-> a init;", "reg a: 1 !== 0 -> a init;", "reg a: 1 = 0!;", "reg a: 1 = 0 !- a init;", "reg a: 1 = 0 !a init;", "reg a: 1 = 0 ->!;", "reg a: 1 = 0 -> !init;", "reg a: 1 = 0 -> !3;", "reg a: 1 = 0 -> a!;", "reg a: 1 = 0 -> a !if;", "reg a: 1 = 0 -> a !b;", "reg a: 1 = 0 -> a !+ b;", "reg a: 1 = 0 -> a !3;", "reg a: 1 = 0 -> a init !init;", "reg a: 1 = 0 -> a init !b;", "reg a: 1 = 0 -> a keep !b;", "reg a: 1 = 0 -> a copy!;", "reg a: 1 = 0 -> a copy !3;", "reg a: 1 = 0 -> a copy !add;", "reg a: 1 = 0 -> a copy b !3;", "reg a: 1 = 0 -> a add!;", "reg a: 1 = 0 -> a add !3;", "reg a: 1 = 0 -> a add !keep 3;", "reg a: 1 = 0 -> a add b!;", "reg a: 1 = 0 -> a add b !c;", "reg a: 1 = 0 -> a add b !-3;", "reg a: 1 = 0 -> a add b 3 !4;", "reg a: 1 = 0 -> a add b 3 !+ 4;", "reg a: 1 = 0 -> (a + b) !copy2;",
		"wire !;", "wire a !b;", "wire a: 1!;", "wire a: 1 !-> b;", "wire a: 1 =!;", "wire a: 1 = != b;", "wire a: 1 !== b;", "wire a: 1 = b !init;", "wire a: 1 = b !c;", "wire a: 1 = !3;", "wire a: 1 = !if;",
		"mem !;", "mem a![2];", "mem a: 1!;", "mem a: 1 !if;", "mem a: 1 [2]!;", "mem a: 1 [2] !at;", "mem a: 1 [2] != 0;", "mem a: 1 [2] if!;", "mem a: 1 [2] if !at;", "mem a: 1 [2] if b!;", "mem a: 1 [2] if b != c;", "mem a: 1 [2] if b at!;", "mem a: 1 [2] if b at c!;", "mem a: 1 [2] if b at c !if;", "mem a: 1 [2] if b at c =!;", "mem a: 1 [2] if b at c = d!;", "mem a: 1 [2] if b at c = d !at;", "mem a: 1 [2] if b at c = d init !keep;",
		"take !;", "take !if b;", "take a!;", "take a !b;", "take a != b;", "take a if!;", "take a if !if;", "take a if b !c;", "take a if b != c;", "take a !: 3;",
		"put !;", "put a!;", "put a != b;", "put a if!;", "put a if b!;", "put a if b !c;", "put a if b !== c;", "put a if b =!;", "put a if b = c!}", "put a if b = c !init;", "put a if b = !if;",
		"inst !;", "inst a!;", "inst a !b;", "inst a!();", "inst a:!;", "inst a: !();", "inst a: !3();", "inst a: !inst();", "inst a: b!;", "inst a: b(!;", "inst a: b(!,) ();", "inst a: b(1,!) ();", "inst a: b(1 !2) ();", "inst a: b(w + !) ();", "inst a: b(w !w) ();", "inst a: b(p !=q) ();", "inst a: b(1!;", "inst a: b(1 !+ 2) ();", "inst a: b()!;", "inst a: b() !p;", "inst a: b() (!;", "inst a: b() (p!);", "inst a: b() (p!, q = r);", "inst a: b() (p =!);", "inst a: b() (p = !3);", "inst a: b() (!3 = p);", "inst a: b() (p = q!;", "inst a: b() (p = q !r = s);", "inst a: b() (p = q,!);", "inst a: b() (p = q, !,);", "inst a: b() (p = q != r);", "inst a: b() (p !== q);", "inst a: b() (p = !in);", "inst a: b() (!out = p);", "inst a: b() () !();",
	} {
		checkMarked(t, "module m() @ c { "+s)
		checkMarked(t, "module m() @ c { in a: 3; "+s+" }")
	}
}

func TestP9_1KnownErrorsOfExpressions(t *testing.T) {
	for _, s := range []string{
		"!", "!)", "!&", "!?", "!;", "!}", "!]", "!3", "!- b", "!wire",
		"b !& c", "b !. c", "b !? c : d", "b !(c)", "b !~c", "b !{c : 1}", "b!)", "b!]", "b !@ 1", "b !: 1", "(b & c) !& d", "~b !& c", "(b & c)![d]", "[1 : 1]![d]", "b[c]![d]", "{b : 1}![c]",
		"~!", "~!;", "~!3", "~!)", "~!reg", "~~!",
		"(!", "(!)", "(!3 + b)", "(!+ b)", "(b!", "(b!)", "(b !c)", "(b != c)", "(b !: c)", "(b !, c)", "(b !@ 1)", "(b !~ c)", "(b !-> c)", "(b !3)", "(b !]", "(b !}", "(b !;", "((b + c)!)", "(b[c]!)",
		"(b &!)", "(b & !&", "(b == != c)", "(b & c!", "(b & c !& d)", "(b & c !? d : e)", "(b & c !]", "(b + c !: d)", "(b < c !< d)", "(b - !3)", "(b - !-c)",
		"(b ?!)", "(b ? !: c)", "(b ? c!", "(b ? c!)", "(b ? c !? d)", "(b ? c !& d)", "(b ? c : !)", "(b ? c : d!", "(b ? c : d !: e)", "(b ? c : d !? e)", "(b ? c : d !& e)",
		"[!", "[!]", "[!: 1]", "[!- 1 : 1]", "[!(", "[!if : 1]", "[1!", "[1!]", "[1 !@ 1]", "[1 !, 1]", "[1 !+ 1 : 1]", "[w + !0 : 1]", "[w - !w : 1]", "[w !w : 1]", "[1 :!]", "[1 : !-1]", "[1 : 1!", "[1 : 1 !: 1]", "[1 : w + 1 !+ 1]", "[1 : !(1)]",
		"{!", "{!}", "{!1 : 1}", "{!: 1}", "{b!", "{b!}", "{b !? 1 : 1}", "{b !, 1}", "{b !& c : 1}", "{b @!}", "{b @ !: 1}", "{b @ !(1) : 1}", "{b @ 1!", "{b @ 1!}", "{b @ 1 !@ 1}", "{b @ w - 1 !- 1 : 1}", "{b @ w - !0 : 1}", "{b @ 1 :!}", "{b @ 1 : 1!", "{b @ 1 : 1 !: 1}", "{b :!}", "{b : 1!", "{b : 1 !: 1}", "{b : 1 !@ 1}", "{b : !(1)}", "{b : w + !w}",
		"b[!", "b[!]", "b[!3]", "b[!if]", "b[c!", "b[c !: 1]", "b[c !c]", "b[c !+ d]", "b[[1 : 1]!;", "b[!1 : 1]",
	} {
		checkMarked(t, "module m() @ c { wire a: 3 = "+s)
		checkMarked(t, "module m() @ c { wire a: 3 = "+s+"; }")
		checkMarked(t, "module m() @ c { put a if ([1 : 1] ? ~b[d] : d) = "+s+"; }")
		checkMarked(t, "module m() @ c { mem a: 1 [2] if b[c] at "+s)
	}
}

// A name is refused where it is a reserved word, and only then.
func TestP9_1ReservedWords(t *testing.T) {
	words := texts(exampleText)
	names := 0
	for i, text := range words {
		if !isName(text) {
			continue
		}
		names++
		for _, word := range reserved {
			before := strings.Join(append(words[:i:i], ""), " ")
			checkError(t, before+word+" "+strings.Join(words[i+1:], " "), len(before), api.ErrSyntax)
		}
		for _, word := range []string{"modul", "modules", "inn", "i", "outs", "chan0", "rega", "inits", "kee", "copyadd", "added", "at1", "ifs", "z9"} {
			other := strings.Join(slices.Concat(words[:i], []string{word}, words[i+1:]), " ")
			f, at, e := syntax.Parse(other)
			text, printed := syntax.Print(f)
			if at != 0 || e != api.OK || printed != api.OK || !slices.Equal(texts(text), texts(other)) {
				t.Errorf("%s: %d, %d, %d, %s", other, at, e, printed, text)
			}
		}
	}
	if len(reserved) != 16 || names < 45 {
		t.Errorf("%d reserved words, %d names", len(reserved), names)
	}
}

func TestP9_1Numbers(t *testing.T) {
	for text, n := range map[string]api.Num{
		"0": num(0), "1": num(1), "8": num(8), "10": num(10), "999999": num(999999), "1000000": num(1000000),
		"w": param("w", 0), "w + 1": param("w", 1), "w - 1": param("w", -1), "w + 1000000": param("w", 1000000), "w - 1000000": param("w", -1000000), "w9 + 10": param("w9", 10),
	} {
		f := moduleOf(api.Item{Kind: api.IChan, Name: "a", Width: n, Depth: n})
		checkTree(t, inModule("chan a:"+text+"["+text+"];"), f)
		checkText(t, f, "module m() @ c {\n  chan a: "+text+" ["+text+"];\n}\n")
	}
	checkError(t, inModule("in a: 1000001;"), 23, api.ErrForm)
	checkError(t, inModule("in a: 01;"), 23, api.ErrForm)
	checkError(t, inModule("in a: w + 00;"), 27, api.ErrForm)
	checkError(t, inModule("in a: w - 1000001;"), 27, api.ErrForm)
}

// chain is an expression of a depth, each of whose nodes but the last one has the form k, with the next one as its argument at.
func chain(depth int, k form, at int) api.Expr {
	e := ref("b")
	for range depth - 1 {
		outer := api.Expr{Op: k.kind}
		if slices.Contains(k.fields(), "Name") {
			outer.Name = "b"
		}
		for i := range count(k.fields(), "Args") {
			if i == at {
				outer.Args = append(outer.Args, e)
			} else {
				outer.Args = append(outer.Args, ref("a"))
			}
		}
		e = outer
	}
	return e
}

// Of an expression that is too deep, the first token is refused that only a node of the depth 9 could have.
func TestP9_1Depths(t *testing.T) {
	deep := 0
	for _, k := range forms[reflect.TypeFor[api.Expr]()] {
		for at := range count(k.fields(), "Args") {
			for depth := 1; depth <= 8; depth++ {
				e := chain(depth, k, at)
				text := textAsSaid(reflect.ValueOf(wireOf(e)))
				checkTree(t, text, wireOf(e))
				checkText(t, wireOf(e), text)
			}
			for depth := 9; depth <= 11; depth++ {
				checkNoText(t, wireOf(chain(depth, k, at)))
				check(t, textAsSaid(reflect.ValueOf(wireOf(chain(depth, k, at)))))
				deep++
			}
		}
	}
	if deep < 60 {
		t.Errorf("only %d expressions are too deep", deep)
	}
}

func TestP9_1KnownDepths(t *testing.T) {
	for _, s := range []string{
		"~~~~~~~!~b", "~~~~~~~!(b + c)", "~~~~~~~!{b : 1}", "~~~~~~~b![c]", "((((((( !(b", "(((((((b![", "{{{{{{{!{", "{{{{{{{!~", "b[b[b[b[b[b[b[b![", "b[b[b[b[b[b[b[!(",
		"(b + (b + (b + (b + (b + (b + (b + !(b", "(b ? c : (b ? c : (b ? c : (b ? c : (b ? c : (b ? c : (b ? c : !~", "(a + ~~~~~~!~b)", "(~~~~~~b + ~~~~~~!~c)", "(~~~~~~b ? ~~~~~~c : ~~~~~~d![",
		"(~~~~~~[1 : 1] + {{{{{{b : 1} : 1} : 1} : 1} : 1} : 1}!;",
	} {
		checkMarked(t, "module m() @ c { wire a: 3 = "+s)
		checkMarked(t, "module m() @ c { put c if ~~~~~~~b = "+s)
	}
	for _, s := range []string{"~~~~~~~b", "~~~~~~~[1 : 1]", "~~~~~~b[c]", "~~~~~~(b + c)", "~~~~~~{b : 1}", "(~~~~~~b + ~~~~~~c)", "b[b[b[b[b[b[b[c]]]]]]]"} {
		if _, at, e := syntax.Parse(wireText(s)); at != 0 || e != api.OK {
			t.Errorf("%s: %d, %d", s, at, e)
		}
	}
}

// vocabulary is all signs, all reserved words, and names and numbers.
var vocabulary = slices.Concat(strings.Fields("( ) { } [ ] , ; : = + - & | ^ ~ < ? @ # . -> == a w inn 0 1 1000000"), reserved)

// Each token behind each beginning of the example, and what follows in the example behind it or in its place.
func TestP9_1EachToken(t *testing.T) {
	words := texts(exampleText)
	for i := range len(words) + 1 {
		before := strings.Join(words[:i], " ") + " "
		check(t, before)
		for _, text := range vocabulary {
			check(t, before+text)
			behind, instead := " "+strings.Join(words[i:], " "), " "+strings.Join(words[min(i+1, len(words)):], " ")
			if _, at, e := syntax.Parse(before + text); e == api.ErrSyntax && at == len(before) {
				checkError(t, before+text+behind, at, e)
				checkError(t, before+text+instead, at, e)
			} else {
				check(t, before+text+behind)
				check(t, before+text+instead)
			}
		}
	}
}

// sequences calls f for all lists of n words.
func sequences(words []string, n int, f func(s string)) {
	if n == 0 {
		f("")
		return
	}
	sequences(words, n-1, func(s string) {
		for _, w := range words {
			f(s + " " + w)
		}
	})
}

func TestP9_1ShortItems(t *testing.T) {
	for n := range 4 {
		sequences(vocabulary, min(n, 2), func(s string) { check(t, s) })
		sequences(strings.Fields("[ ] ( ) { } : ~ + ? @ a 1 init"), n+1, func(s string) {
			check(t, "module m() @ c { wire a: 1 = "+s)
		})
		sequences(strings.Fields("( ) , = a 1 + - ; }"), n+1, func(s string) {
			check(t, "module m() @ c { inst a: b"+s)
		})
		sequences(strings.Fields("( ) , a 1 @ { } ; in :"), n+1, func(s string) {
			check(t, "module m"+s)
		})
		sequences(strings.Fields("init keep copy add a 1 + ; }"), n+1, func(s string) {
			check(t, "module m() @ c { reg a: 1 = 0 -> a"+s)
		})
	}
}

// changed is a list of words of which a few were replaced, most of them by words of the same kind.
func changed(r *rand.Rand, words []string) []string {
	l := slices.Clone(words)
	for range 1 + r.IntN(2) {
		at := r.IntN(len(l) + 1)
		word := vocabulary[r.IntN(len(vocabulary))]
		if at < len(l) && r.IntN(4) > 0 {
			for lexer.Kind(word) != lexer.Kind(l[at]) || isName(word) != isName(l[at]) {
				word = vocabulary[r.IntN(len(vocabulary))]
			}
			l[at] = word
		} else {
			l = slices.Replace(l, at, min(at+r.IntN(3), len(l)), word)
		}
	}
	return l
}

func TestP9_1Random(t *testing.T) {
	r := source()
	accepted, refused := 0, 0
	for range 1000 {
		text := textAsSaid(reflect.ValueOf(randomFile(r, 2)))
		check(t, text)
		words := texts(text)
		for range 5 {
			s := strings.Join(changed(r, words), " ")
			check(t, s)
			if _, _, e := syntax.Parse(s); e == api.OK {
				accepted++
			} else {
				refused++
			}
		}
	}
	if accepted < 500 || refused < 2000 {
		t.Errorf("only %d changed texts are accepted, %d refused", accepted, refused)
	}
}

// Errors of the lexer come first, wherever they are.
func TestP9_1ErrorsOfTheLexer(t *testing.T) {
	checkError(t, "module A", 7, api.ErrForm)
	checkError(t, "A", 0, api.ErrForm)
	checkError(t, "module if 01", 10, api.ErrForm)
	checkError(t, "01 module if", 0, api.ErrForm)
	checkError(t, "if if /", 6, api.ErrForm)
	checkError(t, "module m() @ c { in a: 3; } _", 28, api.ErrForm)
	checkError(t, exampleText+"\t", len(exampleText), api.ErrForm)
	words := texts(exampleText)
	for i := range len(words) + 1 {
		before := strings.Join(words[:i], " ")
		for _, bad := range []string{"!", "01", "1000001", "2x", "A", ">"} {
			checkError(t, before+" "+bad, len(before)+1, api.ErrForm)
			checkError(t, before+" ; "+bad+" "+strings.Join(words[i:], " "), len(before)+3, api.ErrForm)
			checkError(t, before+" "+bad+" ; "+strings.Join(words[i:], " "), len(before)+1, api.ErrForm)
		}
	}
}

func TestP9_1UpToLimit(t *testing.T) {
	checkTree(t, exampleText+strings.Repeat(" ", mostBytes-len(exampleText)), exampleTree())
	checkTree(t, strings.Repeat("\n", mostBytes-len(exampleText))+exampleText, exampleTree())
	checkError(t, exampleText+strings.Repeat(" ", mostBytes-len(exampleText)+1), 0, api.ErrBig)
	checkError(t, strings.Repeat(";", mostBytes), 0, api.ErrSyntax)
	checkError(t, strings.Repeat(";", mostBytes+1), 0, api.ErrBig)
	checkError(t, strings.Repeat("!", mostBytes), 0, api.ErrForm)
	checkError(t, strings.Repeat("!", mostBytes+1), 0, api.ErrBig)
	checkError(t, strings.Repeat("module m()@c{}", 1000), 0, api.ErrBig)
	checkError(t, strings.Repeat(" ", mostBytes-6)+"module", mostBytes, api.ErrSyntax)
	checkError(t, strings.Repeat(" ", mostBytes-7)+"module;", mostBytes-1, api.ErrSyntax)
	checkError(t, "module "+strings.Repeat("a", mostBytes-7), mostBytes, api.ErrSyntax)
}

// long is a file of n modules, and its text.
func long(n int) (api.File, string) {
	var f api.File
	for range n {
		f.Modules = append(f.Modules, moduleOf(api.Item{Kind: api.IIn, Name: "a", Width: num(3)}).Modules...)
	}
	return f, strings.Repeat("module m() @ c {\n  in a: 3;\n}\n", n)
}

// The text of a file is at most 8000 bytes long, whichever part of it is long.
func TestP9_1TextsUpToLimit(t *testing.T) {
	_, text := long(250)
	for name, set := range map[string]func(f *api.File, name string){
		"module": func(f *api.File, name string) { f.Modules[0].Name = name },
		"clock":  func(f *api.File, name string) { f.Modules[249].Clock = name },
		"item":   func(f *api.File, name string) { f.Modules[249].Items[0].Name = name },
	} {
		f, _ := long(250)
		rest := mostBytes - len(text)
		set(&f, strings.Repeat("a", rest+1))
		s, e := syntax.Print(f)
		if len(s) != mostBytes || e != api.OK {
			t.Errorf("%s: %d bytes, %d", name, len(s), e)
		}
		checkTree(t, s, f)
		set(&f, strings.Repeat("a", rest+2))
		checkNoText(t, f)
	}
	checkText(t, moduleOf(), "module m() @ c {\n}\n")
	f, _ := long(267)
	checkNoText(t, f)
}
