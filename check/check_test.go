package check_test

import (
	"fmt"
	"math"
	"math/rand/v2"
	"reflect"
	"slices"
	"strings"
	"testing"

	"wireloom/api"
	"wireloom/check"
)

const example = "in a: 4; out b: 4; reg r: 4 = 0 -> (r + a) init; take a if [1 : 1]; put b if [1 : 1] = r;"

func TestP10_1Examples(t *testing.T) {
	checkProblems(t, fileOf(t, "module top() @ clk { "+example+" }"), "")
	checkProblems(t, fileOf(t, "module top() @ clk { "+strings.Replace(example, "take a if [1 : 1];", "", 1)+" }"), "5@0 3@2")
}

// These are names, and these are none.
var (
	goodNames = []string{"a", "z", "a0", "z9", "in", "module", "abcdefghijklmnop", "a123456789012345"}
	badNames  = []string{"", "A", "aB", "1", "1a", "a b", " a", "a ", "a_b", "a.b", "a-", "é", "aé", "ａ", "a\u0661", "a\n", "a\x00", "\xff", "`", "a`", "{", "a{", "a/", "a:", "/", ":", "abcdefghijklmnopq", "aaaaaaaaaaaaaaaA"}
)

func TestP10_1Name(t *testing.T) {
	for _, s := range goodNames {
		if !check.Name(s) {
			t.Errorf("%q is a name", s)
		}
	}
	for _, s := range badNames {
		if check.Name(s) {
			t.Errorf("%q is not a name", s)
		}
	}
}

func checkName(t *testing.T, s string) {
	t.Helper()
	if check.Name(s) != isName(s) {
		t.Errorf("%q: %v", s, check.Name(s))
	}
}

// Each byte at each place, and all lengths.
func TestP10_1NameBytes(t *testing.T) {
	for b := range 256 {
		for c := range 256 {
			checkName(t, string([]byte{byte(b), byte(c)}))
		}
		for length := 1; length <= 18; length++ {
			for at := range length {
				s := []byte(strings.Repeat("a", length))
				s[at] = byte(b)
				checkName(t, string(s))
			}
		}
	}
	for r := rune(0); r < 0x20000; r++ {
		checkName(t, "a"+string(r))
	}
	for _, length := range []int{0, 15, 16, 17, 32, 255, 256, 257, 1 << 20} {
		checkName(t, strings.Repeat("z", length))
		checkName(t, strings.Repeat("é", length))
	}
}

func TestP10_1HeadNames(t *testing.T) {
	for _, s := range goodNames {
		checkProblems(t, api.File{Modules: []api.Module{{Name: s, Clock: s, Params: []string{s}}}}, "")
	}
	for _, s := range badNames {
		for _, m := range []api.Module{
			{Name: s, Clock: "k"}, {Name: "m", Clock: s}, {Name: "m", Clock: "k", Params: []string{s}}, {Name: "m", Clock: "k", Params: []string{"v", "w", s}},
			{Name: "m", Clock: "k", Params: []string{s, "v"}}, {Name: s, Clock: s, Params: []string{s, s}},
		} {
			checkProblems(t, api.File{Modules: []api.Module{m}}, "1@head")
			checkProblems(t, api.File{Modules: []api.Module{{Name: "a", Clock: "a"}, m, {Name: "b", Clock: "b"}}}, "| 1@head")
		}
	}
}

func TestP10_1Params(t *testing.T) {
	for params, want := range map[string]string{
		"": "", "w": "", "v w": "", "w v x": "", "k": "", "m": "", "w w": "1@head", "v w v": "1@head", "v w w": "1@head", "w w v": "1@head", "w w w": "1@head", "v v w w": "1@head",
	} {
		checkProblems(t, api.File{Modules: []api.Module{{Name: "m", Clock: "k", Params: strings.Fields(params)}}}, want)
	}
}

// Of the modules with one name all but the first one have the problem.
func TestP10_1SameModules(t *testing.T) {
	for names, want := range map[string]string{
		"a b": "", "a a": "| 1@head", "a b a": "| | 1@head", "a a a": "| 1@head | 1@head", "a b b a": "| | 1@head | 1@head", "A b": "1@head", "A A": "1@head | 1@head", "k k k": "| 1@head | 1@head",
	} {
		var f api.File
		for _, name := range strings.Fields(names) {
			f.Modules = append(f.Modules, api.Module{Name: name, Clock: "k"})
		}
		checkProblems(t, f, want)
	}
}

// allKinds is all kinds of items, and kinds that there are not.
var allKinds = []int{math.MinInt, -1, 0, 1, 2, 3, 4, 5, 6, 7, 8, 9, 10, 11, 16, 255, math.MaxInt}

// declarations is the kinds of items that declare their names.
var declarations = []int{api.IIn, api.IOut, api.IChan, api.IReg, api.IWire, api.IMem, api.IInst}

func TestP10_1ItemNames(t *testing.T) {
	for _, kind := range allKinds {
		want := ""
		if slices.Contains(declarations, kind) {
			want = "1@0"
		}
		for _, s := range append(badNames, "w") {
			checkCode(t, moduleOf(itemOf(kind, s)), 1, want)
		}
		for _, s := range append(goodNames, "m", "k", "v") {
			checkCode(t, moduleOf(itemOf(kind, s)), 1, "")
		}
		for _, other := range allKinds {
			want := ""
			if slices.Contains(declarations, kind) && slices.Contains(declarations, other) {
				want = "1@1"
			}
			checkCode(t, moduleOf(itemOf(other, "a"), itemOf(kind, "a")), 1, want)
			checkCode(t, moduleOf(itemOf(other, "a"), itemOf(kind, "b")), 1, "")
			checkCode(t, moduleOf(itemOf(other, "a"), itemOf(kind, "b"), itemOf(kind, "a")), 1, strings.Replace(want, "1@1", "1@2", 1))
		}
	}
	checkCode(t, inModule(t, "reg a: 1 = 0 -> a init; wire a: 1 = a; in a: 1; put a if a = a; take a if a; reg b: 1 = 0 -> b init; reg w: 1 = 0 -> b init;"), 1, "1@1 1@2 1@6")
	two := api.File{Modules: slices.Concat(moduleOf(itemOf(api.IReg, "a")).Modules, []api.Module{{Name: "n", Clock: "k", Items: []api.Item{itemOf(api.IReg, "a"), itemOf(api.IReg, "w")}}})}
	checkProblems(t, two, "")
}

func TestP10_1Kinds(t *testing.T) {
	for _, kind := range allKinds {
		want := "2@0"
		if kind >= api.IIn && kind <= api.IInst {
			want = ""
		}
		checkCode(t, moduleOf(itemOf(kind, "a")), 2, want)
	}
	// An item of an unknown kind has no other problem, and a name does not refer to it.
	unknown := api.Item{Kind: 10, Name: "a", Width: api.Num{Param: "v"}, A: ref("zz"), Of: "m", Ports: []api.Bind{{Port: "a", Chan: "zz"}}, Rule: api.Rule{Kind: 9}}
	checkProblems(t, moduleOf(unknown, itemOf(api.IReg, "a"), api.Item{Kind: api.IWire, Name: "b", A: ref("a")}), "2@0")
	checkProblems(t, moduleOf(unknown, api.Item{Kind: api.IWire, Name: "b", A: ref("a")}), "2@0 3@1")
}

func TestP10_1Rules(t *testing.T) {
	for kind := api.IIn; kind <= api.IInst; kind++ {
		ruled := kind == api.IReg || kind == api.IMem
		for _, rule := range []int{math.MinInt, -1, api.RInit, api.RKeep, api.RCopy, api.RAdd, 4, 5, math.MaxInt} {
			for _, from := range append(append(goodNames, badNames...), "zz", "w", "m") {
				item := itemOf(kind, "a")
				item.Rule = api.Rule{Kind: rule, From: from, N: -5}
				want2, want3 := "", ""
				if ruled && (rule < 0 || rule > 3) {
					want2 = "2@0"
				}
				if ruled && (rule == 2 || rule == 3) && !isName(from) {
					want3 = "3@0"
				}
				checkCode(t, moduleOf(item), 2, want2)
				if ruled {
					checkCode(t, moduleOf(item), 3, want3)
				}
			}
		}
	}
}

// expressions has how many of its expressions A, B and C an item uses.
var expressions = [...]int{api.IReg: 1, api.IWire: 1, api.IMem: 3, api.ITake: 1, api.IPut: 2, api.IInst: 0}

// withExpr is an item with an expression in one of A, B and C.
func withExpr(kind, at int, e api.Expr) api.Item {
	item := itemOf(kind, "a")
	*[]*api.Expr{&item.A, &item.B, &item.C}[at] = e
	return item
}

// places puts an expression at all sorts of places of other ones.
func places(e api.Expr) []api.Expr {
	return []api.Expr{
		e, node(api.ENot, e), node(api.EAnd, one, e), node(api.EMux, e, one, one), node(api.EMux, one, one, e), node(api.EAdd, node(api.ENot, e), one),
		{Op: api.ESlice, Args: []api.Expr{node(api.EEq, one, node(api.ENot, e))}}, {Op: api.EMem, Name: "z", Args: []api.Expr{{Op: api.EExt, Args: []api.Expr{e}}}},
	}
}

// eachPlace calls f for modules with an expression at all sorts of places; used says that it is one that the item 0 uses.
// The item 1 is a memory with the name z.
func eachPlace(e api.Expr, f func(file api.File, used bool)) {
	for kind := api.IIn; kind <= api.IInst; kind++ {
		for at := range 3 {
			for _, whole := range places(e) {
				f(moduleOf(withExpr(kind, at, whole), itemOf(api.IMem, "z")), at < expressions[kind])
			}
		}
	}
}

func TestP10_1Operators(t *testing.T) {
	args := map[int]int{1: 0, 2: 1, 3: 2, 4: 2, 5: 2, 6: 2, 7: 2, 8: 2, 9: 2, 10: 3, 11: 2, 12: 1, 13: 1, 14: 0, 15: 1}
	for _, op := range []int{math.MinInt, -2, -1, 0, 1, 2, 3, 4, 5, 6, 7, 8, 9, 10, 11, 12, 13, 14, 15, 16, 17, 18, 19, 255, math.MaxInt} {
		for n := range 5 {
			e := api.Expr{Op: op, Name: "z", Args: slices.Repeat([]api.Expr{one}, n)}
			right, known := args[op]
			eachPlace(e, func(f api.File, used bool) {
				want := "2@0"
				if !used || known && n == right {
					want = ""
				}
				checkCode(t, f, 2, want)
			})
		}
	}
}

func TestP10_1Numbers(t *testing.T) {
	for kind, fields := range map[int]string{
		api.IIn: "Width", api.IOut: "Width", api.IChan: "Width Depth", api.IReg: "Width Init", api.IWire: "Width", api.IMem: "Width Depth", api.ITake: "", api.IPut: "", api.IInst: "Args", 0: "", 10: "",
	} {
		for _, param := range []string{"", "w", "v", "a", "m", "k", "W", "x y"} {
			n := api.Num{N: -3, Param: param}
			for field, change := range map[string]func(item *api.Item){
				"Width": func(item *api.Item) { item.Width = n }, "Depth": func(item *api.Item) { item.Depth = n }, "Init": func(item *api.Item) { item.Init = n },
				"Args": func(item *api.Item) { item.Args = []api.Num{num(1), n, num(2)} },
			} {
				item := itemOf(kind, "a")
				change(&item)
				want := ""
				if strings.Contains(fields, field) && param != "" && param != "w" {
					want = "3@1"
				}
				ends := []api.Item{itemOf(api.IChan, "c"), item, itemOf(api.ITake, "c"), itemOf(api.IPut, "c")}
				if kind == api.ITake || kind == api.IPut {
					ends[1].Name = "c"
				}
				checkCode(t, moduleOf(ends...), 3, want)
			}
		}
	}
}

func TestP10_1NumbersOfExpressions(t *testing.T) {
	args := [...]int{1: 0, 2: 1, 3: 2, 4: 2, 5: 2, 6: 2, 7: 2, 8: 2, 9: 2, 10: 3, 11: 2, 12: 1, 13: 1, 14: 0, 15: 1, 16: 0, 17: 1, 18: 0}
	for op := 1; op < len(args); op++ {
		for _, param := range []string{"", "w", "v", "z", "m"} {
			n := api.Num{N: 7, Param: param}
			for i, e := range []api.Expr{{K: n}, {W: n}} {
				e.Op, e.Name, e.Args = op, "z", slices.Repeat([]api.Expr{one}, args[op])
				usesIt := op == api.EConst || op == api.ESlice || op == api.EExt && i == 1
				if op == api.ERef {
					e.Name = "r"
				}
				eachPlace(e, func(f api.File, used bool) {
					f.Modules[0].Items = append(f.Modules[0].Items, itemOf(api.IReg, "r"), itemOf(api.IChan, "c"))
					if kind := f.Modules[0].Items[0].Kind; kind == api.ITake || kind == api.IPut {
						f.Modules[0].Items[0].Name = "c"
					}
					want := ""
					if used && usesIt && (param == "v" || param == "z" || param == "m") {
						want = "3@0"
					}
					checkCode(t, f, 3, want)
				})
			}
		}
	}
}

// The first item of each module has the reference.
func TestP10_1References(t *testing.T) {
	for items, want := range map[string]string{
		"reg x: 1 = 0 -> x init;":               "R",
		"wire x: 1 = [1 : 1];":                  "R",
		"wire x: 1 = x;":                        "R",
		"mem x: 1 [2] if x at x = x init;":      "M",
		"in x: 1;":                              "",
		"in x: 1; take x if [1 : 1];":           "R",
		"in x: 1; put x if [1 : 1] = [1 : 1];":  "",
		"in x: 1; take y if [1 : 1];":           "",
		"out x: 1;":                             "",
		"out x: 1; put x if [1 : 1] = [1 : 1];": "",
		"out x: 1; take x if [1 : 1];":          "",
		"chan x: 1 [2];":                        "",
		"chan x: 1 [2]; take x if [1 : 1];":     "R",
		"take x if [1 : 1]; chan x: 1 [2];":     "R",
		"chan x: 1 [2]; put x if [1 : 1] = x;":  "",
		"chan x: 1 [2]; inst i: m(1) (x = x);":  "",
		"inst x: m(1) ();":                      "",
		"inst x: m(1) (); take x if [1 : 1];":   "",
		"take x if [1 : 1];":                    "",
		"":                                      "",
		"wire w: 1 = w;":                        "",
		"wire y: 1 = y; in y: 1; take x if x;":  "",
		"reg x: 1 = 0 -> x init; in x: 1;":      "R",
		"in x: 1; reg x: 1 = 0 -> x init;":      "",
		"mem x: 1 [2] if x at x = x init; in x: 1; take x if [1 : 1];":            "M",
		"in x: 1; mem x: 1 [2] if x at x = x init; take x if [1 : 1];":            "R",
		"inst x: m(1) (); reg x: 1 = 0 -> x init; take x if [1 : 1];":             "",
		"out x: 1; chan x: 1 [2]; take x if [1 : 1]; put x if [1 : 1] = [1 : 1];": "",
		"chan x: 1 [2]; out x: 1; take x if [1 : 1]; put x if [1 : 1] = [1 : 1];": "R",
	} {
		for form, e := range map[string]api.Expr{"R": ref("x"), "M": {Op: api.EMem, Name: "x", Args: []api.Expr{one}}, "": {Op: api.EConst, Name: "x"}} {
			for kind := api.IReg; kind <= api.IMem; kind++ {
				for at := range expressions[kind] {
					for _, whole := range places(e) {
						f := inModule(t, items)
						f.Modules[0].Items = slices.Concat([]api.Item{withExpr(kind, at, whole), itemOf(api.IMem, "z")}, f.Modules[0].Items)
						wrong := form != "" && form != want
						if got := slices.Contains(checkFile(t, f), api.Problem{Code: 3, Item: 0}); got != wrong {
							t.Errorf("%q, %+v: %v, want %v", items, whole, got, wrong)
						}
					}
				}
			}
		}
	}
}

// Strings that are no names are declared, and referred to, all the same.
func TestP10_1ReferencesToNoNames(t *testing.T) {
	for _, s := range badNames {
		checkProblems(t, moduleOf(itemOf(api.IReg, s), api.Item{Kind: api.IWire, Name: "x", A: ref(s)}), "1@0")
		checkProblems(t, moduleOf(itemOf(api.IChan, s), itemOf(api.ITake, s), itemOf(api.IPut, s)), "1@0")
		checkProblems(t, moduleOf(itemOf(api.IReg, "x"), api.Item{Kind: api.IWire, Name: "y", A: ref(s)}), "3@1")
	}
}

// Arguments that an operator does not take are expressions within it, too.
func TestP10_1WithinMalformed(t *testing.T) {
	for _, e := range []api.Expr{
		{Op: api.ERef, Name: "r", Args: []api.Expr{ref("zz")}}, {Op: api.EConst, Args: []api.Expr{ref("zz")}}, node(api.ENot, one, ref("zz")),
		node(0, ref("zz")), node(16, one, node(18, ref("zz"))), {Op: 18, Args: []api.Expr{{Op: api.EExt, W: api.Num{Param: "v"}}}},
	} {
		checkProblems(t, moduleOf(itemOf(api.IReg, "r"), api.Item{Kind: api.IWire, Name: "x", A: e}), "2@1 3@1")
	}
	checkProblems(t, moduleOf(api.Item{Kind: api.IWire, Name: "x", A: node(77, ref("x"))}), "2@0 4@0")
	checkProblems(t, moduleOf(itemOf(api.IChan, "c"), itemOf(api.IPut, "c"), api.Item{Kind: api.ITake, Name: "c", A: node(77, ref("c"))}), "2@2 8@2")
}

func TestP10_1TakesAndPuts(t *testing.T) {
	for items, want := range map[string]string{
		"take x if [1 : 1];":                                                               "3@0",
		"put x if [1 : 1] = [1 : 1];":                                                      "3@0",
		"take w if [1 : 1];":                                                               "3@0",
		"take m if [1 : 1];":                                                               "3@0",
		"in x: 1; take x if [1 : 1];":                                                      "",
		"in x: 1; put x if [1 : 1] = [1 : 1];":                                             "5@0 3@1",
		"in x: 1; take x if [1 : 1]; put x if [1 : 1] = [1 : 1];":                          "5@0 3@2",
		"out x: 1; put x if [1 : 1] = [1 : 1];":                                            "",
		"out x: 1; take x if [1 : 1];":                                                     "5@0 3@1",
		"out x: 1; take x if [1 : 1]; put x if [1 : 1] = [1 : 1];":                         "5@0 3@1",
		"chan x: 1 [2]; take x if [1 : 1]; put x if [1 : 1] = [1 : 1];":                    "",
		"put x if [1 : 1] = [1 : 1]; take x if [1 : 1]; chan x: 1 [2];":                    "",
		"reg x: 1 = 0 -> x init; take x if [1 : 1]; put x if [1 : 1] = x;":                 "3@1 3@2",
		"wire x: 1 = [1 : 1]; take x if [1 : 1]; put x if [1 : 1] = x;":                    "3@1 3@2",
		"mem x: 1 [2] if x[[1 : 1]] at [1 : 1] = [1 : 1] init; take x if [1 : 1];":         "3@1",
		"inst x: q() (); take x if [1 : 1]; put x if [1 : 1] = [1 : 1];":                   "3@0 3@1 3@2",
		"reg x: 1 = 0 -> x init; in x: 1; take x if [1 : 1];":                              "1@1 3@2",
		"in x: 1; reg x: 1 = 0 -> x init; take x if [1 : 1];":                              "1@1",
		"in x: 1; out x: 1; take x if [1 : 1]; put x if [1 : 1] = [1 : 1];":                "5@0 1@1 5@1 3@3",
		"in x: 1; in x: 1; take x if [1 : 1];":                                             "1@1",
		"out x: 1; out x: 1; put x if [1 : 1] = [1 : 1];":                                  "1@1",
		"chan x: 1 [2]; chan x: 1 [2]; take x if [1 : 1]; put x if [1 : 1] = [1 : 1];":     "1@1",
		"reg x: 1 = 0 -> x init; chan x: 1 [2]; take x if [1 : 1]; put x if [1 : 1] = x;":  "1@1 3@2 3@3",
		"reg x: 1 = 0 -> x init; chan x: 1 [2]; in x: 1; out x: 1; take x if [1 : 1];":     "1@1 5@1 1@2 1@3 5@3 3@4",
		"chan x: 1 [2]; in x: 1; out x: 1; take x if [1 : 1]; put x if [1 : 1] = [1 : 1];": "1@1 5@1 1@2 5@2",
	} {
		checkProblems(t, inModule(t, items), want)
	}
}

// Ports and channels that are consumed and filled up to twice, by takes, puts, and ports of one instance or of several ones.
func TestP10_1Ends(t *testing.T) {
	for n := range 3 * 3 * 3 * 3 * 3 * 2 {
		takes, puts, ins, outs, kind, together := n%3, n/3%3, n/9%3, n/27%3, api.IIn+n/81%3, n/243 == 1
		items := []api.Item{itemOf(kind, "x")}
		items = append(items, slices.Repeat([]api.Item{itemOf(api.ITake, "x")}, takes)...)
		items = append(items, slices.Repeat([]api.Item{itemOf(api.IPut, "x")}, puts)...)
		items = append(items, slices.Repeat([]api.Item{itemOf(api.IReg, "r")}, n%2)...)
		binds := slices.Concat([]api.Bind{{Port: "i0", Chan: "x"}, {Port: "i1", Chan: "x"}}[:ins], []api.Bind{{Port: "o0", Chan: "x"}, {Port: "o1", Chan: "x"}}[:outs])
		instance := api.Item{Kind: api.IInst, Name: "i", Of: "n", Ports: binds}
		for i, b := range binds {
			if !together {
				items = append(items, api.Item{Kind: api.IInst, Name: fmt.Sprint("i", i), Of: "n", Ports: []api.Bind{b}})
			}
		}
		if together {
			items = append(items, instance)
		}
		f := api.File{Modules: append(moduleOf(items...).Modules, api.Module{Name: "n", Clock: "k", Items: []api.Item{itemOf(api.IIn, "i0"), itemOf(api.IIn, "i1"), itemOf(api.IOut, "o0"), itemOf(api.IOut, "o1")}})}
		want := "5@0"
		consumed, filled := takes+ins, puts+outs
		if kind == api.IIn && consumed == 1 && filled == 0 || kind == api.IOut && consumed == 0 && filled == 1 || kind == api.IChan && consumed == 1 && filled == 1 {
			want = ""
		}
		checkCode(t, f, 5, want+" | 5@0 5@1 5@2 5@3")
	}
}

// cell is a module with two parameters, two input ports, two output ports and a register.
const cell = ` module cell(v, w) @ k { in a: 1; in b: 1; out d: 1; out e: 1; take a if [1 : 1]; take b if [1 : 1]; put d if [1 : 1] = r; put e if [1 : 1] = r; reg r: 1 = 0 -> (a & b) init; }`

// ring is the channels that the ports of cell are bound to.
const ring = "chan x: 1 [2]; chan y: 1 [2];"

func TestP10_1Bindings(t *testing.T) {
	for instance, want := range map[string]string{
		"inst i: cell(1, 2) (a = x, b = y, d = x, e = y);":                                                    "",
		"inst i: cell(1, 2) (e = x, d = y, b = x, a = y);":                                                    "",
		"inst i: cell(1) (a = x, b = y, d = x, e = y);":                                                       "6@2",
		"inst i: cell() (a = x, b = y, d = x, e = y);":                                                        "6@2",
		"inst i: cell(1, 2, 3) (a = x, b = y, d = x, e = y);":                                                 "6@2",
		"inst i: cell(w, w - 1) (a = x, b = y, d = x, e = y);":                                                "",
		"inst i: cell(1, v) (a = x, b = y, d = x, e = y);":                                                    "3@2",
		"inst i: cell(v) (a = x, b = y, d = x, e = y);":                                                       "3@2 6@2",
		"inst i: cell(1, 2) (a = x, b = y, d = x);":                                                           "5@1 6@2",
		"inst i: cell(1, 2) (b = y, d = x, e = y);":                                                           "5@0 6@2",
		"inst i: cell(1, 2) ();":                                                                              "5@0 5@1 6@2",
		"inst i: cell(1, 2) (a = x, b = y, d = x, e = y, a = x);":                                             "5@0 6@2",
		"inst i: cell(1, 2) (a = x, b = y, d = x, e = y, e = x);":                                             "5@0 6@2",
		"inst i: cell(1, 2) (a = x, a = y, d = x, e = y);":                                                    "6@2",
		"inst i: cell(1, 2) (a = x, b = y, d = x, e = y, r = x);":                                             "6@2",
		"inst i: cell(1, 2) (a = x, b = y, d = x, e = y, q = x);":                                             "6@2",
		"inst i: cell(1, 2) (a = x, b = y, d = x, e = y, v = x);":                                             "6@2",
		"inst i: cell(1, 2) (a = x, b = y, d = x, e = y, r = z);":                                             "3@2 6@2",
		"inst i: cell(1, 2) (a = x, b = y, d = x, r = y);":                                                    "5@1 6@2",
		"inst i: cell(1, 2) (a = x, b = x, d = y, e = y);":                                                    "5@0 5@1",
		"inst i: cell(1, 2) (a = x, b = z, d = x, e = y);":                                                    "5@1 3@2",
		"inst i: cell(1, 2) (a = x, b = i, d = x, e = y);":                                                    "5@1 3@2",
		"inst i: cell(1, 2) (a = x, b = w, d = x, e = y);":                                                    "5@1 3@2",
		"inst i: cell(1, 2) (a = x, b = s, d = x, e = y); reg s: 1 = 0 -> s init;":                            "5@1 3@2",
		"inst i: cell(1, 2) (a = x, b = s, d = x, e = y); wire s: 1 = [1 : 1];":                               "5@1 3@2",
		"inst i: cell(1, 2) (a = x, b = s, d = x, e = y); mem s: 1 [2] if [1 : 1] at [1 : 1] = [1 : 1] init;": "5@1 3@2",
		"inst i: cell(1, 2) (a = x, b = p, d = x, e = q); in p: 1; out q: 1;":                                 "5@1",
		"inst i: cell(1, 2) (a = x, b = q, d = x, e = p); in p: 1; out q: 1;":                                 "5@1 5@3 5@4",
		"inst i: other(1, 2) (a = x, b = y, d = x, e = y);":                                                   "5@0 5@1 3@2",
		"inst i: m(1) ();":      "7@head 5@0 5@1",
		"inst i: m(1) (x = x);": "7@head 5@0 5@1 6@2",
		"inst i: m() ();":       "7@head 5@0 5@1 6@2",
		"inst i: cell(1, 2) (a = x, b = y, d = x, e = y); inst j: cell(1, 2) ();":                              "6@3",
		"inst i: cell(1, 2) (a = x, b = y, d = x, e = y); inst i: other() ();":                                 "1@3 3@3",
		"inst i: cell(1, 2) (a = x, d = y); inst j: cell(1, 2) (b = y, e = x);":                                "6@2 6@3",
		"inst cell: cell(1, 2) (a = x, b = y, d = x, e = y); inst m: cell(1, 2) (a = x, b = y, d = x, e = y);": "5@0 5@1",
	} {
		checkProblems(t, fileOf(t, "module m(w) @ k { "+ring+instance+" }"+cell), want)
	}
}

// A port of an instance is what the first item that declares its name is; its name has to be bound in any case.
func TestP10_1PortsDeclaredTwice(t *testing.T) {
	for items, want := range map[string]string{
		"in p: 1; reg p: 1 = 0 -> p init;":                        "| 5@0 1@1 3@1",
		"reg p: 1 = 0 -> p init; in p: 1;":                        "5@0 | 1@1 5@1",
		"in p: 1; out p: 1;":                                      "| 5@0 1@1 5@1",
		"out p: 1; in p: 1;":                                      "5@0 | 5@0 1@1 5@1",
		"in p: 1; in p: 1;":                                       "| 5@0 1@1 5@1",
		"chan p: 1 [2]; in p: 1;":                                 "5@0 | 5@0 1@1 5@1",
		"in p: 1; chan p: 1 [2];":                                 "| 5@0 1@1 5@1",
		"take p if [1 : 1]; in p: 1;":                             "",
		"reg p: 1 = 0 -> p init;":                                 "5@0 6@1 |",
		"chan p: 1 [2];":                                          "5@0 6@1 | 5@0",
		"in p: 1; in q: 1;":                                       "6@1 | 5@0 5@1",
		"inst p: q() (); in p: 1;":                                "5@0 | 3@0 1@1 5@1",
		"in p: 1; inst p: q() ();":                                "| 5@0 1@1 3@1",
		"put p if [1 : 1] = [1 : 1]; out p: 1; in p: 1; in p: 1;": "5@0 | 1@2 5@2 1@3 5@3",
	} {
		checkProblems(t, fileOf(t, "module m() @ k { in x: 1; inst i: n() (p = x); } module n() @ k { "+items+" }"), want)
	}
}

// The number of parameters is that of the list, though one of them is listed twice.
func TestP10_1ParamsListedTwice(t *testing.T) {
	for args, want := range map[string]string{"": "6@0 | 1@head", "1": "6@0 | 1@head", "1, 2": "| 1@head", "1, 2, 3": "6@0 | 1@head"} {
		checkProblems(t, fileOf(t, "module m() @ k { inst i: n("+args+") (); } module n(w, w) @ k { }"), want)
	}
}

// An instance is of the first one of two modules with the same name.
func TestP10_1SecondModules(t *testing.T) {
	first, second := " module n() @ k { in p: 1; take p if [1 : 1]; }", " module n(w) @ k { out q: 1; put q if [1 : 1] = [1 : 1]; }"
	top := func(items string) string { return "module m() @ k { in x: 1; out y: 1; " + items + " }" }
	for items, want := range map[string]string{
		"inst i: n() (p = x); inst j: n(1) (q = y);": "5@1 6@3",
		"inst i: n() (p = x);":                       "5@1",
		"inst j: n(1) (q = y);":                      "5@0 5@1 6@2",
	} {
		checkProblems(t, fileOf(t, top(items)+first+second), want+" | | 1@head")
		checkProblems(t, fileOf(t, first+top(items)+second), "| "+want+" | 1@head")
	}
	checkProblems(t, fileOf(t, top("inst i: n() (p = x); inst j: n(1) (q = y);")+second+first), "5@0 6@2 | | 1@head")
}

func TestP10_1Reaching(t *testing.T) {
	// Each module is written as its name, and the modules that it has instances of.
	for text, want := range map[string]string{
		"m": "", "mm": "7@head", "m mn": "| 1@head 3@0", "mn n": "", "n mn": "", "mn nm": "7@head | 7@head", "mn nn": "| 7@head", "mm n": "7@head", "mno n o": "", "mn no o": "", "mn no om": "7@head | 7@head | 7@head",
		"mn no on": "| 7@head | 7@head", "mn nom o": "7@head | 7@head", "mno no om": "7@head | 7@head | 7@head", "mnn n": "", "mm mm": "7@head | 1@head", "m mm": "| 1@head", "mm m": "7@head | 1@head",
		"mn n mm": "| | 1@head", "mn nm m": "7@head | 7@head | 1@head", "mn n nm": "| | 1@head", "n mn nm": "| | 1@head", "mn n no om": "| | 1@head", "mq": "3@0", "mq nm": "3@0", "mnop n o p": "", "mn no op pn": "| 7@head | 7@head | 7@head", "mn no op po": "| | 7@head | 7@head", "mn nm op po": "7@head | 7@head | 7@head | 7@head", "mn nm om po": "7@head | 7@head",
	} {
		var f api.File
		for _, word := range strings.Fields(text) {
			m := api.Module{Name: word[:1], Clock: "k"}
			for i, of := range word[1:] {
				m.Items = append(m.Items, api.Item{Kind: api.IInst, Name: fmt.Sprint("i", i), Of: string(of)})
			}
			f.Modules = append(f.Modules, m)
		}
		checkProblems(t, f, want)
	}
}

func TestP10_1CircularWires(t *testing.T) {
	for items, want := range map[string]string{
		"wire a: 1 = [1 : 1];":                                                    "",
		"wire a: 1 = a;":                                                          "4@0",
		"wire a: 1 = ~{a : 1};":                                                   "4@0",
		"wire a: 1 = b; wire b: 1 = [1 : 1];":                                     "",
		"wire a: 1 = b; wire b: 1 = a;":                                           "4@0 4@1",
		"wire a: 1 = b; wire b: 1 = b;":                                           "4@1",
		"wire a: 1 = (b & d); wire b: 1 = d; wire d: 1 = [1 : 1];":                "",
		"wire a: 1 = (b & d); wire b: 1 = d; wire d: 1 = (b ? d : [1 : 1]);":      "4@1 4@2",
		"wire a: 1 = b; wire b: 1 = d; wire d: 1 = e; wire e: 1 = a;":             "4@0 4@1 4@2 4@3",
		"wire a: 1 = b; wire b: 1 = d; wire d: 1 = e; wire e: 1 = b;":             "4@1 4@2 4@3",
		"wire a: 1 = a[[1 : 1]];":                                                 "3@0 4@0",
		"wire a: 1 = b[[1 : 1]]; wire b: 1 = a;":                                  "3@0 4@0 4@1",
		"wire a: 1 = z[a]; mem z: 1 [2] if a at a = a init;":                      "4@0",
		"wire a: 1 = z[[1 : 1]]; mem z: 1 [2] if a at a = a init;":                "",
		"wire a: 1 = r; reg r: 1 = 0 -> a init;":                                  "",
		"reg a: 1 = 0 -> a init;":                                                 "",
		"wire a: 1 = b; wire a: 1 = b; reg b: 1 = 0 -> a init;":                   "1@1",
		"reg a: 1 = 0 -> a init; wire a: 1 = a;":                                  "1@1 4@1",
		"wire a: 1 = [1 : 1]; wire a: 1 = a;":                                     "1@1 4@1",
		"wire a: 1 = a; wire a: 1 = [1 : 1];":                                     "4@0 1@1",
		"wire a: 1 = [1 : 1]; wire a: 1 = b; wire b: 1 = a;":                      "1@1 4@1",
		"wire a: 1 = b; wire a: 1 = [1 : 1]; wire b: 1 = a;":                      "4@0 1@1 4@2",
		"wire a: 1 = b; reg b: 1 = 0 -> b init; wire b: 1 = a;":                   "1@2 4@2",
		"reg b: 1 = 0 -> b init; wire b: 1 = a; wire a: 1 = d; wire d: 1 = b;":    "1@1 4@1",
		"wire b: 1 = d; wire d: 1 = b; wire b: 1 = e; reg e: 1 = 0 -> e init;":    "4@0 4@1 1@2",
		"wire b: 1 = [1 : 1]; wire a: 1 = d; wire d: 1 = [1 : 1]; wire d: 1 = a;": "1@3 4@3",
		"wire a: 1 = nothing;":                                                    "3@0",
		"wire a: 1 = ~nothing; wire nothin: 1 = a;":                               "3@0",
	} {
		checkProblems(t, inModule(t, items), want)
	}
}

// What a take must not need.
func TestP10_1Premature(t *testing.T) {
	const in = "in x: 1; chan y: 1 [2]; put y if [1 : 1] = [1 : 1]; take y if [1 : 1]; reg r: 1 = 0 -> x init; wire a: 1 = x; wire b: 1 = (r & a); wire d: 1 = ~r; wire e: 1 = d; wire g: 1 = z[y]; wire h: 1 = z[r]; mem z: 1 [2] if x at y = a init; "
	for e, want := range map[string]string{
		"[1 : 1]": "", "r": "", "x": "8@12", "y": "8@12", "~~x": "8@12", "(r & (r ? r : y))": "8@12", "a": "8@12", "b": "8@12", "d": "", "e": "", "(d & b)": "8@12", "(d & e)": "", "g": "8@12", "h": "", "z[r]": "", "z[d]": "", "z[x]": "8@12", "z[b]": "8@12", "{z[{y @ 0 : 1}] : 1}": "8@12", "[w : w]": "", "[w - 1 : 1]": "",
	} {
		checkProblems(t, inModule(t, in+"take x if "+e+";"), want)
	}
	for items, want := range map[string]string{
		"in x: 1; take x if a; wire a: 1 = a;":                                       "4@2",
		"in x: 1; take x if a; wire a: 1 = b; wire b: 1 = (a & x);":                  "8@1 4@2 4@3",
		"in x: 1; take x if x[[1 : 1]];":                                             "3@1",
		"in x: 1; take x if a[[1 : 1]]; wire a: 1 = x;":                              "3@1",
		"in x: 1; take x if a; wire a: 1 = x[[1 : 1]];":                              "8@1 3@2",
		"in x: 1; take x if a; wire a: 1 = b[[1 : 1]]; wire b: 1 = x;":               "8@1 3@2",
		"in x: 1; take x if a; reg a: 1 = 0 -> x init; wire a: 1 = x;":               "1@3",
		"in x: 1; take x if a; wire a: 1 = x; reg a: 1 = 0 -> x init;":               "8@1 1@3",
		"in x: 1; take x if o; out o: 1; put o if [1 : 1] = [1 : 1];":                "3@1",
		"in x: 1; take x if a; wire a: 1 = o; out o: 1; put o if [1 : 1] = [1 : 1];": "3@2",
		"in x: 1; take x if a; wire a: 1 = y; in y: 1;":                              "8@1 3@2 5@3",
		"in x: 1; take x if y; in y: 1;":                                             "3@1 8@1 5@2",
		"in x: 1; take x if [1 : 1]; take x if x;":                                   "5@0 8@2",
		"in x: 1; take x if x; take x if [1 : 1];":                                   "5@0 8@1",
		"in x: 1; take x if [1 : 1]; out o: 1; put o if x = x;":                      "",
		"reg x: 1 = 0 -> x init; in x: 1; take x if x;":                              "1@1 3@2",
		"reg x: 1 = 0 -> x init; in x: 1; wire a: 1 = x; take x if a;":               "1@1 3@3",
		"in q: 1; take q if n; inst n: other() ();":                                  "3@1 3@2",
		"in q: 1; take q if nothing;":                                                "3@1",
		"take nothing if x; in x: 1; take x if [1 : 1];":                             "3@0 8@0",
	} {
		checkProblems(t, inModule(t, items), want)
	}
}

// All problems at once: they come by module, item and code, each of them once though there are several reasons for it.
func TestP10_1Order(t *testing.T) {
	num := api.Num{Param: "none"}
	bad := node(api.ENot, api.Expr{Op: api.EConst, K: num, W: num, Args: []api.Expr{ref("none"), node(99), node(-1)}}, ref("none"))
	items := []api.Item{
		{Kind: api.IIn, Name: "A", Width: num}, {Kind: api.IOut, Name: "w", Width: num}, {Kind: api.IChan, Name: "", Width: num, Depth: num},
		{Kind: api.IReg, Name: "A", Width: num, Init: num, A: bad, Rule: api.Rule{Kind: 7}}, {Kind: api.IWire, Name: "A", Width: num, A: node(api.EAdd, ref("A"), bad, ref("none"))},
		{Kind: api.IMem, Name: "w", Width: num, Depth: num, A: bad, B: bad, C: bad, Rule: api.Rule{Kind: api.RCopy}}, {Kind: api.ITake, Name: "w", A: node(api.EAdd, ref("A"), ref(""), bad)},
		{Kind: api.IPut, Name: "A", A: bad, B: bad}, {Kind: api.IInst, Name: "A", Of: "M", Args: []api.Num{num}, Ports: []api.Bind{{Port: "A", Chan: "x"}, {Port: "A", Chan: "y"}, {Port: "z", Chan: "z"}}}, {Kind: 10, Name: "A"},
	}
	m := api.Module{Name: "M", Clock: "", Params: []string{"w", "w", "W"}, Items: items}
	want := "1@head 7@head 1@0 3@0 5@0 1@1 3@1 5@1 1@2 3@2 5@2 1@3 2@3 3@3 1@4 2@4 3@4 4@4 1@5 2@5 3@5 2@6 3@6 8@6 2@7 3@7 1@8 3@8 6@8 2@9"
	checkProblems(t, api.File{Modules: []api.Module{m}}, want)
	checkProblems(t, api.File{Modules: []api.Module{{Name: "a", Clock: "k"}, m, m, {Name: "b", Clock: "k", Items: items[:1]}}}, "| "+want+" | "+strings.Replace(want, " 7@head", "", 1)+" | 1@0 3@0 5@0")
}

func TestP10_1Empty(t *testing.T) {
	checkProblems(t, api.File{}, "")
	checkProblems(t, api.File{Modules: []api.Module{}}, "")
	checkProblems(t, fileOf(t, "module m() @ k { } module n(w) @ k { }"), "")
	checkProblems(t, api.File{Modules: make([]api.Module, 3)}, "1@head | 1@head | 1@head")
	checkProblems(t, moduleOf(make([]api.Item, 3)...), "2@0 2@1 2@2")
	for kind, want := range map[int]string{
		api.IIn: "1@0 5@0", api.IOut: "1@0 5@0", api.IChan: "1@0 5@0", api.IReg: "1@0 2@0", api.IWire: "1@0 2@0", api.IMem: "1@0 2@0", api.ITake: "2@0 3@0", api.IPut: "2@0 3@0", api.IInst: "1@0 3@0",
	} {
		checkProblems(t, moduleOf(api.Item{Kind: kind}), want)
	}
	checkProblems(t, api.File{Modules: []api.Module{{Items: []api.Item{{Kind: api.IInst}}}}}, "1@head 7@head 1@0")
}

// Each string, number and list of a few files is changed in turn.
func TestP10_1EachPart(t *testing.T) {
	r := source()
	files := []api.File{fileOf(t, "module m(w) @ k { "+ring+" inst i: cell(1, w) (a = x, b = y, d = x, e = y); }"+cell), validFile(r)}
	broken := 0
	for _, f := range files {
		names := someNames(f)
		for _, v := range leavesOf(&f) {
			old := reflect.ValueOf(v.Interface())
			for _, x := range changes(v, names) {
				v.Set(x)
				if len(checkFile(t, f)) > 0 {
					broken++
				}
			}
			v.Set(old)
		}
		checkProblems(t, f, "")
	}
	if broken < 4000 {
		t.Errorf("only %d changed files have problems", broken)
	}
}

func TestP10_1Random(t *testing.T) {
	valid, codes := 0, map[int]int{}
	eachFile(func(_ *rand.Rand, f api.File) {
		l := checkFile(t, f)
		if len(l) == 0 {
			valid++
		}
		for _, p := range l {
			codes[p.Code]++
		}
	})
	if valid < 3000 || len(codes) != 8 || codes[4] < 100 || codes[7] < 100 || codes[8] < 50 {
		t.Errorf("%d files are valid, the others have %v", valid, codes)
	}
}
