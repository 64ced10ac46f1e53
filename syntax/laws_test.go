package syntax_test

import (
	"fmt"
	"math"
	"math/rand/v2"
	"reflect"
	"slices"
	"strings"
	"testing"

	"wireloom/api"
	"wireloom/lexer"
	"wireloom/syntax"
)

// eachFile calls f for printable files: without modules, without items, the example, and random ones.
func eachFile(f func(file api.File)) {
	f(api.File{})
	f(moduleOf())
	f(exampleTree())
	r := source()
	for range 2000 {
		f(randomFile(r, 4))
	}
}

func TestP9_2RoundTrip(t *testing.T) {
	eachFile(func(f api.File) {
		s, e := syntax.Print(f)
		if e != api.OK {
			t.Fatalf("%v: %d", f, e)
		}
		checkTree(t, s, f)
		g, _, _ := syntax.Parse(s)
		checkText(t, g, s)
	})
}

func TestP9_2Lines(t *testing.T) {
	items := 0
	eachFile(func(f api.File) {
		s, _ := syntax.Print(f)
		lines := strings.SplitAfter(s, "\n")
		for _, m := range f.Modules {
			if !strings.HasPrefix(lines[0], "module "+m.Name+"(") || !strings.HasSuffix(lines[0], ") @ "+m.Clock+" {\n") {
				t.Errorf("%q begins a module", lines[0])
			}
			for _, i := range m.Items {
				lines = lines[1:]
				if words := strings.Fields(lines[0]); !strings.HasPrefix(lines[0], "  "+words[0]+" "+i.Name) || !strings.HasSuffix(lines[0], ";\n") {
					t.Errorf("%q is an item", lines[0])
				}
				items++
			}
			if lines[1] != "}\n" {
				t.Errorf("%q ends a module", lines[1])
			}
			lines = lines[2:]
		}
		if len(lines) != 1 || lines[0] != "" {
			t.Errorf("%q stands behind all modules", lines)
		}
	})
	if items < 3000 {
		t.Errorf("only %d items", items)
	}
}

// randomSpace is white space, also none.
func randomSpace(r *rand.Rand) string {
	return oneOf(r, "", "", " ", "\n", "  ", "\n \n", "// in a: 3;\n", " //\n", "//}\n//!\x00é\n ", "/////\n")
}

// spaced is the text of words with random white space around them, and at least some where they would be read as one without.
func spaced(r *rand.Rand, words []string) string {
	s := randomSpace(r)
	for i, word := range words {
		space := randomSpace(r)
		if i > 0 && space == "" && !slices.Equal(texts(words[i-1]+word), []string{words[i-1], word}) {
			space = " "
		}
		s += space + word
	}
	return s + oneOf(r, "", " ", "\n", "//", "// }")
}

// checkTokens says that the text of the tree of s has the tokens of s.
func checkTokens(t *testing.T, s string) {
	t.Helper()
	f, _, e := syntax.Parse(s)
	text, printed := syntax.Print(f)
	if e != api.OK || printed != api.OK || !slices.Equal(texts(text), texts(s)) {
		t.Errorf("%q: %d, %d, %q", s, e, printed, text)
	}
}

func TestP9_3Tokens(t *testing.T) {
	r := source()
	accepted := 0
	eachFile(func(f api.File) {
		words := texts(textAsSaid(reflect.ValueOf(f)))
		checkTokens(t, strings.Join(words, " "))
		if s := spaced(r, words); len(s) <= mostBytes {
			checkTokens(t, s)
		}
		if s := strings.Join(changed(r, words), " "); len(s) <= mostBytes {
			if _, _, e := syntax.Parse(s); e == api.OK {
				checkTokens(t, s)
				accepted++
			}
		}
	})
	if accepted < 200 {
		t.Errorf("only %d changed texts are accepted", accepted)
	}
}

// The text of an accepted string can be too long.
func TestP9_3UpToLimit(t *testing.T) {
	longest := 0
	for n := 720; n <= 729; n++ {
		for length := 1; length <= 12; length++ {
			name := strings.Repeat("a", length)
			s := "module " + name + "()@c{" + strings.Repeat("in a:3;", n) + "}"
			text := "module " + name + "() @ c {\n" + strings.Repeat("  in a: 3;\n", n) + "}\n"
			f, at, e := syntax.Parse(s)
			if len(f.Modules) != 1 || len(f.Modules[0].Items) != n || at != 0 || e != api.OK {
				t.Errorf("%d items: %d, %d", n, at, e)
			}
			if len(text) <= mostBytes {
				checkText(t, f, text)
				checkTokens(t, s)
				longest = max(longest, len(text))
			} else {
				checkNoText(t, f)
			}
		}
	}
	if longest != mostBytes {
		t.Errorf("the longest text has %d bytes", longest)
	}
}

// checkCut says that what stands behind the first token that cannot continue does not matter.
func checkCut(t *testing.T, r *rand.Rand, s string) {
	t.Helper()
	_, at, e := syntax.Parse(s)
	if e != api.ErrSyntax {
		return
	}
	to := at
	if left, _, _ := lexer.Lex(s[at:]); at < len(s) {
		to += len(left[0].Text)
	}
	checkError(t, s[:to], at, e)
	if at == len(s) {
		return
	}
	checkError(t, s[:to]+"\n//", at, e)
	checkError(t, s[:to]+" "+strings.Join(changed(r, texts(s)), " "), at, e)
	for _, more := range []string{";", "}", "module", "1", "a", ")", exampleText} {
		checkError(t, s[:to]+" "+more, at, e)
	}
}

func TestP9_4BehindTheError(t *testing.T) {
	r := source()
	for range 2000 {
		words := texts(textAsSaid(reflect.ValueOf(randomFile(r, 2))))
		checkCut(t, r, strings.Join(changed(r, words), " "))
		checkCut(t, r, strings.Join(words[:r.IntN(len(words)+1)], " "))
	}
	for depth := 9; depth < 12; depth++ {
		checkCut(t, r, wireText(strings.Repeat("~", depth-1)+"b"))
	}
}

// The first tokens of a text that are not whole modules are refused at their end, and nothing else.
func TestP9_4Beginnings(t *testing.T) {
	eachFile(func(f api.File) {
		if len(f.Modules) > 2 {
			return
		}
		s, _ := syntax.Print(f)
		whole := map[int]api.File{}
		for n := range len(f.Modules) + 1 {
			text := textAsSaid(reflect.ValueOf(api.File{Modules: f.Modules[:n]}))
			whole[len(strings.TrimSuffix(text, "\n"))] = api.File{Modules: f.Modules[:n]}
		}
		tokens, _, _ := lexer.Lex(s)
		checkTree(t, "", api.File{})
		for _, token := range tokens[:len(tokens)-1] {
			to := token.At + len(token.Text)
			if g, ok := whole[to]; ok {
				checkTree(t, s[:to], g)
				checkTree(t, s[:to]+" //", g)
			} else {
				checkError(t, s[:to], to, api.ErrSyntax)
				checkError(t, s[:to]+" //", to+3, api.ErrSyntax)
			}
		}
	})
}

// eachLeaf calls f for all strings, numbers and lists of a tree that can be changed.
func eachLeaf(v reflect.Value, f func(v reflect.Value)) {
	switch v.Kind() {
	case reflect.Struct:
		for i := range v.NumField() {
			eachLeaf(v.Field(i), f)
		}
	case reflect.Slice:
		for i := range v.Len() {
			eachLeaf(v.Index(i), f)
		}
		f(v)
	default:
		f(v)
	}
}

// Names and numbers of all sorts.
var (
	someStrings = append([]string{"", "a", "b", "w0", "A", "aB", "9", "0a", "a b", " a", "a ", "a\n", "a//", "a;", "a[b]", "~a", "a, b", "w + 1", "é", "\x00", "//\na"}, reserved...)
	someNumbers = append(many(-3, 20), -mostNumber-1, -mostNumber, mostNumber, mostNumber+1, math.MinInt, math.MinInt+1, math.MaxInt)
)

func many(from, to int) []int {
	var l []int
	for n := from; n <= to; n++ {
		l = append(l, n)
	}
	return l
}

// changes returns other values for a string, a number or a list.
func changes(v reflect.Value) []reflect.Value {
	var all []reflect.Value
	switch v.Kind() {
	case reflect.String:
		for _, s := range someStrings {
			all = append(all, reflect.ValueOf(s))
		}
	case reflect.Int:
		for _, n := range someNumbers {
			all = append(all, reflect.ValueOf(n))
		}
	default:
		more := appended(v, reflect.Zero(v.Type().Elem()))
		all = append(all, reflect.Zero(v.Type()), reflect.MakeSlice(v.Type(), 0, 0), more)
		for i := range v.Len() {
			all = append(all, v.Slice(0, i), v.Slice(i, v.Len()), appended(v, v.Index(i)))
		}
		if v.Type().Elem() == reflect.TypeFor[api.Expr]() {
			all = append(all, appended(v, reflect.ValueOf(ref("a"))), appended(more, reflect.ValueOf(ref("a"))))
		}
		if v.Type().Elem() == reflect.TypeFor[string]() {
			all = append(all, appended(v, reflect.ValueOf("a")), appended(v, reflect.ValueOf("if")))
		}
	}
	return all
}

// Each string, number and list of a tree is changed in turn.
func TestP9_5EachPart(t *testing.T) {
	f := exampleTree()
	printed, refused := 0, 0
	eachLeaf(reflect.ValueOf(&f).Elem(), func(v reflect.Value) {
		old := reflect.New(v.Type()).Elem()
		old.Set(v)
		for _, x := range changes(v) {
			v.Set(x)
			if checkPrint(t, f) == api.OK {
				printed++
			} else {
				refused++
			}
		}
		v.Set(old)
	})
	checkText(t, f, exampleText)
	if printed < 1000 || refused < 10000 {
		t.Errorf("%d changed trees have a text, %d have none", printed, refused)
	}
}

func TestP9_5Random(t *testing.T) {
	r := source()
	printed, refused := 0, 0
	for range 10000 {
		f := randomFile(r, 2)
		var leaves []reflect.Value
		eachLeaf(reflect.ValueOf(&f).Elem(), func(v reflect.Value) { leaves = append(leaves, v) })
		for range 1 + r.IntN(2) {
			v := leaves[r.IntN(len(leaves))]
			l := changes(v)
			v.Set(l[r.IntN(len(l))])
		}
		if checkPrint(t, f) == api.OK {
			printed++
		} else {
			refused++
		}
	}
	if printed < 1000 || refused < 1000 {
		t.Errorf("%d changed trees have a text, %d have none", printed, refused)
	}
}

// These trees are no trees of a file.
func TestP9_5Known(t *testing.T) {
	one := constant(num(1), num(1))
	for i, e := range []api.Expr{
		{}, {Op: -1, Name: "a"}, {Op: 16, K: num(1)}, {Op: 17, Args: []api.Expr{one}}, {Op: 18}, {Op: 19}, {Op: math.MaxInt}, {Op: math.MinInt},
		{Op: api.ERef}, {Op: api.ERef, Name: "at"}, {Op: api.ERef, Name: "A"}, {Op: api.ERef, Name: "a", K: num(1)}, {Op: api.ERef, Name: "a", W: num(1)}, {Op: api.ERef, Name: "a", K: param("w", 0)}, {Op: api.ERef, Name: "a", Args: []api.Expr{one}}, {Op: api.ERef, Name: "a", Args: []api.Expr{{}}},
		{Op: api.EMem, Name: "a"}, {Op: api.EMem, Args: []api.Expr{one}}, {Op: api.EMem, Name: "a", Args: []api.Expr{one, one}}, {Op: api.EMem, Name: "a", K: num(1), Args: []api.Expr{one}},
		{Op: api.EConst, K: num(-1), W: num(1)}, {Op: api.EConst, K: num(1), W: num(1000001)}, {Op: api.EConst, Name: "a", K: num(1), W: num(1)}, {Op: api.EConst, Args: []api.Expr{one}},
		node(api.ENot), node(api.ENot, one, one), {Op: api.ENot, Name: "a", Args: []api.Expr{one}}, {Op: api.ENot, W: num(1), Args: []api.Expr{one}},
		node(api.EAnd), node(api.EAnd, one), node(api.EAnd, one, one, one), node(api.ECat, one), node(api.EAdd, one, api.Expr{}), node(api.EAdd, api.Expr{}, one), {Op: api.EOr, K: num(1), Args: []api.Expr{one, one}}, {Op: api.ESub, Name: "a", Args: []api.Expr{one, one}},
		node(api.EMux, one, one), node(api.EMux, one, one, one, one), node(api.EMux), {Op: api.EMux, W: num(1), Args: []api.Expr{one, one, one}},
		{Op: api.ESlice, W: num(1)}, {Op: api.ESlice, Args: []api.Expr{one, one}}, {Op: api.ESlice, K: num(-1), Args: []api.Expr{one}}, {Op: api.ESlice, W: num(-1), Args: []api.Expr{one}}, {Op: api.ESlice, Name: "a", Args: []api.Expr{one}},
		{Op: api.EExt, W: num(1)}, {Op: api.EExt, W: num(1), Args: []api.Expr{one, one}}, {Op: api.EExt, K: num(1), W: num(1), Args: []api.Expr{one}}, {Op: api.EExt, K: param("w", 0), Args: []api.Expr{one}}, {Op: api.EExt, Name: "a", Args: []api.Expr{one}},
	} {
		f := wireOf(e)
		checkNoText(t, f)
		checkNoText(t, wireOf(node(api.ENot, e)))
		if _, e := printAsSaid(f); e == api.OK {
			t.Errorf("expression %d has a text", i)
		}
	}
	a, rule := ref("a"), api.Rule{Kind: api.RKeep}
	for i, item := range []api.Item{
		{}, {Name: "p"}, {Kind: -1, Name: "p"}, {Kind: 10, Name: "p"}, {Kind: math.MaxInt, Name: "p"}, {Kind: api.IIn}, {Kind: api.IIn, Name: "in"}, {Kind: api.IIn, Name: "9"},
		{Kind: api.IIn, Name: "p", Depth: num(1)}, {Kind: api.IIn, Name: "p", Init: num(1)}, {Kind: api.IIn, Name: "p", A: a}, {Kind: api.IIn, Name: "p", B: a}, {Kind: api.IIn, Name: "p", C: a}, {Kind: api.IIn, Name: "p", Rule: rule}, {Kind: api.IIn, Name: "p", Of: "a"}, {Kind: api.IIn, Name: "p", Args: []api.Num{{}}}, {Kind: api.IOut, Name: "p", Ports: []api.Bind{{}}}, {Kind: api.IOut, Name: "p", Depth: param("w", 0)}, {Kind: api.IOut, Name: "p", Rule: api.Rule{From: "a"}}, {Kind: api.IOut, Name: "p", A: api.Expr{K: num(1)}}, {Kind: api.IOut, Name: "p", A: api.Expr{Args: []api.Expr{{}}}},
		{Kind: api.IChan, Name: "p", Init: num(1)}, {Kind: api.IChan, Name: "p", Depth: num(-1)}, {Kind: api.IChan, Name: "p", Depth: param("if", 0)}, {Kind: api.IChan, Name: "p", A: a},
		{Kind: api.IReg, Name: "p"}, {Kind: api.IReg, Name: "p", A: a, Depth: num(1)}, {Kind: api.IReg, Name: "p", A: a, B: a}, {Kind: api.IReg, Name: "p", A: a, C: a}, {Kind: api.IReg, Name: "p", A: a, Init: num(-1)}, {Kind: api.IReg, Name: "p", A: a, Of: "q"},
		{Kind: api.IReg, Name: "p", A: a, Rule: api.Rule{Kind: -1}}, {Kind: api.IReg, Name: "p", A: a, Rule: api.Rule{Kind: 4, From: "a"}}, {Kind: api.IReg, Name: "p", A: a, Rule: api.Rule{From: "a"}}, {Kind: api.IReg, Name: "p", A: a, Rule: api.Rule{N: 1}}, {Kind: api.IReg, Name: "p", A: a, Rule: api.Rule{Kind: api.RKeep, From: "a"}}, {Kind: api.IReg, Name: "p", A: a, Rule: api.Rule{Kind: api.RKeep, N: 1}}, {Kind: api.IReg, Name: "p", A: a, Rule: api.Rule{Kind: api.RCopy}}, {Kind: api.IReg, Name: "p", A: a, Rule: api.Rule{Kind: api.RCopy, From: "a", N: 1}}, {Kind: api.IReg, Name: "p", A: a, Rule: api.Rule{Kind: api.RAdd, N: 1}}, {Kind: api.IReg, Name: "p", A: a, Rule: api.Rule{Kind: api.RAdd, From: "a", N: -1}}, {Kind: api.IReg, Name: "p", A: a, Rule: api.Rule{Kind: api.RAdd, From: "a", N: 1000001}},
		{Kind: api.IWire, Name: "p"}, {Kind: api.IWire, Name: "p", A: a, B: a}, {Kind: api.IWire, Name: "p", A: a, Init: num(1)}, {Kind: api.IWire, Name: "p", A: a, Rule: rule},
		{Kind: api.IMem, Name: "p", A: a, B: a}, {Kind: api.IMem, Name: "p", A: a, C: a}, {Kind: api.IMem, Name: "p", B: a, C: a}, {Kind: api.IMem, Name: "p", A: a, B: a, C: a, Init: num(1)}, {Kind: api.IMem, Name: "p", A: a, B: a, C: a, Ports: []api.Bind{{Port: "a", Chan: "b"}}},
		{Kind: api.ITake, Name: "p"}, {Kind: api.ITake, Name: "p", A: a, Width: num(1)}, {Kind: api.ITake, Name: "p", A: a, B: a}, {Kind: api.ITake, Name: "p", A: a, Rule: rule},
		{Kind: api.IPut, Name: "p", A: a}, {Kind: api.IPut, Name: "p", B: a}, {Kind: api.IPut, Name: "p", A: a, B: a, C: a}, {Kind: api.IPut, Name: "p", A: a, B: a, Width: num(1)},
		{Kind: api.IInst, Name: "p"}, {Kind: api.IInst, Of: "q"}, {Kind: api.IInst, Name: "p", Of: "inst"}, {Kind: api.IInst, Name: "p", Of: "q", Width: num(1)}, {Kind: api.IInst, Name: "p", Of: "q", A: a}, {Kind: api.IInst, Name: "p", Of: "q", Args: []api.Num{{N: -1}}}, {Kind: api.IInst, Name: "p", Of: "q", Args: []api.Num{{Param: "W"}}}, {Kind: api.IInst, Name: "p", Of: "q", Ports: []api.Bind{{Port: "a"}}}, {Kind: api.IInst, Name: "p", Of: "q", Ports: []api.Bind{{Chan: "a"}}}, {Kind: api.IInst, Name: "p", Of: "q", Ports: []api.Bind{{Port: "a", Chan: "at"}}},
	} {
		checkNoText(t, moduleOf(item))
		checkNoText(t, moduleOf(api.Item{Kind: api.IIn, Name: "a"}, item))
		if _, e := printAsSaid(moduleOf(item)); e == api.OK {
			t.Errorf("item %d has a text", i)
		}
	}
	for _, m := range []api.Module{{}, {Name: "m"}, {Clock: "c"}, {Name: "module", Clock: "c"}, {Name: "m", Clock: "add"}, {Name: "m", Clock: "c", Params: []string{""}}, {Name: "m", Clock: "c", Params: []string{"a", "in"}}, {Name: "m() @ c {\n}\nmodule n", Clock: "c"}} {
		checkNoText(t, api.File{Modules: []api.Module{m}})
		checkNoText(t, api.File{Modules: append(moduleOf().Modules, m)})
	}
}

func TestP9_6WhiteSpace(t *testing.T) {
	r := source()
	eachFile(func(f api.File) {
		words := texts(textAsSaid(reflect.ValueOf(f)))
		for range 3 {
			if s := spaced(r, words); len(s) <= mostBytes {
				checkTree(t, s, f)
			}
		}
	})
	words := texts(exampleText)
	for i := range len(words) + 1 {
		for _, space := range []string{"", " ", "\n", "   ", "\n\n", "//\n", "// }; in a\n", " // \xff\x00!\n ", "//\n//\n"} {
			s := strings.Join(words[:i], " ") + " " + space + " " + strings.Join(words[i:], " ")
			checkTree(t, s, exampleTree())
		}
		before, behind := strings.Join(words[:i], " ")+" ", " "+strings.Join(words[i:], " ")
		rest := strings.Repeat("\n", mostBytes-len(before)-len(behind))
		checkTree(t, before+rest+behind, exampleTree())
		checkError(t, before+rest+"\n"+behind, 0, api.ErrBig)
	}
	checkTree(t, exampleText+"// the end", exampleTree())
}

// arrays is all lists of a tree, with what stands behind their ends in the same arrays.
func arrays(v reflect.Value) string {
	switch v.Kind() {
	case reflect.Slice:
		s := fmt.Sprintf("%d of %#v", v.Len(), v.Slice(0, v.Cap()))
		for i := range v.Len() {
			s += arrays(v.Index(i))
		}
		return s
	case reflect.Struct:
		s := ""
		for i := range v.NumField() {
			s += arrays(v.Field(i))
		}
		return s
	}
	return ""
}

// roomy is a tree with new lists that have other values behind their ends in the same arrays.
func roomy(v reflect.Value, other func(t reflect.Type) reflect.Value) reflect.Value {
	c := reflect.New(v.Type()).Elem()
	c.Set(v)
	switch v.Kind() {
	case reflect.Slice:
		l := reflect.MakeSlice(v.Type(), 0, v.Len()+2)
		for i := range v.Len() {
			l = reflect.Append(l, roomy(v.Index(i), other))
		}
		room := reflect.Append(l, other(v.Type().Elem()), other(v.Type().Elem()))
		c.Set(room.Slice(0, v.Len()))
	case reflect.Struct:
		for i := range v.NumField() {
			c.Field(i).Set(roomy(v.Field(i), other))
		}
	}
	return c
}

// filler is a value that no tree has.
func filler(t reflect.Type) reflect.Value {
	v := reflect.New(t).Elem()
	eachLeaf(v, func(v reflect.Value) {
		switch v.Kind() {
		case reflect.String:
			v.SetString("room!")
		case reflect.Int:
			v.SetInt(-77)
		}
	})
	return v
}

func TestI3ArgumentsStay(t *testing.T) {
	r := source()
	eachFile(func(f api.File) {
		var leaves []reflect.Value
		eachLeaf(reflect.ValueOf(&f).Elem(), func(v reflect.Value) { leaves = append(leaves, v) })
		if r.IntN(2) == 0 {
			v := leaves[r.IntN(len(leaves))]
			l := changes(v)
			v.Set(l[r.IntN(len(l))])
		}
		g := roomy(reflect.ValueOf(f), filler)
		before := arrays(g)
		s, e := syntax.Print(g.Interface().(api.File))
		if after := arrays(g); after != before {
			t.Errorf("Print of %.300s: then %.300s", before, after)
		}
		if again, e2 := syntax.Print(f); again != s || e2 != e {
			t.Errorf("Print of %v: %q, %d, with room behind its lists %q, %d", f, again, e2, s, e)
		}
	})
}

// The lists of a tree belong to the caller alone, and no two of them share memory.
func TestI3TreesAreNew(t *testing.T) {
	eachFile(func(f api.File) {
		s := textAsSaid(reflect.ValueOf(f))
		g, _, _ := syntax.Parse(s)
		type place struct{ from, to uintptr }
		var places []place
		eachLeaf(reflect.ValueOf(&g).Elem(), func(v reflect.Value) {
			if v.Kind() == reflect.Slice && v.Cap() > 0 {
				from := v.Pointer()
				places = append(places, place{from, from + uintptr(v.Cap())*v.Type().Elem().Size()})
			}
		})
		slices.SortFunc(places, func(a, b place) int {
			if a.from < b.from {
				return -1
			}
			return 1
		})
		for i := 1; i < len(places); i++ {
			if places[i-1].to > places[i].from {
				t.Errorf("%q: two lists share memory", s)
			}
		}
		eachLeaf(reflect.ValueOf(&g).Elem(), func(v reflect.Value) {
			if v.Kind() == reflect.Slice {
				for i := range v.Cap() {
					v.Slice(0, v.Cap()).Index(i).Set(filler(v.Type().Elem()))
				}
			}
		})
		checkTree(t, s, f)
	})
}

// around is an expression that has itself as all of its arguments.
func around(op, n int) api.Expr {
	args := make([]api.Expr, n)
	for i := range args {
		args[i] = api.Expr{Op: op, Args: args}
	}
	return args[0]
}

// Trees without an end, very deep ones and very long ones have no text.
func TestP1NoPanic(t *testing.T) {
	for op := -1; op <= 20; op++ {
		for n := 1; n <= 4; n++ {
			e := around(op, n)
			checkNoText(t, wireOf(e))
			checkNoText(t, moduleOf(api.Item{Kind: api.IMem, Name: "m", A: ref("a"), B: ref("b"), C: e}))
			checkNoText(t, moduleOf(api.Item{Kind: api.IIn, Name: "a", C: e}))
			e.Name = "a"
			checkNoText(t, wireOf(e))
		}
		e := api.Expr{Op: op, Name: "a"}
		for range 100000 {
			e = api.Expr{Op: op, Name: "a", Args: []api.Expr{e, e, e}}
		}
		checkNoText(t, wireOf(e))
	}
	checkNoText(t, api.File{Modules: make([]api.Module, 100000)})
	checkNoText(t, moduleOf(make([]api.Item, 100000)...))
	checkNoText(t, moduleOf(api.Item{Kind: api.IIn, Name: strings.Repeat("a", 10000000)}))
	checkNoText(t, wireOf(api.Expr{Op: api.ERef, Name: "a", Args: make([]api.Expr, 100000)}))
	checkNoText(t, moduleOf(api.Item{Kind: api.IInst, Name: "a", Of: "b", Args: make([]api.Num, 100000), Ports: make([]api.Bind, 100000)}))
	r := source()
	for range 20000 {
		b := make([]byte, r.IntN(40))
		for i := range b {
			b[i] = byte(r.Uint32())
			if r.IntN(10) > 0 {
				b[i] = "module()@c{}in a:1;[]~+-"[r.IntN(24)]
			}
		}
		check(t, string(b))
	}
}
