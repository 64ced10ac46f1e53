package elaborate_test

import (
	"math"
	"math/rand/v2"
	"reflect"
	"slices"
	"strconv"
	"strings"
	"testing"

	"wireloom/api"
	"wireloom/syntax"
)

func source() *rand.Rand { return rand.New(rand.NewPCG(11, 54)) }

func oneOf[T any](r *rand.Rand, l ...T) T { return l[r.IntN(len(l))] }

func num(n int) api.Num { return api.Num{N: n} }

func ref(name string) api.Expr { return api.Expr{Op: api.ERef, Name: name} }

func constant(k, w int) api.Expr { return api.Expr{Op: api.EConst, K: num(k), W: num(w)} }

func node(op int, args ...api.Expr) api.Expr { return api.Expr{Op: op, Args: args} }

// one is the constant 1 with one bit.
var one = constant(1, 1)

// fileOf is the tree of a text, in which tabs are as good as blanks.
func fileOf(t *testing.T, text string) api.File {
	t.Helper()
	f, at, e := syntax.Parse(strings.ReplaceAll(text, "\t", " "))
	if e != api.OK {
		t.Fatalf("%s: %d at %d", text, e, at)
	}
	return f
}

// model is a module that is consistent with these values of its parameters.
type model struct {
	api.Module
	values []int
}

// builder adds items to a model such that it stays valid and consistent in the end.
type builder struct {
	r                    *rand.Rand
	m                    model
	widths               map[string]int
	unconsumed, unfilled []string
	quiet, all, mems     []string // what expressions may refer to if they must not depend on words, or may, and memories
}

func (b *builder) width() int { return 1 + b.r.IntN(mostBits) }

// name is a new name of something with a width.
func (b *builder) name(w int) string {
	name := string(rune('a'+len(b.widths)%7)) + strconv.Itoa(len(b.widths)/7)
	b.widths[name] = w
	return name
}

// num is a number with a value.
func (b *builder) num(v int) api.Num {
	if k := b.r.IntN(4); k < len(b.m.Params) {
		return api.Num{N: v - b.m.values[k], Param: b.m.Params[k]}
	}
	return num(v)
}

// anyNum is a number that is not used.
func (b *builder) anyNum() api.Num {
	return api.Num{N: oneOf(b.r, 0, 1, -1, 3, mostN+1, math.MinInt, math.MaxInt), Param: oneOf(b.r, "", "p0", "v", "W")}
}

// anyExpr is an expression that is not used.
func (b *builder) anyExpr() api.Expr {
	return oneOf(b.r, api.Expr{}, ref("nothing"), node(77), node(api.EAdd, one), one, api.Expr{Op: api.EConst, K: b.anyNum()})
}

// item is an item whose fields are all set, whether it uses them or not.
func (b *builder) item(kind int, name string) api.Item {
	rule := api.Rule{Kind: b.r.IntN(7) - 2, From: oneOf(b.r, "", "old", "A"), N: b.r.IntN(5)}
	return api.Item{
		Kind: kind, Name: name, Width: b.anyNum(), Depth: b.anyNum(), Init: b.anyNum(),
		A: b.anyExpr(), B: b.anyExpr(), C: b.anyExpr(), Rule: rule, Of: oneOf(b.r, "", "m0", "m1", "nothing"),
		Args: []api.Num{b.anyNum()}, Ports: []api.Bind{{Port: "nothing", Chan: oneOf(b.r, "a0", "b0", "nothing")}},
	}
}

func (b *builder) add(item api.Item) { b.m.Items = append(b.m.Items, item) }

func (b *builder) rule() api.Rule {
	return api.Rule{Kind: oneOf(b.r, api.RInit, api.RKeep, api.RCopy, api.RAdd), From: oneOf(b.r, "a0", "old", "nothing"), N: b.r.IntN(900) - 5}
}

// wide returns the names of a list with a width.
func (b *builder) wide(w int, names []string) []string {
	return slices.DeleteFunc(slices.Clone(names), func(name string) bool { return b.widths[name] != w })
}

// operators returns operators whose results have a width.
func (b *builder) operators(w int) []int {
	ops := []int{api.ENot, api.EAnd, api.EOr, api.EXor, api.EAdd, api.ESub, api.EMux, api.ESlice, api.EExt}
	if w == 1 {
		ops = append(ops, api.EEq, api.ELt)
	} else {
		ops = append(ops, api.ECat)
	}
	if len(b.wide(w, b.mems)) > 0 {
		ops = append(ops, api.EMem)
	}
	return ops
}

// expr is an expression with a width and with references to some names.
func (b *builder) expr(w, depth int, refs []string) api.Expr {
	fitting := b.wide(w, refs)
	ops := []int{api.EConst}
	if len(fitting) > 0 {
		ops = append(ops, api.ERef, api.ERef)
	}
	if depth > 0 {
		ops = append(ops, b.operators(w)...)
	}
	e := api.Expr{Op: oneOf(b.r, ops...), Name: oneOf(b.r, "", "A", "a0"), K: b.anyNum(), W: b.anyNum()}
	args := []int{w, w}
	switch e.Op {
	case api.EConst:
		e.K, e.W, args = b.num(b.r.IntN(1<<w)), b.num(w), nil
	case api.ERef:
		e.Name, args = oneOf(b.r, fitting...), nil
	case api.EMem:
		e.Name, args = oneOf(b.r, b.wide(w, b.mems)...), []int{b.width()}
	case api.ENot:
		args = []int{w}
	case api.EMux:
		args = []int{1, w, w}
	case api.EEq, api.ELt:
		n := b.width()
		args = []int{n, n}
	case api.ECat:
		n := 1 + b.r.IntN(w-1)
		args = []int{n, w - n}
	case api.ESlice:
		n := w + b.r.IntN(mostBits+1-w)
		e.K, e.W, args = b.num(b.r.IntN(n-w+1)), b.num(w), []int{n}
	case api.EExt:
		e.W, args = b.num(w), []int{1 + b.r.IntN(w)}
	}
	for _, n := range args {
		e.Args = append(e.Args, b.expr(n, depth-1, refs))
	}
	return e
}

// port adds a port or a channel with a width.
func (b *builder) port(kind, w int) {
	item := b.item(kind, b.name(w))
	item.Width = b.num(w)
	if kind == api.IChan {
		item.Depth = b.num(1 + b.r.IntN(mostRoom))
	}
	if kind != api.IIn {
		b.unfilled = append(b.unfilled, item.Name)
	}
	if kind != api.IOut {
		b.unconsumed = append(b.unconsumed, item.Name)
	}
	b.add(item)
}

// end takes a name with a width out of a list of ports and channels, to which one is added if need be.
func (b *builder) end(list *[]string, kind, w int) string {
	if len(b.wide(w, *list)) == 0 || b.r.IntN(3) == 0 {
		b.port(oneOf(b.r, kind, api.IChan), w)
	}
	name := oneOf(b.r, b.wide(w, *list)...)
	*list = slices.DeleteFunc(*list, func(other string) bool { return other == name })
	return name
}

func (b *builder) instance(of model) {
	item := b.item(api.IInst, b.name(0))
	item.Of, item.Args, item.Ports = of.Name, nil, nil
	for _, v := range of.values {
		item.Args = append(item.Args, b.num(v))
	}
	inside := placed{m: of.Module, args: of.values}
	for _, port := range of.Items {
		switch w := inside.value(port.Width); port.Kind {
		case api.IIn:
			item.Ports = append(item.Ports, api.Bind{Port: port.Name, Chan: b.end(&b.unconsumed, api.IIn, w)})
		case api.IOut:
			item.Ports = append(item.Ports, api.Bind{Port: port.Name, Chan: b.end(&b.unfilled, api.IOut, w)})
		}
	}
	b.r.Shuffle(len(item.Ports), reflect.Swapper(item.Ports))
	b.add(item)
}

// register, memory and wire add an item; what it needs is added when all names are known.
func (b *builder) register() {
	w := b.width()
	item := b.item(api.IReg, b.name(w))
	item.Width, item.Init, item.Rule = b.num(w), b.num(b.r.IntN(1<<w)), b.rule()
	b.quiet = append(b.quiet, item.Name)
	b.add(item)
}

func (b *builder) memory() {
	w := b.width()
	item := b.item(api.IMem, b.name(w))
	item.Width, item.Depth, item.Rule = b.num(w), b.num(oneOf(b.r, 1, 2, 4, 8)), b.rule()
	b.mems = append(b.mems, item.Name)
	b.add(item)
}

func (b *builder) wire(refs *[]string) {
	w := b.width()
	item := b.item(api.IWire, b.name(w))
	item.Width, item.A = b.num(w), b.expr(w, 2, *refs)
	*refs = append(*refs, item.Name)
	b.add(item)
}

// values adds registers, memories and wires, of which the last ones may depend on words that are taken.
func (b *builder) values() {
	first := len(b.m.Items)
	for range b.r.IntN(3) {
		b.register()
	}
	for range b.r.IntN(3) {
		b.memory()
	}
	for range b.r.IntN(3) {
		b.wire(&b.quiet)
	}
	b.all = slices.Concat(b.quiet, b.unconsumed)
	for range b.r.IntN(4) {
		b.wire(&b.all)
	}
	for i, item := range b.m.Items[first:] {
		w := b.widths[item.Name]
		switch item.Kind {
		case api.IReg:
			b.m.Items[first+i].A = b.expr(w, 2, b.all)
		case api.IMem:
			b.m.Items[first+i].A, b.m.Items[first+i].B, b.m.Items[first+i].C = b.expr(1, 2, b.all), b.expr(b.width(), 1, b.all), b.expr(w, 2, b.all)
		}
	}
}

// takesAndPuts adds them where no instance consumes or fills.
func (b *builder) takesAndPuts() {
	for _, name := range b.unconsumed {
		item := b.item(api.ITake, name)
		item.A = b.expr(1, 2, b.quiet)
		b.add(item)
	}
	for _, name := range b.unfilled {
		item := b.item(api.IPut, name)
		item.A, item.B = b.expr(1, 2, b.all), b.expr(b.widths[name], 2, b.all)
		b.add(item)
	}
}

// modelOf is a model that may have instances of others.
func modelOf(r *rand.Rand, name string, others []model) model {
	b := &builder{r: r, widths: map[string]int{}}
	b.m.Name, b.m.Clock = name, oneOf(r, "k", "a1", name)
	for k := range r.IntN(3) {
		b.m.Params, b.m.values = append(b.m.Params, "p"+strconv.Itoa(k)), append(b.m.values, r.IntN(9))
	}
	for range r.IntN(3) {
		b.port(oneOf(r, api.IIn, api.IOut, api.IChan), b.width())
	}
	if len(others) > 0 {
		for range r.IntN(4) {
			b.instance(oneOf(r, others...))
		}
	}
	if r.IntN(4) > 0 {
		b.values()
	}
	b.takesAndPuts()
	r.Shuffle(len(b.m.Items), reflect.Swapper(b.m.Items))
	return b.m
}

// modelsOf is some models that have instances of earlier ones.
func modelsOf(r *rand.Rand) []model {
	var l []model
	for k := range 1 + r.IntN(4) {
		l = append(l, modelOf(r, "m"+strconv.Itoa(k), l))
	}
	return l
}

// fileWith is a file with the modules of models, in any order.
func fileWith(r *rand.Rand, l []model) api.File {
	var f api.File
	for _, m := range l {
		f.Modules = append(f.Modules, m.Module)
	}
	r.Shuffle(len(f.Modules), reflect.Swapper(f.Modules))
	return f
}

// eachLeaf calls f for all strings, numbers and lists of a tree that can be changed.
func eachLeaf(v reflect.Value, f func(v reflect.Value)) {
	switch v.Kind() {
	case reflect.Struct:
		for i := range v.NumField() {
			eachLeaf(v.Field(i), f)
		}
	case reflect.Slice:
		for i := range v.Len() {
			eachLeaf(v.Index(i), f)
		}
		f(v)
	default:
		f(v)
	}
}

// leavesOf returns all strings, numbers and lists of what a pointer leads to.
func leavesOf(pointer any) []reflect.Value {
	var l []reflect.Value
	eachLeaf(reflect.ValueOf(pointer).Elem(), func(v reflect.Value) { l = append(l, v) })
	return l
}

// copied is a tree with new lists, which have room behind their ends for so many elements, with values that no tree has.
func copied(v reflect.Value, room int) reflect.Value {
	c := reflect.New(v.Type()).Elem()
	c.Set(v)
	switch v.Kind() {
	case reflect.Slice:
		l := reflect.MakeSlice(v.Type(), v.Len(), v.Len()+room)
		for i := range v.Len() {
			l.Index(i).Set(copied(v.Index(i), room))
		}
		for i := range room {
			fill(l.Slice(0, l.Cap()).Index(v.Len() + i))
		}
		c.Set(l)
	case reflect.Struct:
		for i := range v.NumField() {
			c.Field(i).Set(copied(v.Field(i), room))
		}
	}
	return c
}

func fill(v reflect.Value) {
	eachLeaf(v, func(v reflect.Value) {
		switch v.Kind() {
		case reflect.String:
			v.SetString("room!")
		case reflect.Int:
			v.SetInt(-77)
		}
	})
}

func copyOf[T any](tree T) T { return copied(reflect.ValueOf(tree), 0).Interface().(T) }

// numbersIn returns the numbers that the items of a file use.
func numbersIn(f *api.File) []*api.Num {
	var l []*api.Num
	var visit func(v reflect.Value)
	visit = func(v reflect.Value) {
		switch x := v.Addr().Interface().(type) {
		case *api.Num:
			l = append(l, x)
		case *api.Item:
			eachField(v, uses[x.Kind].nums+" "+uses[x.Kind].exprs, visit)
		case *api.Expr:
			eachField(v, numbersOf[x.Op]+" Args", visit)
		}
	}
	for k := range f.Modules {
		for i := range f.Modules[k].Items {
			visit(reflect.ValueOf(&f.Modules[k].Items[i]).Elem())
		}
	}
	return l
}

// eachField calls f for some fields, or for the elements if these are lists.
func eachField(v reflect.Value, names string, f func(v reflect.Value)) {
	for _, name := range strings.Fields(names) {
		field := v.FieldByName(name)
		if field.Kind() != reflect.Slice {
			f(field)
			continue
		}
		for i := range field.Len() {
			f(field.Index(i))
		}
	}
}

// renumbered is a file with up to n other numbers.
func renumbered(r *rand.Rand, f api.File, n int) api.File {
	f = copyOf(f)
	for range 1 + r.IntN(n) {
		x := oneOf(r, numbersIn(&f)...)
		x.N = oneOf(r, x.N-1, x.N+1, x.N+1, r.IntN(10), -mostN, mostN+1, math.MaxInt)
	}
	return f
}

// eachDesign calls f for designs, of which the first one of each file has no error but perhaps ErrBig.
func eachDesign(n int, f func(r *rand.Rand, file api.File, top string, args []int)) {
	r := source()
	for range n {
		l := modelsOf(r)
		file := fileWith(r, l)
		top := l[len(l)-1]
		f(r, file, top.Name, top.values)
		some := oneOf(r, l...)
		f(r, file, some.Name, some.values)
		if len(numbersIn(&file)) > 0 {
			f(r, renumbered(r, file, 1), some.Name, some.values)
			f(r, renumbered(r, file, 3), top.Name, top.values)
		}
	}
}
