package check_test

import (
	"math"
	"math/rand/v2"
	"reflect"
	"slices"
	"strconv"
	"testing"

	"wireloom/api"
	"wireloom/syntax"
)

func source() *rand.Rand { return rand.New(rand.NewPCG(10, 54)) }

func oneOf[T any](r *rand.Rand, l ...T) T { return l[r.IntN(len(l))] }

// some returns up to two strings out of a list, perhaps one of them twice.
func some(r *rand.Rand, l ...string) []string {
	var few []string
	for range r.IntN(3) {
		few = append(few, oneOf(r, l...))
	}
	return few
}

func ref(name string) api.Expr { return api.Expr{Op: api.ERef, Name: name} }

func num(n int) api.Num { return api.Num{N: n} }

func node(op int, args ...api.Expr) api.Expr { return api.Expr{Op: op, Args: args} }

// one is the constant 1 with one bit.
var one = api.Expr{Op: api.EConst, K: num(1), W: num(1)}

// fileOf is the tree of a text.
func fileOf(t *testing.T, text string) api.File {
	t.Helper()
	f, at, e := syntax.Parse(text)
	if e != api.OK {
		t.Fatalf("%s: %d at %d", text, e, at)
	}
	return f
}

// inModule is a file with one module that has the parameter w and these items.
func inModule(t *testing.T, items string) api.File {
	t.Helper()
	return fileOf(t, "module m(w) @ k { "+items+" }")
}

// moduleOf is a file with one module that has the parameter w and these items.
func moduleOf(items ...api.Item) api.File {
	return api.File{Modules: []api.Module{{Name: "m", Clock: "k", Params: []string{"w"}, Items: items}}}
}

// itemOf is an item of a kind that has no problem but for where its name leads.
func itemOf(kind int, name string) api.Item {
	return api.Item{Kind: kind, Name: name, Width: num(1), Depth: num(2), Init: num(1), A: one, B: one, C: one, Of: "m"}
}

// builder adds items to a module such that it stays valid in the end.
type builder struct {
	r                    *rand.Rand
	m                    api.Module
	count                int
	unconsumed, unfilled []string
	quiet, all, mems     []string // what expressions may refer to if they must not depend on words, or may, and memories
}

func (b *builder) name() string {
	b.count++
	return string(rune('a'+b.count%7)) + strconv.Itoa(b.count/7)
}

func (b *builder) num() api.Num {
	n := api.Num{N: b.r.IntN(12) - 2}
	if len(b.m.Params) > 0 && b.r.IntN(3) == 0 {
		n.Param = oneOf(b.r, b.m.Params...)
	}
	return n
}

// anyNum is a number that is not used.
func (b *builder) anyNum() api.Num { return api.Num{N: b.r.IntN(3), Param: oneOf(b.r, "", "v", "W")} }

// anyExpr is an expression that is not used.
func (b *builder) anyExpr() api.Expr {
	return oneOf(b.r, api.Expr{}, ref("nothing"), node(77), node(api.EAdd, one), one, api.Expr{Op: api.EConst, K: b.anyNum()})
}

// item is an item whose fields are all set, whether it uses them or not.
func (b *builder) item(kind int, name string) api.Item {
	rule := api.Rule{Kind: b.r.IntN(7) - 2, From: oneOf(b.r, "", "old", "A"), N: b.r.IntN(5)}
	return api.Item{
		Kind: kind, Name: name, Width: b.anyNum(), Depth: b.anyNum(), Init: b.anyNum(),
		A: b.anyExpr(), B: b.anyExpr(), C: b.anyExpr(), Rule: rule, Of: oneOf(b.r, "", "m0", "m1", "nothing"),
		Args: []api.Num{b.anyNum()}, Ports: []api.Bind{{Port: "nothing", Chan: oneOf(b.r, "a1", "b1", "nothing")}},
	}
}

func (b *builder) rule() api.Rule {
	if b.r.IntN(2) == 0 {
		return api.Rule{Kind: oneOf(b.r, api.RInit, api.RKeep), From: oneOf(b.r, "", "A")}
	}
	return api.Rule{Kind: oneOf(b.r, api.RCopy, api.RAdd), From: oneOf(b.r, "a1", "old", "nothing")}
}

// expr is an expression with references to some names.
func (b *builder) expr(depth int, refs []string) api.Expr {
	e := api.Expr{Op: oneOf(b.r, api.EConst, api.ERef), Name: oneOf(b.r, "", "A"), K: b.anyNum(), W: b.anyNum()}
	if depth > 0 {
		e.Op = 1 + b.r.IntN(15)
	}
	if e.Op == api.ERef && len(refs) == 0 || e.Op == api.EMem && len(b.mems) == 0 {
		e.Op = api.EConst
	}
	switch e.Op {
	case api.EConst, api.ESlice:
		e.K, e.W = b.num(), b.num()
	case api.EExt:
		e.W = b.num()
	case api.ERef:
		e.Name = oneOf(b.r, refs...)
	case api.EMem:
		e.Name = oneOf(b.r, b.mems...)
	}
	for range takes[e.Op].args {
		e.Args = append(e.Args, b.expr(depth-1, refs))
	}
	return e
}

// end takes the name of a port or channel out of a list, to which one is added if need be.
func (b *builder) end(list *[]string, kind int) string {
	if len(*list) == 0 || b.r.IntN(2) == 0 {
		b.port(oneOf(b.r, kind, api.IChan))
	}
	name := (*list)[len(*list)-1]
	*list = (*list)[:len(*list)-1]
	return name
}

// port adds a port or a channel.
func (b *builder) port(kind int) {
	item := b.item(kind, b.name())
	item.Width = b.num()
	if kind == api.IChan {
		item.Depth = b.num()
	}
	if kind != api.IIn {
		b.unfilled = append(b.unfilled, item.Name)
	}
	if kind != api.IOut {
		b.unconsumed = append(b.unconsumed, item.Name)
	}
	b.m.Items = append(b.m.Items, item)
}

func (b *builder) instance(of api.Module) {
	item := b.item(api.IInst, b.name())
	item.Of, item.Args, item.Ports = of.Name, nil, nil
	for range of.Params {
		item.Args = append(item.Args, b.num())
	}
	for _, port := range of.Items {
		switch port.Kind {
		case api.IIn:
			item.Ports = append(item.Ports, api.Bind{Port: port.Name, Chan: b.end(&b.unconsumed, api.IIn)})
		case api.IOut:
			item.Ports = append(item.Ports, api.Bind{Port: port.Name, Chan: b.end(&b.unfilled, api.IOut)})
		}
	}
	b.r.Shuffle(len(item.Ports), reflect.Swapper(item.Ports))
	b.m.Items = append(b.m.Items, item)
}

// values adds registers, memories and wires, of which the last ones may depend on words that are taken.
func (b *builder) values() {
	first := len(b.m.Items)
	for range b.r.IntN(3) {
		item := b.item(api.IReg, b.name())
		item.Width, item.Init, item.Rule = b.num(), b.num(), b.rule()
		b.m.Items, b.quiet = append(b.m.Items, item), append(b.quiet, item.Name)
	}
	for range b.r.IntN(2) {
		item := b.item(api.IMem, b.name())
		item.Width, item.Depth, item.Rule = b.num(), b.num(), b.rule()
		b.m.Items, b.mems = append(b.m.Items, item), append(b.mems, item.Name)
	}
	for range b.r.IntN(3) {
		b.wire(&b.quiet)
	}
	b.all = slices.Concat(b.quiet, b.unconsumed)
	for range b.r.IntN(3) {
		b.wire(&b.all)
	}
	for i, item := range b.m.Items[first:] {
		if item.Kind != api.IWire {
			b.m.Items[first+i].A = b.expr(2, b.all)
		}
		if item.Kind == api.IMem {
			b.m.Items[first+i].B, b.m.Items[first+i].C = b.expr(1, b.all), b.expr(2, b.all)
		}
	}
}

func (b *builder) wire(refs *[]string) {
	item := b.item(api.IWire, b.name())
	item.Width, item.A = b.num(), b.expr(2, *refs)
	b.m.Items, *refs = append(b.m.Items, item), append(*refs, item.Name)
}

// takesAndPuts adds them where no instance consumes or fills.
func (b *builder) takesAndPuts() {
	for _, name := range b.unconsumed {
		item := b.item(api.ITake, name)
		item.A = b.expr(2, b.quiet)
		b.m.Items = append(b.m.Items, item)
	}
	for _, name := range b.unfilled {
		item := b.item(api.IPut, name)
		item.A, item.B = b.expr(2, b.all), b.expr(2, b.all)
		b.m.Items = append(b.m.Items, item)
	}
}

// validModule is a module that may have instances of others.
func validModule(r *rand.Rand, name string, others []api.Module) api.Module {
	b := &builder{r: r, m: api.Module{Name: name, Clock: oneOf(r, "k", "a1", name)}}
	for k := range r.IntN(3) {
		b.m.Params = append(b.m.Params, "p"+strconv.Itoa(k))
	}
	b.count = r.IntN(3)
	for range r.IntN(4) {
		b.port(oneOf(r, api.IIn, api.IOut, api.IChan))
	}
	if len(others) > 0 {
		for range r.IntN(3) {
			b.instance(oneOf(r, others...))
		}
	}
	b.values()
	b.takesAndPuts()
	r.Shuffle(len(b.m.Items), reflect.Swapper(b.m.Items))
	return b.m
}

// validFile is a file without problems; its modules have instances of each other.
func validFile(r *rand.Rand) api.File {
	var f api.File
	for k := range r.IntN(5) {
		f.Modules = append(f.Modules, validModule(r, "m"+strconv.Itoa(k), f.Modules))
	}
	r.Shuffle(len(f.Modules), reflect.Swapper(f.Modules))
	return f
}

// wildExpr is an expression that is well-formed most of the time.
func wildExpr(r *rand.Rand, depth int) api.Expr {
	e := api.Expr{Op: oneOf(r, api.ERef, api.ERef, api.ERef, api.EConst, api.EMem), Name: oneOf(r, "a", "b", "d", "e", "w"), K: wildNum(r), W: wildNum(r)}
	if depth > 0 && r.IntN(2) == 0 {
		e.Op = r.IntN(19)
	}
	args := takes[e.Op].args
	if r.IntN(20) == 0 {
		args = r.IntN(5)
	}
	for range args {
		e.Args = append(e.Args, wildExpr(r, depth-1))
	}
	return e
}

func wildNum(r *rand.Rand) api.Num {
	return api.Num{N: r.IntN(3), Param: oneOf(r, "", "", "", "", "w", "w", "v", "a")}
}

// wildItem is an item whose names are often those of others.
func wildItem(r *rand.Rand) api.Item {
	item := api.Item{
		Kind: 1 + r.IntN(9), Name: oneOf(r, "a", "b", "d", "e", "g"), Width: wildNum(r), Depth: wildNum(r), Init: wildNum(r),
		A: wildExpr(r, 2), B: wildExpr(r, 1), C: wildExpr(r, 1), Of: oneOf(r, "m", "n", "o", "q"),
		Rule: api.Rule{Kind: r.IntN(4), From: oneOf(r, "a", "zz", "zz", "zz", "")},
	}
	if r.IntN(20) == 0 {
		item.Kind, item.Name, item.Rule.Kind = r.IntN(12)-1, oneOf(r, "", "A", "w"), r.IntN(8)-2
	}
	for range r.IntN(2) {
		item.Args = append(item.Args, wildNum(r))
	}
	for range r.IntN(3) {
		item.Ports = append(item.Ports, api.Bind{Port: oneOf(r, "a", "b", "d", "e"), Chan: oneOf(r, "a", "b", "d", "e", "g")})
	}
	return item
}

// wildFile is a file whose modules and items have the same few names.
func wildFile(r *rand.Rand) api.File {
	f := api.File{Modules: make([]api.Module, r.IntN(4))}
	for k := range f.Modules {
		m := api.Module{Name: oneOf(r, "m", "n", "o"), Clock: "k", Items: make([]api.Item, r.IntN(7))}
		if r.IntN(20) == 0 {
			m.Name, m.Clock = oneOf(r, "m", "M", ""), oneOf(r, "k", "1", "")
		}
		m.Params = some(r, "w", "w", "v", "a", "B")
		for i := range m.Items {
			m.Items[i] = wildItem(r)
		}
		f.Modules[k] = m
	}
	return f
}

// eachLeaf calls f for all strings, numbers and lists of a tree that can be changed.
func eachLeaf(v reflect.Value, f func(v reflect.Value)) {
	switch v.Kind() {
	case reflect.Struct:
		for i := range v.NumField() {
			eachLeaf(v.Field(i), f)
		}
	case reflect.Slice:
		for i := range v.Len() {
			eachLeaf(v.Index(i), f)
		}
		f(v)
	default:
		f(v)
	}
}

func leavesOf(f *api.File) []reflect.Value {
	var l []reflect.Value
	eachLeaf(reflect.ValueOf(f).Elem(), func(v reflect.Value) { l = append(l, v) })
	return l
}

// copied is a tree with new lists, which have room behind their ends for so many elements, with values that no tree has.
func copied(v reflect.Value, room int) reflect.Value {
	c := reflect.New(v.Type()).Elem()
	c.Set(v)
	switch v.Kind() {
	case reflect.Slice:
		l := reflect.MakeSlice(v.Type(), v.Len(), v.Len()+room)
		for i := range v.Len() {
			l.Index(i).Set(copied(v.Index(i), room))
		}
		for i := range room {
			fill(l.Slice(0, l.Cap()).Index(v.Len() + i))
		}
		c.Set(l)
	case reflect.Struct:
		for i := range v.NumField() {
			c.Field(i).Set(copied(v.Field(i), room))
		}
	}
	return c
}

func fill(v reflect.Value) {
	eachLeaf(v, func(v reflect.Value) {
		switch v.Kind() {
		case reflect.String:
			v.SetString("room!")
		case reflect.Int:
			v.SetInt(-77)
		}
	})
}

func copyOf(f api.File) api.File { return copied(reflect.ValueOf(f), 0).Interface().(api.File) }

// someNames returns the names that items and modules of a file have, and others.
func someNames(f api.File) []string {
	l := []string{"", "a", "zz", "A", "a_", "p0", "p1"}
	for _, m := range f.Modules {
		l = append(l, m.Name)
		for _, item := range m.Items {
			l = append(l, item.Name)
		}
	}
	slices.Sort(l)
	return slices.Compact(l)
}

// changes returns other values for a string, a number or a list.
func changes(v reflect.Value, names []string) []reflect.Value {
	var all []reflect.Value
	switch v.Kind() {
	case reflect.String:
		for _, name := range names {
			all = append(all, reflect.ValueOf(name))
		}
	case reflect.Int:
		for n := -1; n < 19; n++ {
			all = append(all, reflect.ValueOf(n))
		}
		all = append(all, reflect.ValueOf(math.MinInt), reflect.ValueOf(math.MaxInt))
	default:
		for i := range v.Len() {
			without := reflect.AppendSlice(reflect.MakeSlice(v.Type(), 0, v.Len()), v.Slice(0, i))
			all = append(all, v.Slice(0, i), reflect.AppendSlice(without, v.Slice(i+1, v.Len())))
		}
		for _, more := range append(elements(v), reflect.Zero(v.Type().Elem())) {
			l := reflect.AppendSlice(reflect.MakeSlice(v.Type(), 0, v.Len()+1), v)
			all = append(all, reflect.Append(l, more))
		}
	}
	return all
}

func elements(v reflect.Value) []reflect.Value {
	var l []reflect.Value
	for i := range v.Len() {
		l = append(l, v.Index(i))
	}
	return l
}

// changed is a file with up to n changes.
func changed(r *rand.Rand, f api.File, n int) api.File {
	f = copyOf(f)
	for range r.IntN(n + 1) {
		v := oneOf(r, leavesOf(&f)...)
		if l := changes(v, someNames(f)); len(l) > 0 {
			v.Set(oneOf(r, l...))
		}
	}
	return f
}

// eachFile calls f for files with and without problems.
func eachFile(f func(r *rand.Rand, file api.File)) {
	r := source()
	f(r, api.File{})
	f(r, moduleOf())
	for range 2000 {
		file := validFile(r)
		f(r, file)
		f(r, changed(r, file, 1))
		f(r, changed(r, file, 6))
		f(r, wildFile(r))
	}
}
