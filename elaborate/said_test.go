package elaborate_test

import (
	"fmt"
	"reflect"
	"slices"
	"strings"
	"testing"

	"wireloom/api"
	"wireloom/bits"
	"wireloom/check"
	"wireloom/elaborate"
	"wireloom/syntax"
)

// The limits as the document gives them.
const (
	mostBits, mostRoom, mostProcs, mostChans, mostNodes = 8, 8, 8, 16, 200
	mostInstances, mostN, mostArg                       = 64, 1000000, 64
)

// uses has the fields with the numbers and with the expressions that an item uses, by its kind.
var uses = map[int]struct{ nums, exprs string }{
	api.IIn: {"Width", ""}, api.IOut: {"Width", ""}, api.IChan: {"Width Depth", ""}, api.IReg: {"Width Init", "A"}, api.IWire: {"Width", "A"},
	api.IMem: {"Width Depth", "A B C"}, api.ITake: {"", "A"}, api.IPut: {"", "A B"}, api.IInst: {"Args", ""},
}

// numbersOf has the fields with the numbers that an operator of source files uses, and operatorNumbers those of one of circuits.
var (
	numbersOf       = map[int]string{api.EConst: "K W", api.ESlice: "K W", api.EExt: "W"}
	operatorNumbers = map[int]string{api.EConst: "K W", api.ESlice: "K W", api.EExt: "W", api.EReg: "K", api.EData: "K", api.ERead: "K"}
)

// fieldsOf returns the values of some fields, or the elements if these are lists.
func fieldsOf[T any](v any, names string) []T {
	var l []T
	for _, name := range strings.Fields(names) {
		switch x := reflect.ValueOf(v).FieldByName(name).Interface().(type) {
		case T:
			l = append(l, x)
		case []T:
			l = append(l, x...)
		}
	}
	return l
}

// numsUsed returns the numbers that an item uses.
func numsUsed(item api.Item) []api.Num {
	l := fieldsOf[api.Num](item, uses[item.Kind].nums)
	exprs := fieldsOf[api.Expr](item, uses[item.Kind].exprs)
	for n := 0; n < len(exprs); n++ {
		l = append(l, fieldsOf[api.Num](exprs[n], numbersOf[exprs[n].Op])...)
		exprs = append(exprs, exprs[n].Args...)
	}
	return l
}

// placed is an instance of a design, with the values of its parameters.
type placed struct {
	path   string
	around int      // the instance with the item, or -1
	item   api.Item // the item
	m      api.Module
	args   []int
}

func (p placed) value(n api.Num) int {
	if at := slices.Index(p.m.Params, n.Param); at >= 0 {
		return n.N + p.args[at]
	}
	return n.N
}

// named returns the item that declares a name.
func (p placed) named(name string) api.Item {
	for _, item := range p.m.Items {
		if item.Name == name && item.Kind != api.ITake && item.Kind != api.IPut {
			return item
		}
	}
	return api.Item{}
}

// ofKind returns the items of some kinds, in order.
func ofKind(m api.Module, kinds ...int) []api.Item {
	return slices.DeleteFunc(slices.Clone(m.Items), func(item api.Item) bool { return !slices.Contains(kinds, item.Kind) })
}

func moduleNamed(f api.File, name string) (api.Module, bool) {
	for _, m := range f.Modules {
		if m.Name == name {
			return m, true
		}
	}
	return api.Module{}, false
}

// howMany counts an instance of a module and those within it, up to 1000.
func howMany(f api.File, name string, known map[string]int) int {
	if known[name] == 0 {
		m, _ := moduleNamed(f, name)
		n := 1
		for _, item := range ofKind(m, api.IInst) {
			n = min(n+howMany(f, item.Of, known), 1000)
		}
		known[name] = n
	}
	return known[name]
}

// within returns some instances, the last one of which is just placed, and those within that one.
func within(f api.File, l []placed) []placed {
	at := len(l) - 1
	p := l[at]
	for _, item := range ofKind(p.m, api.IInst) {
		of, _ := moduleNamed(f, item.Of)
		next := placed{path: p.path + "." + item.Name, around: at, item: item, m: of}
		for _, n := range item.Args {
			next.args = append(next.args, p.value(n))
		}
		l = within(f, append(l, next))
	}
	return l
}

// width is the width of an expression of an instance, or 0.
func (p placed) width(e api.Expr) int {
	var args []int
	for _, arg := range e.Args {
		args = append(args, p.width(arg))
	}
	switch {
	case e.Op == api.ERef, e.Op == api.EMem && args[0] != 0:
		return p.value(p.named(e.Name).Width)
	}
	w, _ := bits.Width(e.Op, args, [2]int{p.value(e.K), p.value(e.W)})
	return w
}

func isIn(n, least, most int) bool { return least <= n && n <= most }

// The lines of "consistent", for one item each.

func (p placed) hasNumbers(item api.Item) bool {
	return !slices.ContainsFunc(numsUsed(item), func(n api.Num) bool { return !isIn(n.N, -mostN, mostN) })
}

func (p placed) hasValues(item api.Item) bool {
	width, depth, init := p.value(item.Width), p.value(item.Depth), p.value(item.Init)
	switch item.Kind {
	case api.IIn, api.IOut, api.IWire:
		return isIn(width, 1, mostBits)
	case api.IChan:
		return isIn(width, 1, mostBits) && isIn(depth, 1, mostRoom)
	case api.IReg:
		return isIn(width, 1, mostBits) && isIn(init, 0, 1<<width-1)
	case api.IMem:
		return isIn(width, 1, mostBits) && slices.Contains([]int{1, 2, 4, 8}, depth)
	case api.IInst:
		return !slices.ContainsFunc(item.Args, func(n api.Num) bool { return !isIn(p.value(n), 0, mostArg) })
	}
	return true
}

func (p placed) hasWidths(item api.Item) bool {
	a, b, c := func() int { return p.width(item.A) }, func() int { return p.width(item.B) }, func() int { return p.width(item.C) }
	switch item.Kind {
	case api.IReg, api.IWire:
		return a() == p.value(item.Width)
	case api.IMem:
		return a() == 1 && b() != 0 && c() == p.value(item.Width)
	case api.ITake:
		return a() == 1
	case api.IPut:
		return a() == 1 && b() == p.value(p.named(item.Name).Width)
	}
	return true
}

// hasBindings says that the ports of an instance are as wide as what they are bound to in the one around it.
func (p placed) hasBindings(around placed) bool {
	return !slices.ContainsFunc(p.item.Ports, func(b api.Bind) bool {
		return p.value(p.named(b.Port).Width) != around.value(around.named(b.Chan).Width)
	})
}

func areConsistent(l []placed) bool {
	for _, p := range l {
		for _, line := range []func(api.Item) bool{p.hasNumbers, p.hasValues, p.hasWidths} {
			if slices.ContainsFunc(p.m.Items, func(item api.Item) bool { return !line(item) }) {
				return false
			}
		}
		if p.around >= 0 && !p.hasBindings(l[p.around]) {
			return false
		}
	}
	return true
}

// translated is an expression of an instance in a circuit.
func (p placed) translated(e api.Expr) api.Expr {
	index := func(kind int) api.Num {
		return num(slices.IndexFunc(ofKind(p.m, kind), func(item api.Item) bool { return item.Name == e.Name }))
	}
	out := api.Expr{Op: e.Op}
	switch e.Op {
	case api.ERef:
		switch item := p.named(e.Name); item.Kind {
		case api.IWire:
			return p.translated(item.A)
		case api.IReg:
			return api.Expr{Op: api.EReg, K: index(api.IReg)}
		}
		return api.Expr{Op: api.EData, K: index(api.ITake)}
	case api.EMem:
		out.Op, out.K = api.ERead, index(api.IMem)
	case api.EConst, api.ESlice:
		out.K, out.W = num(p.value(e.K)), num(p.value(e.W))
	case api.EExt:
		out.W = num(p.value(e.W))
	}
	for _, arg := range e.Args {
		out.Args = append(out.Args, p.translated(arg))
	}
	return out
}

// nodes counts the nodes of some expressions.
func nodes(l ...api.Expr) int {
	n := len(l)
	for _, e := range l {
		n += nodes(e.Args...)
	}
	return n
}

// exprsOf returns the expressions of a process.
func exprsOf(p api.Proc) []api.Expr {
	var l []api.Expr
	for _, x := range p.Regs {
		l = append(l, x.Next)
	}
	for _, x := range p.Mems {
		l = append(l, x.Enable, x.Addr, x.Data)
	}
	for _, x := range p.Takes {
		l = append(l, x.When)
	}
	for _, x := range p.Puts {
		l = append(l, x.When, x.Data)
	}
	return l
}

// channelOf returns the name of the channel that a port or channel of the instance n is.
func channelOf(l []placed, n int, name string) string {
	p := l[n]
	for _, b := range p.item.Ports {
		if b.Port == name {
			return channelOf(l, p.around, b.Chan)
		}
	}
	return p.path + "." + name
}

func chansOf(l []placed) []api.Chan {
	var chans []api.Chan
	for _, item := range ofKind(l[0].m, api.IIn, api.IOut) {
		chans = append(chans, api.Chan{Name: l[0].path + "." + item.Name, W: l[0].value(item.Width)})
	}
	for _, p := range l {
		for _, item := range ofKind(p.m, api.IChan) {
			chans = append(chans, api.Chan{Name: p.path + "." + item.Name, W: p.value(item.Width), Cap: p.value(item.Depth)})
		}
	}
	return chans
}

func procOf(l []placed, n int, chans []api.Chan) api.Proc {
	p := l[n]
	out := api.Proc{Name: p.path, Clock: p.m.Clock}
	for _, item := range ofKind(p.m, api.IReg) {
		out.Regs = append(out.Regs, api.Reg{Name: item.Name, W: p.value(item.Width), Init: p.value(item.Init), Next: p.translated(item.A), Rule: item.Rule})
	}
	for _, item := range ofKind(p.m, api.IMem) {
		out.Mems = append(out.Mems, api.Mem{Name: item.Name, W: p.value(item.Width), Words: p.value(item.Depth), Enable: p.translated(item.A), Addr: p.translated(item.B), Data: p.translated(item.C), Rule: item.Rule})
	}
	channel := func(item api.Item) int {
		return slices.IndexFunc(chans, func(c api.Chan) bool { return c.Name == channelOf(l, n, item.Name) })
	}
	for _, item := range ofKind(p.m, api.ITake) {
		out.Takes = append(out.Takes, api.Take{Chan: channel(item), W: chans[channel(item)].W, When: p.translated(item.A)})
	}
	for _, item := range ofKind(p.m, api.IPut) {
		out.Puts = append(out.Puts, api.Put{Chan: channel(item), W: chans[channel(item)].W, When: p.translated(item.A), Data: p.translated(item.B)})
	}
	return out
}

func isProcess(p placed) bool {
	return len(ofKind(p.m, api.IReg, api.IMem, api.ITake, api.IPut)) > 0
}

// circuitOf is the circuit of instances that are consistent.
func circuitOf(l []placed) api.Circuit {
	c := api.Circuit{Chans: chansOf(l)}
	for n, p := range l {
		if isProcess(p) {
			c.Procs = append(c.Procs, procOf(l, n, c.Chans))
		}
	}
	for k := range c.Chans {
		c.Chans[k].From = slices.IndexFunc(c.Procs, func(p api.Proc) bool {
			return slices.ContainsFunc(p.Puts, func(x api.Put) bool { return x.Chan == k })
		})
		c.Chans[k].To = slices.IndexFunc(c.Procs, func(p api.Proc) bool {
			return slices.ContainsFunc(p.Takes, func(x api.Take) bool { return x.Chan == k })
		})
	}
	return c
}

// startAsSaid returns the module top, or the first errors of K1 and K2.
func startAsSaid(f api.File, top string) (api.Module, api.Errno) {
	if len(check.Check(f)) > 0 {
		return api.Module{}, api.ErrCheck
	}
	m, found := moduleNamed(f, top)
	if !found {
		return api.Module{}, api.ErrNone
	}
	return m, api.OK
}

// elaborateAsSaid goes through K1.
func elaborateAsSaid(f api.File, top string, args []int) (api.Circuit, api.Errno) {
	m, e := startAsSaid(f, top)
	if e != api.OK {
		return api.Circuit{}, e
	}
	if len(args) != len(m.Params) || slices.ContainsFunc(args, func(v int) bool { return !isIn(v, 0, mostArg) }) {
		return api.Circuit{}, api.ErrArg
	}
	if howMany(f, top, map[string]int{}) > mostInstances {
		return api.Circuit{}, api.ErrBig
	}
	l := within(f, []placed{{path: top, around: -1, m: m, args: args}})
	procs := slices.DeleteFunc(slices.Clone(l), func(p placed) bool { return !isProcess(p) })
	if len(procs) > mostProcs || len(chansOf(l)) > mostChans {
		return api.Circuit{}, api.ErrBig
	}
	if !areConsistent(l) {
		return api.Circuit{}, api.ErrCircuit
	}
	c := circuitOf(l)
	if slices.ContainsFunc(c.Procs, func(p api.Proc) bool { return nodes(exprsOf(p)...) > mostNodes }) {
		return api.Circuit{}, api.ErrBig
	}
	return c, api.OK
}

// pathsAsSaid goes through K2.
func pathsAsSaid(f api.File, top string) ([]string, api.Errno) {
	m, e := startAsSaid(f, top)
	if e != api.OK {
		return nil, e
	}
	if howMany(f, top, map[string]int{}) > mostInstances {
		return nil, api.ErrBig
	}
	var paths []string
	for _, p := range within(f, []placed{{path: top, around: -1, m: m, args: make([]int, len(m.Params))}}) {
		paths = append(paths, p.path)
	}
	return paths, api.OK
}

// widthAsSaid is the width of an expression of a process, or 0.
func widthAsSaid(p api.Proc, e api.Expr) int {
	used := operatorNumbers[e.Op]
	if e.Name != "" || e.K.Param+e.W.Param != "" || e.K.N != 0 && !strings.Contains(used, "K") || e.W.N != 0 && !strings.Contains(used, "W") {
		return 0
	}
	var args []int
	for _, arg := range e.Args {
		args = append(args, widthAsSaid(p, arg))
	}
	var widths []int
	switch {
	case e.Op == api.EReg && len(args) == 0:
		for _, x := range p.Regs {
			widths = append(widths, x.W)
		}
	case e.Op == api.EData && len(args) == 0:
		for _, x := range p.Takes {
			widths = append(widths, x.W)
		}
	case e.Op == api.ERead && len(args) == 1 && args[0] != 0:
		for _, x := range p.Mems {
			widths = append(widths, x.W)
		}
	default:
		w, _ := bits.Width(e.Op, args, [2]int{e.K.N, e.W.N})
		return w
	}
	if !isIn(e.K.N, 0, len(widths)-1) || !isIn(widths[e.K.N], 1, mostBits) {
		return 0
	}
	return widths[e.K.N]
}

func hasData(e api.Expr) bool { return e.Op == api.EData || slices.ContainsFunc(e.Args, hasData) }

// procAsSaid says what of a valid process does not hold, or "".
func procAsSaid(p api.Proc) string {
	wrong := func(names ...any) string { return fmt.Sprint(names...) }
	w := func(e api.Expr) int { return widthAsSaid(p, e) }
	var names []string
	if nodes(exprsOf(p)...) > mostNodes {
		return wrong("nodes")
	}
	for i, x := range p.Regs {
		if !isIn(x.W, 1, mostBits) || !isIn(x.Init, 0, 1<<x.W-1) || w(x.Next) != x.W || !isIn(x.Rule.Kind, api.RInit, api.RAdd) || slices.Contains(names, x.Name) {
			return wrong("register ", i)
		}
		names = append(names, x.Name)
	}
	for i, x := range p.Mems {
		if !isIn(x.W, 1, mostBits) || !slices.Contains([]int{1, 2, 4, 8}, x.Words) || w(x.Enable) != 1 || w(x.Addr) == 0 || w(x.Data) != x.W || !isIn(x.Rule.Kind, api.RInit, api.RAdd) || slices.Contains(names, x.Name) {
			return wrong("memory ", i)
		}
		names = append(names, x.Name)
	}
	for i, x := range p.Takes {
		if x.Chan < 0 || !isIn(x.W, 1, mostBits) || w(x.When) != 1 || hasData(x.When) {
			return wrong("take ", i)
		}
	}
	for i, x := range p.Puts {
		if x.Chan < 0 || !isIn(x.W, 1, mostBits) || w(x.When) != 1 || w(x.Data) != x.W {
			return wrong("put ", i)
		}
	}
	return ""
}

// endsAsSaid says that one put, or take, has the channel k, with its width and in the process that should have it; none if this is -1.
func endsAsSaid(k, w, proc int, ends [][3]int) bool {
	ends = slices.DeleteFunc(slices.Clone(ends), func(end [3]int) bool { return end[0] != k })
	return proc == -1 && len(ends) == 0 || proc != -1 && len(ends) == 1 && ends[0] == [3]int{k, w, proc}
}

// circuitAsSaid says what of a valid circuit does not hold, or "".
func circuitAsSaid(c api.Circuit) string {
	wrong := func(names ...any) string { return fmt.Sprint(names...) }
	if len(c.Procs) > mostProcs || len(c.Chans) > mostChans {
		return wrong("too many")
	}
	var puts, takes [][3]int
	for i, p := range c.Procs {
		if s := procAsSaid(p); s != "" || slices.ContainsFunc(c.Procs[:i], func(q api.Proc) bool { return p.Name == q.Name }) {
			return wrong("process ", i, ": ", s)
		}
		for _, x := range p.Puts {
			puts = append(puts, [3]int{x.Chan, x.W, i})
		}
		for _, x := range p.Takes {
			takes = append(takes, [3]int{x.Chan, x.W, i})
		}
	}
	for k, x := range c.Chans {
		inside := x.From != -1 && x.To != -1
		if !isIn(x.W, 1, mostBits) || !isIn(x.From, -1, len(c.Procs)-1) || !isIn(x.To, -1, len(c.Procs)-1) || x.From == -1 && x.To == -1 || inside && !isIn(x.Cap, 1, mostRoom) || !inside && x.Cap != 0 || slices.ContainsFunc(c.Chans[:k], func(y api.Chan) bool { return x.Name == y.Name }) {
			return wrong("channel ", k)
		}
		if !endsAsSaid(k, x.W, x.From, puts) || !endsAsSaid(k, x.W, x.To, takes) {
			return wrong("ends of channel ", k)
		}
	}
	for _, end := range append(puts, takes...) {
		if !isIn(end[0], 0, len(c.Chans)-1) {
			return wrong("no channel ", end[0])
		}
	}
	return ""
}

// sameAs compares trees, for which a nil slice is the same as an empty one.
func sameAs(a, b any) bool {
	return reflect.DeepEqual(copied(reflect.ValueOf(a), 0).Interface(), copied(reflect.ValueOf(b), 0).Interface())
}

// written is the text of a file, or its tree if it has no text.
func written(f api.File) string {
	text, e := syntax.Print(f)
	if e != api.OK {
		return fmt.Sprintf("%.9999s", fmt.Sprintf("%+v", f))
	}
	return text
}

// checkDesign compares the results for a design with the chapter, and returns them.
func checkDesign(t *testing.T, f api.File, top string, args []int) (api.Circuit, api.Errno) {
	t.Helper()
	got, e := elaborate.Elaborate(f, top, args)
	if want, wantE := elaborateAsSaid(f, top, args); e != wantE || !sameAs(got, want) {
		t.Errorf("%s%v of %s:\n%d %s\nwant %d %s", top, args, written(f), e, show(got), wantE, show(want))
	}
	paths, e2 := elaborate.Paths(f, top)
	if want, wantE := pathsAsSaid(f, top); e2 != wantE || !slices.Equal(paths, want) {
		t.Errorf("paths of %s of %s: %d %v, want %d %v", top, written(f), e2, paths, wantE, want)
	}
	return got, e
}

// checkError says with which error a design is refused; it may be OK.
func checkError(t *testing.T, f api.File, top string, args []int, want api.Errno) {
	t.Helper()
	if _, e := checkDesign(t, f, top, args); e != want {
		t.Errorf("%s%v of %s: %d, want %d", top, args, written(f), e, want)
	}
}

// checkValid compares the results for a circuit with the chapter.
func checkValid(t *testing.T, c api.Circuit) bool {
	t.Helper()
	wrong := circuitAsSaid(c)
	if elaborate.Valid(c) != (wrong == "") {
		t.Errorf("%s\nvalid: %v, but %q", show(c), wrong != "", wrong)
	}
	return wrong == ""
}

// checkProc compares the results for a process with the chapter.
func checkProc(t *testing.T, p api.Proc) bool {
	t.Helper()
	wrong := procAsSaid(p)
	if elaborate.ValidProc(p) != (wrong == "") {
		t.Errorf("%s\nvalid: %v, but %q", show(api.Circuit{Procs: []api.Proc{p}}), wrong != "", wrong)
	}
	return wrong == ""
}

// checkWidth compares the width of an expression with the chapter, and returns it.
func checkWidth(t *testing.T, p api.Proc, e api.Expr) int {
	t.Helper()
	want, wantE := widthAsSaid(p, e), api.OK
	if want == 0 {
		wantE = api.ErrCircuit
	}
	if got, gotE := elaborate.Width(p, e); got != want || gotE != wantE {
		t.Errorf("%s in %+v: %d %d, want %d", showExpr(e), p, got, gotE, want)
	}
	return want
}

// operatorNames has the operators of circuits, and those of source files.
var operatorNames = map[int]string{
	api.EConst: "const", api.ENot: "not", api.EAnd: "and", api.EOr: "or", api.EXor: "xor", api.EAdd: "add", api.ESub: "sub", api.EEq: "eq", api.ELt: "lt",
	api.EMux: "mux", api.ECat: "cat", api.ESlice: "slice", api.EExt: "ext", api.ERef: "ref", api.EMem: "mem", api.EReg: "reg", api.ERead: "read", api.EData: "data",
}

// showExpr writes an expression like slice:K/W(reg:K), without numbers that are 0.
func showExpr(e api.Expr) string {
	s := operatorNames[e.Op]
	if s == "" {
		s = fmt.Sprint("?", e.Op)
	}
	if e.Name != "" {
		s += "'" + e.Name + "'"
	}
	if e.K != num(0) {
		s += fmt.Sprint(":", e.K.N, e.K.Param)
	}
	if e.W != num(0) {
		s += fmt.Sprint("/", e.W.N, e.W.Param)
	}
	if len(e.Args) == 0 {
		return s
	}
	var args []string
	for _, arg := range e.Args {
		args = append(args, showExpr(arg))
	}
	return s + "(" + strings.Join(args, " ") + ")"
}

// show writes a circuit, a line for each part.
func show(c api.Circuit) string {
	var s strings.Builder
	line := func(format string, args ...any) { fmt.Fprintf(&s, format+"\n", args...) }
	for _, x := range c.Chans {
		line("chan %s: %d [%d] %d to %d", x.Name, x.W, x.Cap, x.From, x.To)
	}
	for _, p := range c.Procs {
		line("proc %s @ %s", p.Name, p.Clock)
		for _, x := range p.Regs {
			line("reg %s: %d = %d -> %s %d %q %d", x.Name, x.W, x.Init, showExpr(x.Next), x.Rule.Kind, x.Rule.From, x.Rule.N)
		}
		for _, x := range p.Mems {
			line("mem %s: %d [%d] if %s at %s = %s %d %q %d", x.Name, x.W, x.Words, showExpr(x.Enable), showExpr(x.Addr), showExpr(x.Data), x.Rule.Kind, x.Rule.From, x.Rule.N)
		}
		for _, x := range p.Takes {
			line("take %d: %d if %s", x.Chan, x.W, showExpr(x.When))
		}
		for _, x := range p.Puts {
			line("put %d: %d if %s = %s", x.Chan, x.W, showExpr(x.When), showExpr(x.Data))
		}
	}
	return s.String()
}
