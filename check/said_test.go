package check_test

import (
	"reflect"
	"regexp"
	"slices"
	"strconv"
	"strings"
	"testing"

	"wireloom/api"
	"wireloom/check"
)

var nameForm = regexp.MustCompile(`\A[a-z][a-z0-9]{0,15}\z`)

func isName(s string) bool { return nameForm.MatchString(s) }

// uses has the fields of an item with the expressions and with the numbers that it uses, by its kind.
var uses = map[int]struct{ exprs, nums string }{
	api.IIn: {"", "Width"}, api.IOut: {"", "Width"}, api.IChan: {"", "Width Depth"}, api.IReg: {"A", "Width Init"}, api.IWire: {"A", "Width"},
	api.IMem: {"A B C", "Width Depth"}, api.ITake: {"A", ""}, api.IPut: {"A B", ""}, api.IInst: {"", "Args"},
}

// takes has how many arguments an operator takes, and the fields with the numbers that are used.
var takes = map[int]struct {
	args int
	nums string
}{
	api.EConst: {0, "K W"}, api.ENot: {1, ""}, api.EAnd: {2, ""}, api.EOr: {2, ""}, api.EXor: {2, ""}, api.EAdd: {2, ""}, api.ESub: {2, ""}, api.EEq: {2, ""}, api.ELt: {2, ""},
	api.EMux: {3, ""}, api.ECat: {2, ""}, api.ESlice: {1, "K W"}, api.EExt: {1, "W"}, api.ERef: {0, ""}, api.EMem: {1, ""},
}

// fieldsOf returns the values of some fields, or the elements if these are lists.
func fieldsOf[T any](v any, names string) []T {
	var l []T
	for _, name := range strings.Fields(names) {
		switch x := reflect.ValueOf(v).FieldByName(name).Interface().(type) {
		case T:
			l = append(l, x)
		case []T:
			l = append(l, x...)
		}
	}
	return l
}

func wellFormed(e api.Expr) bool {
	operator, known := takes[e.Op]
	return known && len(e.Args) == operator.args && !slices.ContainsFunc(e.Args, func(arg api.Expr) bool { return !wellFormed(arg) })
}

// parts returns expressions and all expressions within them.
func parts(l []api.Expr) []api.Expr {
	all := slices.Clone(l)
	for _, e := range l {
		all = append(all, parts(e.Args)...)
	}
	return all
}

func partsOf(item api.Item) []api.Expr { return parts(fieldsOf[api.Expr](item, uses[item.Kind].exprs)) }

func numsOf(item api.Item) []api.Num {
	l := fieldsOf[api.Num](item, uses[item.Kind].nums)
	for _, e := range partsOf(item) {
		l = append(l, fieldsOf[api.Num](e, takes[e.Op].nums)...)
	}
	return l
}

// oneOfKinds says that a kind is in a list.
func oneOfKinds(kind int, l ...int) bool { return slices.Contains(l, kind) }

func declaring(item api.Item) bool {
	return oneOfKinds(item.Kind, api.IIn, api.IOut, api.IChan, api.IReg, api.IWire, api.IMem, api.IInst)
}

// referred returns the item that a name refers to; its kind is 0 if there is none.
func referred(m api.Module, name string) api.Item {
	for _, item := range m.Items {
		if declaring(item) && item.Name == name {
			return item
		}
	}
	return api.Item{}
}

func takesFrom(m api.Module, name string) bool {
	return slices.ContainsFunc(m.Items, func(item api.Item) bool { return item.Kind == api.ITake && item.Name == name })
}

// firstNamed returns the index of the first module with a name, or -1.
func firstNamed(f api.File, name string) int {
	return slices.IndexFunc(f.Modules, func(m api.Module) bool { return m.Name == name })
}

// endsOf counts what consumes a name in a module (with ITake and IIn), or fills it (with IPut and IOut).
func endsOf(f api.File, m api.Module, name string, kind, port int) int {
	n := 0
	for _, item := range m.Items {
		if item.Kind == kind && item.Name == name {
			n++
		}
		if item.Kind != api.IInst || firstNamed(f, item.Of) < 0 {
			continue
		}
		for _, b := range item.Ports {
			if b.Chan == name && referred(f.Modules[firstNamed(f, item.Of)], b.Port).Kind == port {
				n++
			}
		}
	}
	return n
}

func namesIn(l []api.Expr, ops ...int) []string {
	var names []string
	for _, e := range parts(l) {
		if slices.Contains(ops, e.Op) {
			names = append(names, e.Name)
		}
	}
	return names
}

// dependsOn returns the names that a wire depends on.
func dependsOn(m api.Module, wire api.Item) []string {
	all := namesIn([]api.Expr{wire.A}, api.ERef, api.EMem)
	for n := 0; n < len(all); n++ {
		if w := referred(m, all[n]); w.Kind == api.IWire {
			for _, name := range namesIn([]api.Expr{w.A}, api.ERef, api.EMem) {
				if !slices.Contains(all, name) {
					all = append(all, name)
				}
			}
		}
	}
	return all
}

// canReach says that a module can reach another one, in at most as many steps as there are modules.
func canReach(f api.File, from, to, steps int) bool {
	for _, item := range f.Modules[from].Items {
		if of := firstNamed(f, item.Of); item.Kind == api.IInst && of >= 0 {
			if of == to || steps > 1 && canReach(f, of, to, steps-1) {
				return true
			}
		}
	}
	return false
}

// problemsAsSaid goes through the chapter's table for each place, in order.
func problemsAsSaid(f api.File) []api.Problem {
	var l []api.Problem
	for k, m := range f.Modules {
		for code := 1; code <= 8; code++ {
			if headHas(f, k, code) {
				l = append(l, api.Problem{Code: code, Module: k, Item: -1})
			}
		}
		for i := range m.Items {
			for code := 1; code <= 8; code++ {
				if itemHas(f, m, i, code) {
					l = append(l, api.Problem{Code: code, Module: k, Item: i})
				}
			}
		}
	}
	return l
}

func headHas(f api.File, k, code int) bool {
	m := f.Modules[k]
	switch code {
	case 1:
		for i, p := range m.Params {
			if !isName(p) || slices.Contains(m.Params[:i], p) {
				return true
			}
		}
		return !isName(m.Name) || !isName(m.Clock) || firstNamed(f, m.Name) < k
	case 7:
		return canReach(f, k, k, len(f.Modules))
	}
	return false
}

func itemHas(f api.File, m api.Module, i, code int) bool {
	item := m.Items[i]
	switch code {
	case 1:
		earlier := slices.ContainsFunc(m.Items[:i], func(other api.Item) bool { return declaring(other) && other.Name == item.Name })
		return declaring(item) && (!isName(item.Name) || earlier || slices.Contains(m.Params, item.Name))
	case 2:
		_, known := uses[item.Kind]
		malformed := slices.ContainsFunc(fieldsOf[api.Expr](item, uses[item.Kind].exprs), func(e api.Expr) bool { return !wellFormed(e) })
		return !known || malformed || oneOfKinds(item.Kind, api.IReg, api.IMem) && !oneOfKinds(item.Rule.Kind, api.RInit, api.RKeep, api.RCopy, api.RAdd)
	case 3:
		return hasWrongNumber(m, item) || hasWrongName(f, m, item)
	case 4:
		return item.Kind == api.IWire && slices.Contains(dependsOn(m, item), item.Name)
	case 5:
		consumed, filled := endsOf(f, m, item.Name, api.ITake, api.IIn), endsOf(f, m, item.Name, api.IPut, api.IOut)
		return item.Kind == api.IIn && (consumed != 1 || filled > 0) || item.Kind == api.IOut && (filled != 1 || consumed > 0) || item.Kind == api.IChan && (consumed != 1 || filled != 1)
	case 6:
		return item.Kind == api.IInst && firstNamed(f, item.Of) >= 0 && !fits(f.Modules[firstNamed(f, item.Of)], item)
	case 8:
		return item.Kind == api.ITake && dependsOnWords(m, item)
	}
	return false
}

func hasWrongNumber(m api.Module, item api.Item) bool {
	return slices.ContainsFunc(numsOf(item), func(n api.Num) bool { return n.Param != "" && !slices.Contains(m.Params, n.Param) })
}

func hasWrongName(f api.File, m api.Module, item api.Item) bool {
	for _, e := range partsOf(item) {
		switch kind := referred(m, e.Name).Kind; e.Op {
		case api.ERef:
			if !oneOfKinds(kind, api.IReg, api.IWire) && !(oneOfKinds(kind, api.IIn, api.IChan) && takesFrom(m, e.Name)) {
				return true
			}
		case api.EMem:
			if kind != api.IMem {
				return true
			}
		}
	}
	switch item.Kind {
	case api.ITake:
		return !oneOfKinds(referred(m, item.Name).Kind, api.IIn, api.IChan)
	case api.IPut:
		return !oneOfKinds(referred(m, item.Name).Kind, api.IOut, api.IChan)
	case api.IInst:
		return firstNamed(f, item.Of) < 0 || slices.ContainsFunc(item.Ports, func(b api.Bind) bool {
			return !oneOfKinds(referred(m, b.Chan).Kind, api.IIn, api.IOut, api.IChan)
		})
	case api.IReg, api.IMem:
		return oneOfKinds(item.Rule.Kind, api.RCopy, api.RAdd) && !isName(item.Rule.From)
	}
	return false
}

// fits says that an instance has the arguments and the bindings that its module wants.
func fits(of api.Module, instance api.Item) bool {
	var ports, bound []string
	for _, item := range of.Items {
		if oneOfKinds(item.Kind, api.IIn, api.IOut) && !slices.Contains(ports, item.Name) {
			ports = append(ports, item.Name)
		}
	}
	for _, b := range instance.Ports {
		bound = append(bound, b.Port)
	}
	slices.Sort(ports)
	slices.Sort(bound)
	return len(instance.Args) == len(of.Params) && slices.Equal(ports, bound)
}

// dependsOnWords says that a reference of a take leads to a word that is taken.
func dependsOnWords(m api.Module, take api.Item) bool {
	isWord := func(name string) bool { return oneOfKinds(referred(m, name).Kind, api.IIn, api.IChan) }
	for _, name := range namesIn([]api.Expr{take.A}, api.ERef) {
		if w := referred(m, name); isWord(name) || w.Kind == api.IWire && slices.ContainsFunc(dependsOn(m, w), isWord) {
			return true
		}
	}
	return false
}

// problems reads a list like "1@head 5@0 | 2@3", which has the code and the item of each problem, and a | before each module but the first one.
func problems(s string) []api.Problem {
	var l []api.Problem
	module := 0
	for _, word := range strings.Fields(s) {
		code, item, found := strings.Cut(word, "@")
		if !found {
			module++
			continue
		}
		p := api.Problem{Module: module, Item: -1}
		p.Code, _ = strconv.Atoi(code)
		if item != "head" {
			p.Item, _ = strconv.Atoi(item)
		}
		l = append(l, p)
	}
	return l
}

// withCode returns the problems with a code.
func withCode(l []api.Problem, code int) []api.Problem {
	return slices.DeleteFunc(slices.Clone(l), func(p api.Problem) bool { return p.Code != code })
}

// checkFile compares the results for a file with each other and with the chapter, and returns the problems.
func checkFile(t *testing.T, f api.File) []api.Problem {
	t.Helper()
	got, want := check.Check(f), problemsAsSaid(f)
	if !slices.Equal(got, want) {
		t.Errorf("%+v: %v, want %v", f, got, want)
	}
	if check.Valid(f) != (len(want) == 0) {
		t.Errorf("%+v: valid %v, but %v", f, check.Valid(f), want)
	}
	return got
}

// checkProblems says that a file has these problems.
func checkProblems(t *testing.T, f api.File, want string) {
	t.Helper()
	if got := checkFile(t, f); !slices.Equal(got, problems(want)) {
		t.Errorf("%+v: %v, want %s", f, got, want)
	}
}

// checkCode says which problems with a code a file has; it may have others.
func checkCode(t *testing.T, f api.File, code int, want string) {
	t.Helper()
	if got := withCode(checkFile(t, f), code); !slices.Equal(got, problems(want)) {
		t.Errorf("%+v: %v, want %s", f, got, want)
	}
}
