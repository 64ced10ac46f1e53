package syntax_test

import (
	"math/rand/v2"
	"reflect"
	"regexp"
	"slices"
	"strconv"
	"strings"
	"testing"

	"wireloom/api"
	"wireloom/lexer"
	"wireloom/syntax"
)

// The limits as the document gives them.
const (
	mostBytes  = 8000
	mostNumber = 1000000
	mostDepth  = 8
)

func source() *rand.Rand { return rand.New(rand.NewPCG(9, 54)) }

// The reserved words as the chapter lists them.
var reserved = strings.Fields("module in out chan reg wire mem take put inst if at init keep copy add")

var nameForm = regexp.MustCompile(`\A[a-z][a-z0-9]*\z`)

func isName(s string) bool { return nameForm.MatchString(s) && !slices.Contains(reserved, s) }

// form is a way to write a struct, as in the chapter's example: what begins with a capital letter is a field, all else stands there as it is.
// The field Kind or Op has the value kind; of a number, kind is the sign of N behind a parameter.
type form struct {
	kind int
	text string
}

// forms is the grammar: the forms of each struct of a tree.
var forms = map[reflect.Type][]form{
	reflect.TypeFor[api.File]():   {{0, "Modules"}},
	reflect.TypeFor[api.Module](): {{0, "module Name(Params) @ Clock {\nItems}\n"}},
	reflect.TypeFor[api.Item](): {
		{api.IIn, "  in Name: Width;\n"}, {api.IOut, "  out Name: Width;\n"}, {api.IChan, "  chan Name: Width [Depth];\n"},
		{api.IReg, "  reg Name: Width = Init -> A Rule;\n"}, {api.IWire, "  wire Name: Width = A;\n"},
		{api.IMem, "  mem Name: Width [Depth] if A at B = C Rule;\n"}, {api.ITake, "  take Name if A;\n"},
		{api.IPut, "  put Name if A = B;\n"}, {api.IInst, "  inst Name: Of(Args) (Ports);\n"},
	},
	reflect.TypeFor[api.Bind](): {{0, "Port = Chan"}},
	reflect.TypeFor[api.Rule](): {{api.RInit, "init"}, {api.RKeep, "keep"}, {api.RCopy, "copy From"}, {api.RAdd, "add From N"}},
	reflect.TypeFor[api.Num]():  {{0, "N"}, {0, "Param"}, {1, "Param + N"}, {-1, "Param - N"}},
	reflect.TypeFor[api.Expr](): {
		{api.EConst, "[K : W]"}, {api.ERef, "Name"}, {api.EMem, "Name[Args]"}, {api.ENot, "~Args"},
		{api.EAnd, "(Args & Args)"}, {api.EOr, "(Args | Args)"}, {api.EXor, "(Args ^ Args)"}, {api.EAdd, "(Args + Args)"},
		{api.ESub, "(Args - Args)"}, {api.EEq, "(Args == Args)"}, {api.ELt, "(Args < Args)"}, {api.ECat, "(Args . Args)"},
		{api.EMux, "(Args ? Args : Args)"}, {api.ESlice, "{Args @ K : W}"}, {api.EExt, "{Args : W}"},
	},
}

// piece is a field of a form, or what stands between fields, with its tokens.
type piece struct {
	text   string
	field  bool
	tokens []string
}

var pieceForm = regexp.MustCompile(`[A-Z][A-Za-z]*|[^A-Z]+`)

// piecesOf is the pieces of all forms, by their texts.
var piecesOf = func() map[string][]piece {
	all := map[string][]piece{}
	for _, l := range forms {
		for _, f := range l {
			for _, text := range pieceForm.FindAllString(f.text, -1) {
				all[f.text] = append(all[f.text], piece{text, text[0] >= 'A' && text[0] <= 'Z', texts(text)})
			}
		}
	}
	return all
}()

// fields returns the fields of a form, with repetitions.
func (f form) fields() []string {
	var l []string
	for _, p := range piecesOf[f.text] {
		if p.field {
			l = append(l, p.text)
		}
	}
	return l
}

// hasArgs says that a form is one of expressions and has arguments.
func (f form) hasArgs(t reflect.Type) bool {
	return t == reflect.TypeFor[api.Expr]() && slices.Contains(f.fields(), "Args")
}

// kindField is the field that the kind of a form is the value of, if there is one.
func kindField(v reflect.Value) reflect.Value {
	if v.FieldByName("Kind").IsValid() {
		return v.FieldByName("Kind")
	}
	return v.FieldByName("Op")
}

// separatorOf says what stands between the elements of a list.
func separatorOf(list reflect.Type) string {
	if e := list.Elem(); e == reflect.TypeFor[api.Module]() || e == reflect.TypeFor[api.Item]() {
		return ""
	}
	return ", "
}

// way is a way to read tokens: a value, and how many tokens are read then.
type way struct {
	v  reflect.Value
	to int
}

// start is where a value is read: its type, the greatest depth, and how many tokens were read before.
type start struct {
	t    reflect.Type
	most int
	at   int
}

// reader reads tokens in all ways that the grammar has; reached is the number of the last one that was looked at.
type reader struct {
	tokens  []api.Token
	reached int
	known   map[start][]way
}

func (r *reader) look(at int) api.Token {
	r.reached = max(r.reached, at)
	return r.tokens[at]
}

// structs returns all ways to read a struct.
func (r *reader) structs(s start) []way {
	if ways, ok := r.known[s]; ok {
		return ways
	}
	var all []way
	for _, f := range forms[s.t] {
		if f.hasArgs(s.t) && s.most == 1 {
			continue
		}
		if first := piecesOf[f.text][0]; !first.field && r.literal(first.tokens, s.at) < 0 {
			continue
		}
		v := reflect.New(s.t).Elem()
		if kind := kindField(v); kind.IsValid() {
			kind.SetInt(int64(f.kind))
		}
		ways := []way{{v, s.at}}
		for _, p := range piecesOf[f.text] {
			ways = r.behind(ways, p, f, s.most)
		}
		all = append(all, ways...)
	}
	r.known[s] = all
	return all
}

// behind returns the ways to read a piece of a form behind some ways.
func (r *reader) behind(ways []way, p piece, f form, most int) []way {
	var all []way
	for _, w := range ways {
		if !p.field {
			if to := r.literal(p.tokens, w.to); to >= 0 {
				all = append(all, way{w.v, to})
			}
			continue
		}
		for _, part := range r.field(w, p.text, f, most) {
			v := reflect.New(w.v.Type()).Elem()
			v.Set(w.v)
			v.FieldByName(p.text).Set(part.v)
			all = append(all, way{v, part.to})
		}
	}
	return all
}

// literal reads tokens with these texts, and returns -1 if there are others.
func (r *reader) literal(texts []string, at int) int {
	for _, text := range texts {
		if r.look(at).Text != text {
			return -1
		}
		at++
	}
	return at
}

// field returns the ways to read a field of a form.
func (r *reader) field(w way, name string, f form, most int) []way {
	old := w.v.FieldByName(name)
	switch {
	case old.Kind() == reflect.Struct:
		return r.structs(start{old.Type(), most, w.to})
	case old.Kind() == reflect.Slice && old.Type().Elem() == reflect.TypeFor[api.Expr]():
		var all []way
		for _, e := range r.structs(start{old.Type().Elem(), most - 1, w.to}) {
			all = append(all, way{appended(old, e.v), e.to})
		}
		return all
	case old.Kind() == reflect.Slice:
		return r.list(old, w.to, separatorOf(old.Type()))
	}
	token := r.look(w.to)
	if old.Kind() == reflect.String && token.Kind == api.TokName && isName(token.Text) {
		return []way{{reflect.ValueOf(token.Text), w.to + 1}}
	}
	if old.Kind() == reflect.Int && token.Kind == api.TokNumber {
		return r.number(token.Text, f, w)
	}
	return nil
}

// number reads a number, which is not 0 behind a sign.
func (r *reader) number(text string, f form, w way) []way {
	n, _ := strconv.Atoi(text)
	if w.v.Type() == reflect.TypeFor[api.Num]() && f.kind != 0 {
		if n == 0 {
			return nil
		}
		n *= f.kind
	}
	return []way{{reflect.ValueOf(n), w.to + 1}}
}

// list returns the ways to read a list of any length.
func (r *reader) list(empty reflect.Value, at int, separator string) []way {
	all := []way{{empty, at}}
	for n := 0; n < len(all); n++ {
		from := all[n].to
		if n > 0 {
			from = r.literal(strings.Fields(separator), from)
		}
		if from < 0 {
			continue
		}
		for _, e := range r.element(empty.Type().Elem(), from) {
			all = append(all, way{appended(all[n].v, e.v), e.to})
		}
	}
	return all
}

func (r *reader) element(t reflect.Type, at int) []way {
	if t.Kind() == reflect.Struct {
		return r.structs(start{t, mostDepth, at})
	}
	if token := r.look(at); token.Kind == api.TokName && isName(token.Text) {
		return []way{{reflect.ValueOf(token.Text), at + 1}}
	}
	return nil
}

// appended is a list with one more element, in new memory.
func appended(list, v reflect.Value) reflect.Value {
	l := reflect.MakeSlice(list.Type(), 0, list.Len()+1)
	return reflect.Append(reflect.AppendSlice(l, list), v)
}

// parseAsSaid reads in all ways, of which at most one may end with the file; where none does, no list of tokens goes on behind the last token that any way looked at.
func parseAsSaid(t *testing.T, s string) (api.File, int, api.Errno) {
	t.Helper()
	tokens, at, e := lexer.Lex(s)
	if e != api.OK {
		return api.File{}, at, e
	}
	r := &reader{tokens: tokens, known: map[start][]way{}}
	var trees []api.File
	for _, w := range r.structs(start{reflect.TypeFor[api.File](), mostDepth, 0}) {
		if r.look(w.to).Kind == api.TokEnd {
			trees = append(trees, w.v.Interface().(api.File))
		}
	}
	switch len(trees) {
	case 0:
		return api.File{}, tokens[r.reached].At, api.ErrSyntax
	case 1:
		return trees[0], 0, api.OK
	}
	t.Fatalf("%q: %d trees", s, len(trees))
	return api.File{}, 0, api.OK
}

// formOf is the form of a struct; ok is false if there is none.
func formOf(v reflect.Value) (f form, ok bool) {
	if n, isNum := v.Interface().(api.Num); isNum {
		switch l := forms[v.Type()]; {
		case n.Param == "":
			return l[0], true
		case n.N == 0:
			return l[1], true
		case n.N > 0:
			return l[2], true
		default:
			return l[3], true
		}
	}
	kind := kindField(v)
	for _, f := range forms[v.Type()] {
		if !kind.IsValid() || kind.Int() == int64(f.kind) {
			return f, true
		}
	}
	return form{}, false
}

// textAsSaid writes a tree; it has to be the tree of some file.
func textAsSaid(v reflect.Value) string {
	f, _ := formOf(v)
	text, args := "", 0
	for _, p := range piecesOf[f.text] {
		if !p.field {
			text += p.text
			continue
		}
		part := v.FieldByName(p.text)
		switch {
		case f.hasArgs(v.Type()) && p.text == "Args":
			text += textAsSaid(part.Index(args))
			args++
		case part.Kind() == reflect.Slice:
			var l []string
			for i := range part.Len() {
				l = append(l, elementAsSaid(part.Index(i)))
			}
			text += strings.Join(l, separatorOf(part.Type()))
		default:
			text += elementAsSaid(part)
		}
	}
	return text
}

func elementAsSaid(v reflect.Value) string {
	switch v.Kind() {
	case reflect.String:
		return v.String()
	case reflect.Int:
		return strconv.FormatInt(max(v.Int(), -v.Int()), 10)
	}
	return textAsSaid(v)
}

// hasTree says that a struct is a tree, or a part of one, of an expression of at most the depth most.
func hasTree(v reflect.Value, most int) bool {
	f, ok := formOf(v)
	if !ok || f.hasArgs(v.Type()) && (most == 1 || v.FieldByName("Args").Len() != count(f.fields(), "Args")) {
		return false
	}
	for i := range v.NumField() {
		name, part := v.Type().Field(i).Name, v.Field(i)
		switch {
		case name == "Kind" || name == "Op":
		case !slices.Contains(f.fields(), name):
			if part.Kind() == reflect.Slice && part.Len() > 0 || part.Kind() != reflect.Slice && !isNothing(part) {
				return false
			}
		case !hasTreeField(v, part, f, most):
			return false
		}
	}
	return true
}

func hasTreeField(v, part reflect.Value, f form, most int) bool {
	switch part.Kind() {
	case reflect.String:
		return isName(part.String())
	case reflect.Int:
		n := part.Int()
		if f.kind < 0 && v.Type() == reflect.TypeFor[api.Num]() {
			n = -n
		}
		return n >= 0 && n <= mostNumber
	case reflect.Slice:
		for i := range part.Len() {
			e := part.Index(i)
			below := most
			if f.hasArgs(v.Type()) {
				below--
			}
			if e.Kind() == reflect.String && !isName(e.String()) || e.Kind() == reflect.Struct && !hasTree(e, below) {
				return false
			}
		}
		return true
	}
	return hasTree(part, most)
}

// isNothing says that a value is the zero value, where an empty list is as good as nil.
func isNothing(v reflect.Value) bool {
	switch v.Kind() {
	case reflect.Slice:
		return v.Len() == 0
	case reflect.Struct:
		for i := range v.NumField() {
			if !isNothing(v.Field(i)) {
				return false
			}
		}
		return true
	}
	return v.IsZero()
}

func count(l []string, s string) int {
	n := 0
	for _, x := range l {
		if x == s {
			n++
		}
	}
	return n
}

// printAsSaid checks all parts of a tree, and writes it then.
func printAsSaid(f api.File) (string, api.Errno) {
	if !hasTree(reflect.ValueOf(f), mostDepth) {
		return "", api.ErrSyntax
	}
	if text := textAsSaid(reflect.ValueOf(f)); len(text) <= mostBytes {
		return text, api.OK
	}
	return "", api.ErrSyntax
}

// same compares trees, where an empty list is as good as nil.
func same(a, b reflect.Value) bool {
	switch a.Kind() {
	case reflect.Slice:
		if a.Len() != b.Len() {
			return false
		}
		for i := range a.Len() {
			if !same(a.Index(i), b.Index(i)) {
				return false
			}
		}
		return true
	case reflect.Struct:
		for i := range a.NumField() {
			if !same(a.Field(i), b.Field(i)) {
				return false
			}
		}
		return true
	}
	return a.Interface() == b.Interface()
}

func sameFile(f, g api.File) bool { return same(reflect.ValueOf(f), reflect.ValueOf(g)) }

// random fills a struct with parts of a tree; lists have up to three elements.
func random(r *rand.Rand, v reflect.Value, most int) {
	l := forms[v.Type()]
	f := l[r.IntN(len(l))]
	for f.hasArgs(v.Type()) && (most == 1 || r.IntN(8) == 0) {
		f = l[r.IntN(2)]
	}
	if kind := kindField(v); kind.IsValid() {
		kind.SetInt(int64(f.kind))
	}
	for _, name := range f.fields() {
		part := v.FieldByName(name)
		switch {
		case f.hasArgs(v.Type()) && name == "Args":
			e := reflect.New(part.Type().Elem()).Elem()
			random(r, e, most-1)
			part.Set(reflect.Append(part, e))
		case part.Kind() == reflect.Slice:
			part.Set(reflect.MakeSlice(part.Type(), r.IntN(4), 8))
			for i := range part.Len() {
				randomElement(r, part.Index(i), f, most)
			}
		default:
			randomElement(r, part, f, most)
		}
	}
}

func randomElement(r *rand.Rand, v reflect.Value, f form, most int) {
	switch v.Kind() {
	case reflect.String:
		v.SetString(randomName(r))
	case reflect.Int:
		v.SetInt(int64(1 + r.IntN([]int{1, 9, 1000, mostNumber}[r.IntN(4)])))
		if f.kind < 0 {
			v.SetInt(-v.Int())
		} else if f.text != "Param + N" && r.IntN(4) == 0 {
			v.SetInt(0)
		}
	default:
		random(r, v, most)
	}
}

func randomName(r *rand.Rand) string {
	for {
		s := oneOf(r, "a", "b", "r", "x", "in", "add", "copy", "z9", string(rune('a'+r.IntN(26)))) + oneOf(r, "", "", "0", "1", "a", "in")
		if isName(s) {
			return s
		}
	}
}

// randomExpr is an expression of at most the depth most.
func randomExpr(r *rand.Rand, most int) api.Expr {
	v := reflect.New(reflect.TypeFor[api.Expr]()).Elem()
	random(r, v, most)
	return v.Interface().(api.Expr)
}

// randomFile is a printable file of n modules at most; its expressions are mostly flat, so that it has not too long a text.
func randomFile(r *rand.Rand, n int) api.File {
	for {
		f := api.File{Modules: make([]api.Module, r.IntN(n+1))}
		for i := range f.Modules {
			random(r, reflect.ValueOf(&f.Modules[i]).Elem(), 1+r.IntN(4))
		}
		if len(textAsSaid(reflect.ValueOf(f))) <= mostBytes {
			return f
		}
	}
}

func oneOf(r *rand.Rand, l ...string) string { return l[r.IntN(len(l))] }

// texts returns the texts of the tokens of s, without the one at the end.
func texts(s string) []string {
	tokens, _, _ := lexer.Lex(s)
	var l []string
	for _, token := range tokens {
		if token.Kind != api.TokEnd {
			l = append(l, token.Text)
		}
	}
	return l
}

// check compares all results of Parse.
func check(t *testing.T, s string) {
	t.Helper()
	f, at, e := syntax.Parse(s)
	want, wantAt, wantE := parseAsSaid(t, s)
	if !sameFile(f, want) || at != wantAt || e != wantE {
		t.Errorf("%.300q: %.300v, %d, %d, want %.300v, %d, %d", s, f, at, e, want, wantAt, wantE)
	}
}

// checkError says that Parse fails with an error.
func checkError(t *testing.T, s string, at int, e api.Errno) {
	t.Helper()
	if f, gotAt, gotE := syntax.Parse(s); len(f.Modules) != 0 || gotAt != at || gotE != e {
		t.Errorf("%.300q of %d bytes: %.300v, %d, %d, want %d, %d", s, len(s), f, gotAt, gotE, at, e)
	}
}

// checkMarked says that Parse refuses the token behind the mark in s.
func checkMarked(t *testing.T, s string) {
	t.Helper()
	checkError(t, strings.Replace(s, "!", "", 1), strings.Index(s, "!"), api.ErrSyntax)
}

// checkTree says that Parse returns a tree.
func checkTree(t *testing.T, s string, want api.File) {
	t.Helper()
	if f, at, e := syntax.Parse(s); !sameFile(f, want) || at != 0 || e != api.OK {
		t.Errorf("%.300q: %.300v, %d, %d, want %.300v", s, f, at, e, want)
	}
}

// checkText says that Print returns a text.
func checkText(t *testing.T, f api.File, want string) {
	t.Helper()
	if s, e := syntax.Print(f); s != want || e != api.OK {
		t.Errorf("%.300v: %.300q, %d, want %.300q", f, s, e, want)
	}
}

func checkNoText(t *testing.T, f api.File) {
	t.Helper()
	if s, e := syntax.Print(f); s != "" || e != api.ErrSyntax {
		t.Errorf("%.300v: %.300q, %d", f, s, e)
	}
}

// checkPrint compares all results of Print, and returns the error.
func checkPrint(t *testing.T, f api.File) api.Errno {
	t.Helper()
	s, e := syntax.Print(f)
	if want, wantE := printAsSaid(f); s != want || e != wantE {
		t.Errorf("%.600v: %.300q, %d, want %.300q, %d", f, s, e, want, wantE)
	}
	return e
}
