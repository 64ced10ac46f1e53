package lexer_test

import (
	"math"
	"regexp"
	"slices"
	"strings"
	"testing"

	"wireloom/api"
	"wireloom/lexer"
)

// White space before a token, and at the end of a file.
var (
	spaceForm = regexp.MustCompile(`\A([ \n]|//[^\n]*\n)*\z`)
	endForm   = regexp.MustCompile(`\A([ \n]|//[^\n]*\n)*(//[^\n]*)?\z`)
)

// eachFormed calls f for well-formed files, short and random ones, with their tokens.
func eachFormed(t *testing.T, f func(s string, tokens []api.Token)) {
	count := 0
	visit := func(s string) {
		if tokens, _, e := lexer.Lex(s); e == api.OK {
			f(s, tokens)
			count++
		}
	}
	eachShort(visit)
	r := source()
	for range 10000 {
		visit(randomFile(r, 15))
	}
	if count < 20000 {
		t.Errorf("only %d well-formed files", count)
	}
}

// eachMalformed calls f for malformed files, short and random ones, with the offsets of their errors.
func eachMalformed(t *testing.T, f func(s string, at int)) {
	count := 0
	visit := func(s string) {
		if _, at, e := lexer.Lex(s); e == api.ErrForm {
			f(s, at)
			count++
		}
	}
	eachShort(visit)
	r := source()
	for range 10000 {
		visit(randomBad(r, 5))
	}
	if count < 70000 {
		t.Errorf("only %d malformed files", count)
	}
}

// textsAndKinds is tokens without their offsets.
func textsAndKinds(tokens []api.Token) []api.Token {
	l := slices.Clone(tokens)
	for i := range l {
		l[i].At = 0
	}
	return l
}

// moved is tokens with greater offsets.
func moved(tokens []api.Token, by int) []api.Token {
	l := slices.Clone(tokens)
	for i := range l {
		l[i].At += by
	}
	return l
}

func TestP8_2Coverage(t *testing.T) {
	eachFormed(t, func(s string, tokens []api.Token) {
		if len(tokens) == 0 {
			t.Fatalf("%q: no tokens", s)
		}
		last := len(tokens) - 1
		if tokens[last] != end(len(s)) {
			t.Errorf("%q: the last token is %v", s, tokens[last])
		}
		at := 0
		for _, token := range tokens[:last] {
			if token.At < at || token.Text == "" || !strings.HasPrefix(s[token.At:], token.Text) {
				t.Fatalf("%q: %v", s, token)
			}
			if space := s[at:token.At]; !spaceForm.MatchString(space) {
				t.Errorf("%q: %q stands before %v", s, space, token)
			}
			if token.Kind != api.TokName && token.Kind != api.TokNumber && token.Kind != api.TokSign {
				t.Errorf("%q: %v", s, token)
			}
			at = token.At + len(token.Text)
		}
		if !endForm.MatchString(s[at:]) {
			t.Errorf("%q: %q stands at the end", s, s[at:])
		}
	})
}

func checkJoined(t *testing.T, s string, tokens []api.Token) {
	t.Helper()
	joined := lexer.Join(tokens)
	again, at, e := lexer.Lex(joined)
	if e != api.OK || at != 0 || !slices.Equal(textsAndKinds(again), textsAndKinds(tokens)) {
		t.Errorf("%.60q: joined %.60q, which has %.200v, %d, %d", s, joined, again, at, e)
	}
	if twice := lexer.Join(again); twice != joined {
		t.Errorf("%.60q: joined %.60q, and again %.60q", s, joined, twice)
	}
	offset := 0
	for _, token := range again {
		if token.Kind == api.TokEnd {
			offset = len(joined)
		}
		if token.At != offset {
			t.Errorf("%.60q: joined %.60q, where %v does not stand at %d", s, joined, token, offset)
		}
		offset += len(token.Text) + 1
	}
}

func TestP8_3Joined(t *testing.T) {
	eachFormed(t, func(s string, tokens []api.Token) { checkJoined(t, s, tokens) })
}

// Joined tokens can have more bytes than their file.
func TestP8_3UpToLimit(t *testing.T) {
	for _, s := range []string{strings.Repeat("(", mostBytes/2), strings.Repeat("(", mostBytes/2-1) + "ab", strings.Repeat("a", mostBytes), strings.Repeat(" ", mostBytes-2) + ";;"} {
		tokens, _, e := lexer.Lex(s)
		if e != api.OK {
			t.Errorf("%.60q: %d", s, e)
		}
		checkJoined(t, s, tokens)
	}
	tokens, _, _ := lexer.Lex(strings.Repeat("(", mostBytes/2) + "a")
	checkError(t, lexer.Join(tokens), 0, api.ErrBig)
}

// checkConcatenated compares the results for two files with a line feed between them with those for each file.
func checkConcatenated(t *testing.T, a, b string) {
	t.Helper()
	first, _, e := lexer.Lex(a)
	if e != api.OK {
		return
	}
	second, at, e := lexer.Lex(b)
	by := len(a) + 1
	var want []api.Token
	if e == api.OK {
		want = slices.Concat(first[:len(first)-1], moved(second, by))
	} else {
		at += by
	}
	if tokens, gotAt, gotE := lexer.Lex(a + "\n" + b); !slices.Equal(tokens, want) || gotAt != at || gotE != e {
		t.Errorf("%.60q and %.60q: %.200v, %d, %d, want %.200v, %d, %d", a, b, tokens, gotAt, gotE, want, at, e)
	}
}

func TestP8_4Concatenated(t *testing.T) {
	var short []string
	eachText(few, 2, func(s string) { short = append(short, s) })
	short = append(short, "//a", "//!", "//\n", "a//", "->", "=//", "01 !", "a 1000001")
	for _, a := range short {
		eachText(few, 3, func(b string) { checkConcatenated(t, a, b) })
		eachText(few, 3, func(b string) { checkConcatenated(t, b, a) })
	}
	r := source()
	for range 10000 {
		file := randomFile(r, 8)
		checkConcatenated(t, file, randomFile(r, 8))
		checkConcatenated(t, file, randomBad(r, 3))
	}
}

func TestP8_4UpToLimit(t *testing.T) {
	for _, a := range []string{"", "a", "a;", "// a", "1 ->"} {
		for _, b := range []string{"b", "->", "!", "01", "// b", "a"} {
			rest := mostBytes - len(a) - 1 - len(b)
			checkConcatenated(t, a, strings.Repeat(" ", rest)+b)
			checkConcatenated(t, strings.Repeat("\n", rest)+a, b)
			checkConcatenated(t, a, b+strings.Repeat(" ", rest))
			checkError(t, a+"\n"+b+strings.Repeat(" ", rest+1), 0, api.ErrBig)
		}
	}
}

// checkIsToken says that s has a kind if it is the text of a token, alone in a file, and only then.
func checkIsToken(t *testing.T, s string) {
	t.Helper()
	want := 0
	if tokens, _, e := lexer.Lex(s); e == api.OK && len(tokens) == 2 && tokens[0].Text == s {
		want = tokens[0].Kind
	}
	checkKind(t, s, want)
}

func TestP8_5Kinds(t *testing.T) {
	eachShort(func(s string) { checkIsToken(t, s) })
	eachText(append(few, signs...), 3, func(s string) { checkIsToken(t, s) })
	r := source()
	for range 10000 {
		word := randomWord(r)
		checkIsToken(t, word)
		if lexer.Kind(word) == 0 {
			t.Errorf("Kind(%q): 0", word)
		}
		checkIsToken(t, word+randomBytes(r, 2, ""))
		checkIsToken(t, randomSpace(r)+word)
		checkIsToken(t, word+randomSpace(r))
		checkIsToken(t, randomBytes(r, 9, "0123456789"))
	}
	for n := mostBytes - 20; n <= mostBytes; n++ {
		checkIsToken(t, strings.Repeat("a", n))
		checkIsToken(t, strings.Repeat("1", n))
		checkIsToken(t, strings.Repeat(" ", n-1)+"a")
	}
}

// All tokens of a file have the kinds of their texts.
func TestP8_5KindsOfTokens(t *testing.T) {
	eachFormed(t, func(s string, tokens []api.Token) {
		for _, token := range tokens[:len(tokens)-1] {
			checkKind(t, token.Text, token.Kind)
		}
	})
	checkKind(t, "", 0)
}

func TestP8_6BeforeTheError(t *testing.T) {
	eachMalformed(t, func(s string, at int) {
		if at < 0 || at >= len(s) {
			t.Fatalf("%q: malformed at %d", s, at)
		}
		if _, _, e := lexer.Lex(s[:at]); e != api.OK {
			t.Errorf("%q: malformed at %d, but what stands before has the error %d", s, at, e)
		}
	})
}

// The shortest malformed beginning of a file has the same error, if a blank stands behind it or it ends there.
func TestP8_6TheErrorAlone(t *testing.T) {
	eachMalformed(t, func(s string, at int) {
		to := at + 1
		for to < len(s) && kindAsSaid("a"+s[at:to+1]) == api.TokName {
			to++
		}
		checkError(t, s[:to], at, api.ErrForm)
		checkError(t, s[:to]+" //", at, api.ErrForm)
	})
}

func TestP8_6FurtherBytes(t *testing.T) {
	r := source()
	further := []string{"", " ", "/", "//", "\n", ">", "=", "a", "0", "!", "01", "// a\nb", "\x00\xff"}
	eachMalformed(t, func(s string, at int) {
		checkError(t, s+" "+oneOf(r, further...), at, api.ErrForm)
		checkError(t, s+" "+randomBytes(r, 8, oneOf(r, "", "a01->=/ \n!")), at, api.ErrForm)
	})
	for _, s := range badPieces {
		for _, more := range further {
			checkError(t, s+" "+more, 0, api.ErrForm)
		}
		checkError(t, s+strings.Repeat(" ", mostBytes-len(s)), 0, api.ErrForm)
		checkError(t, s+strings.Repeat(" ", mostBytes-len(s)+1), 0, api.ErrBig)
	}
}

func checkSteps(t *testing.T, s string) {
	t.Helper()
	checkLine(t, s, 0, 1, 1)
	for at := range len(s) {
		line, column := lexer.Line(s, at)
		if s[at] == '\n' {
			checkLine(t, s, at+1, line+1, 1)
		} else {
			checkLine(t, s, at+1, line, column+1)
		}
	}
}

func TestP8_7Lines(t *testing.T) {
	eachText([]string{"a", "\n", "\r", "\x80"}, 6, func(s string) { checkSteps(t, s) })
	r := source()
	for range 2000 {
		checkSteps(t, randomFile(r, 20))
		checkSteps(t, randomBytes(r, 300, ""))
	}
	checkSteps(t, strings.Repeat("reg a;\n\n", 1200))
}

// Strings cannot be changed; the tokens that are joined could, and what stands behind them in the same array.
func TestH5ArgumentsStay(t *testing.T) {
	r := source()
	for range 2000 {
		tokens, _, _ := lexer.Lex(randomFile(r, 10))
		for i := range tokens {
			if r.IntN(3) == 0 {
				tokens[i] = api.Token{Kind: r.IntN(6), Text: randomBytes(r, 3, ""), At: r.IntN(9) - 4}
			}
		}
		room := append(tokens, api.Token{Kind: 7, Text: "room", At: math.MinInt}, end(-1), api.Token{})
		before := slices.Clone(room)
		want := lexer.Join(slices.Clone(tokens))
		for n := range len(tokens) + 1 {
			lexer.Join(room[:n])
		}
		if !slices.Equal(room, before) {
			t.Errorf("Join of %v: then %v", before, room)
		}
		if got := lexer.Join(tokens); got != want {
			t.Errorf("Join of %v, another time: %q, before %q", tokens, got, want)
		}
	}
}

// Tokens belong to the caller alone.
func TestH5TokensAreNew(t *testing.T) {
	r := source()
	for range 500 {
		s := randomFile(r, 10)
		tokens, _, _ := lexer.Lex(s)
		want := slices.Clone(tokens)
		clear(tokens[:cap(tokens)])
		if got, _, _ := lexer.Lex(s); !slices.Equal(got, want) {
			t.Errorf("%q, the second time: %v, before %v", s, got, want)
		}
	}
}
