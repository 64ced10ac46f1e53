package lexer_test

import (
	"math/big"
	"math/rand/v2"
	"regexp"
	"slices"
	"strings"
	"testing"

	"wireloom/api"
	"wireloom/lexer"
)

// mostBytes is the limit as the document gives it.
const mostBytes = 8000

func source() *rand.Rand { return rand.New(rand.NewPCG(8, 54)) }

// The signs as the chapter lists them.
var signs = strings.Fields("( ) { } [ ] , ; : = + - & | ^ ~ < ? @ # . -> ==")

// What the chapter says of words and signs; the first one that fits is taken.
var (
	nameForm   = regexp.MustCompile(`\A[a-z][a-z0-9]*\z`)
	numberForm = regexp.MustCompile(`\A(0|[1-9][0-9]*)\z`)
	parts      = regexp.MustCompile(`[a-z0-9]+|->|==|[(){}\[\],;:=+\-&|^~<?@#.]`)
)

// kindAsSaid is the kind of the tokens with this text, or 0.
func kindAsSaid(text string) int {
	switch {
	case nameForm.MatchString(text):
		return api.TokName
	case numberForm.MatchString(text):
		value, _ := new(big.Int).SetString(text, 10)
		if value.Cmp(big.NewInt(1000000)) <= 0 {
			return api.TokNumber
		}
	case slices.Contains(signs, text):
		return api.TokSign
	}
	return 0
}

// blankedAsSaid is s with blanks in place of comments: in each line, what stands from the first two slashes on.
func blankedAsSaid(s string) string {
	lines := strings.Split(s, "\n")
	for i, line := range lines {
		if at := strings.Index(line, "//"); at >= 0 {
			lines[i] = line[:at] + strings.Repeat(" ", len(line)-at)
		}
	}
	return strings.Join(lines, "\n")
}

// lexAsSaid finds all words and signs first, and then the least offset of what is none of them.
func lexAsSaid(s string) ([]api.Token, int, api.Errno) {
	if len(s) > mostBytes {
		return nil, 0, api.ErrBig
	}
	var tokens []api.Token
	plain := blankedAsSaid(s)
	left := []byte(plain)
	bad := len(s)
	for _, p := range parts.FindAllStringIndex(plain, -1) {
		text := plain[p[0]:p[1]]
		kind := kindAsSaid(text)
		if kind == 0 {
			bad = min(bad, p[0])
		}
		tokens = append(tokens, api.Token{Kind: kind, Text: text, At: p[0]})
		copy(left[p[0]:p[1]], strings.Repeat(" ", len(text)))
	}
	for at, b := range left {
		if b != 32 && b != 10 {
			bad = min(bad, at)
		}
	}
	if bad < len(s) {
		return nil, bad, api.ErrForm
	}
	return append(tokens, end(len(s))), 0, api.OK
}

func end(at int) api.Token { return api.Token{Kind: api.TokEnd, At: at} }

// lineAsSaid counts line feeds, and bytes behind them.
func lineAsSaid(s string, at int) (int, int) {
	if at < 0 || at > len(s) {
		return 0, 0
	}
	line, column := 1, 1
	for i := range at {
		column++
		if s[i] == 10 {
			line, column = line+1, 1
		}
	}
	return line, column
}

// eachText calls f for all texts of at most n of some pieces.
func eachText(pieces []string, n int, f func(s string)) {
	var extend func(s string, n int)
	extend = func(s string, n int) {
		f(s)
		if n == 0 {
			return
		}
		for _, p := range pieces {
			extend(s+p, n-1)
		}
	}
	extend("", n)
}

// few is single bytes that can make each kind of piece, and some that can't.
var few = strings.Split("a01->=/ \n!", "")

// eachShort calls f for all texts of at most five of a few bytes.
func eachShort(f func(s string)) { eachText(few, 5, f) }

// randomBytes is up to n bytes of a set, or of all bytes.
func randomBytes(r *rand.Rand, n int, set string) string {
	b := make([]byte, r.IntN(n+1))
	for i := range b {
		b[i] = byte(r.Uint32())
		if set != "" {
			b[i] = set[r.IntN(len(set))]
		}
	}
	return string(b)
}

func oneOf(r *rand.Rand, l ...string) string { return l[r.IntN(len(l))] }

// randomWord is a name or a number, without the bytes around it.
func randomWord(r *rand.Rand) string {
	if r.IntN(2) == 0 {
		return string(rune('a'+r.IntN(26))) + randomBytes(r, 5, "abyz0189")
	}
	return big.NewInt(r.Int64N(1000001) / []int64{1, 10, 1000, 100000}[r.IntN(4)]).String()
}

// randomSpace is white space, also none.
func randomSpace(r *rand.Rand) string {
	s := randomBytes(r, 2, " \n")
	if r.IntN(5) == 0 {
		s += "//" + strings.ReplaceAll(randomBytes(r, 20, ""), "\n", "/") + "\n"
	}
	return s
}

// randomFile is a well-formed file of up to n words and signs; some have a comment at the end.
func randomFile(r *rand.Rand, n int) string {
	s := randomSpace(r)
	for range r.IntN(n + 1) {
		// Without the blank, a word could go on in the next one.
		s += oneOf(r, randomWord(r)+" ", randomWord(r)+oneOf(r, signs...), oneOf(r, signs...)) + randomSpace(r)
	}
	if r.IntN(4) == 0 {
		s += "//" + strings.ReplaceAll(randomBytes(r, 9, ""), "\n", " ")
	}
	return s
}

// badPieces is pieces that are malformed at their first byte, where white space stands before them and a blank behind them.
var badPieces = []string{"!", "/", "\x00", "\t", "\r", "A", "Z", "_", ">", "%", "$", "'", "\"", "\\", "`", "*", "\x7f", "\x80", "\xff", "é", "01", "00", "007a", "2x", "9z9", "1000001", "1000000a", "99999999999999999999", "18446744073709551617"}

// randomBad is a file that is malformed at one or more places.
func randomBad(r *rand.Rand, n int) string {
	s := randomFile(r, n) + "\n" + oneOf(r, badPieces...)
	for range r.IntN(3) {
		s += oneOf(r, " ", "\n") + randomFile(r, n) + "\n" + oneOf(r, badPieces...)
	}
	return s + " " + randomFile(r, n)
}

// check compares all results of Lex.
func check(t *testing.T, s string) {
	t.Helper()
	tokens, at, e := lexer.Lex(s)
	want, wantAt, wantE := lexAsSaid(s)
	if !slices.Equal(tokens, want) || at != wantAt || e != wantE {
		t.Errorf("%.200q: %.200v, %d, %d, want %.200v, %d, %d", s, tokens, at, e, want, wantAt, wantE)
	}
}

// checkError says that Lex fails with an error.
func checkError(t *testing.T, s string, at int, e api.Errno) {
	t.Helper()
	if tokens, gotAt, gotE := lexer.Lex(s); len(tokens) != 0 || gotAt != at || gotE != e {
		t.Errorf("%.60q of %d bytes: %.200v, %d, %d, want %d, %d", s, len(s), tokens, gotAt, gotE, at, e)
	}
}

// checkTokens says that Lex returns these tokens.
func checkTokens(t *testing.T, s string, want ...api.Token) {
	t.Helper()
	if tokens, at, e := lexer.Lex(s); !slices.Equal(tokens, want) || at != 0 || e != api.OK {
		t.Errorf("%.60q of %d bytes: %.200v, %d, %d, want %.200v", s, len(s), tokens, at, e, want)
	}
}

// checkAlone says that s is the text of a token, and alone in a file.
func checkAlone(t *testing.T, s string, kind int) {
	t.Helper()
	checkTokens(t, s, api.Token{Kind: kind, Text: s}, end(len(s)))
	checkKind(t, s, kind)
}

func checkKind(t *testing.T, s string, want int) {
	t.Helper()
	if got := lexer.Kind(s); got != want {
		t.Errorf("Kind(%.60q), %d bytes: %d, want %d", s, len(s), got, want)
	}
}

func checkLine(t *testing.T, s string, at, line, column int) {
	t.Helper()
	if gotLine, gotColumn := lexer.Line(s, at); gotLine != line || gotColumn != column {
		t.Errorf("Line(%.60q, %d): %d, %d, want %d, %d", s, at, gotLine, gotColumn, line, column)
	}
}
