package lexer_test

import (
	"math"
	"math/big"
	"strconv"
	"strings"
	"testing"

	"wireloom/api"
	"wireloom/lexer"
)

func TestP8_1Examples(t *testing.T) {
	checkTokens(t, "reg x: 4 = 0; // counter",
		api.Token{Kind: api.TokName, Text: "reg", At: 0}, api.Token{Kind: api.TokName, Text: "x", At: 4},
		api.Token{Kind: api.TokSign, Text: ":", At: 5}, api.Token{Kind: api.TokNumber, Text: "4", At: 7},
		api.Token{Kind: api.TokSign, Text: "=", At: 9}, api.Token{Kind: api.TokNumber, Text: "0", At: 11},
		api.Token{Kind: api.TokSign, Text: ";", At: 12}, end(24))
	checkTokens(t, "a==b", api.Token{Kind: api.TokName, Text: "a"}, api.Token{Kind: api.TokSign, Text: "==", At: 1}, api.Token{Kind: api.TokName, Text: "b", At: 3}, end(4))
	checkTokens(t, "a= =b", api.Token{Kind: api.TokName, Text: "a"}, api.Token{Kind: api.TokSign, Text: "=", At: 1}, api.Token{Kind: api.TokSign, Text: "=", At: 3}, api.Token{Kind: api.TokName, Text: "b", At: 4}, end(5))
	checkError(t, "x->y - >z", 7, api.ErrForm)
	for _, s := range []string{"01", "2x", "1000001", "A"} {
		checkError(t, s, 0, api.ErrForm)
	}
	checkError(t, "x /y", 2, api.ErrForm)
	checkKind(t, "->", api.TokSign)
	checkKind(t, "9", api.TokNumber)
	checkKind(t, "a b", 0)
	checkLine(t, "a\nbc", 3, 2, 2)
}

// These files have no tokens but the one at the end.
func TestP8_1WhiteSpace(t *testing.T) {
	for _, s := range []string{"", " ", "\n", "   ", "\n\n", " \n ", "//", "//\n", "// a", "// 01 !\n", "///", "////", "// /", "//\n//", "//\n\n //", " //\n ", "//a\n//b\n", "//\r\t\x00\xff", "// é // é"} {
		checkTokens(t, s, end(len(s)))
	}
}

// These texts of tokens were written down by hand.
func TestP8_1Known(t *testing.T) {
	for s, want := range map[string]string{
		"module m(w)@clk{in a:w;}":  "module|m|(|w|)|@|clk|{|in|a|:|w|;|}",
		"x->y":                      "x|->|y",
		"x--> y":                    "x|-|->|y",
		"->->":                      "->|->",
		"- -1":                      "-|-|1",
		"===":                       "==|=",
		"====":                      "==|==",
		"== = ==":                   "==|=|==",
		"=\n=":                      "=|=",
		"=//\n=":                    "=|=",
		"=->":                       "=|->",
		"->=":                       "->|=",
		"-=-":                       "-|=|-",
		"a//b\nc":                   "a|c",
		"a//b":                      "a",
		"1//\n0":                    "1|0",
		"a///\nb":                   "a|b",
		"a// b // c\nd":             "a|d",
		"a b":                       "a|b",
		"a1 1":                      "a1|1",
		"a\n\nb":                    "a|b",
		"z9y0":                      "z9y0",
		"a00":                       "a00",
		"0 0":                       "0|0",
		"0-0":                       "0|-|0",
		"1000000;999999":            "1000000|;|999999",
		"a.b":                       "a|.|b",
		"3.0":                       "3|.|0",
		"(){}[],;:=+-&|^~<?@#.->==": "( ) { } [ ] , ; : = + - & | ^ ~ < ? @ # . -> ==",
	} {
		tokens, _, e := lexer.Lex(s)
		var texts []string
		for _, token := range tokens {
			texts = append(texts, token.Text)
		}
		separator := "|"
		if strings.Contains(want, " ") {
			separator = " "
		}
		if got := strings.Join(texts, separator); got != want+separator || e != api.OK {
			t.Errorf("%q: %s, %d, want %s", s, got, e, want)
		}
	}
}

// These offsets were counted by hand.
func TestP8_1KnownErrors(t *testing.T) {
	for s, at := range map[string]int{
		"/": 0, "a/": 1, "a/b": 1, "a / /b": 2, "/ /": 0, "/\n/": 0, "//\n/": 3, "/a//": 0,
		">": 0, "a>": 1, "->>": 2, "=>": 1, "-=>": 2, "- >": 2, "-\n>": 2, "-//\n>": 4, "=->>": 3,
		"!": 0, "!=": 0, "a != b": 2, "\t": 0, "a\t": 1, "\r\n": 0, "a;\r\n": 2, "\x00": 0, "a\x00b": 1,
		"A": 0, "aB": 1, "aBc": 1, "a B": 2, "1A": 1, "0A": 1, "_": 0, "a_b": 1, "1_0": 1,
		"00": 0, "01": 0, "007": 0, "a 01": 2, "(01)": 1, "a01 01": 4, "0 00": 2,
		"0a": 0, "1a": 0, "a 1a": 2, "-1a": 1, "0x1": 0, "1e6": 0,
		"1000001": 0, "10000000": 0, "2000000": 0, " 1000001": 1, "a,1000001": 2,
		"01 !": 0, "! 01": 0, "a 01 !": 2, "a ! 01": 2, "1a 2b": 0, "a/01": 1, "01/": 0, "01A": 0, "A01": 0,
		"é": 0, "aé": 1, "\x80": 0, "\xff": 0, "a \xff": 2, "// é\né": 6,
	} {
		checkError(t, s, at, api.ErrForm)
	}
}

func TestP8_1AsSaid(t *testing.T) {
	formed := 0
	eachShort(func(s string) {
		check(t, s)
		if _, _, e := lexAsSaid(s); e == api.OK {
			formed++
		}
	})
	if formed < 10000 {
		t.Errorf("only %d of the files are well-formed", formed)
	}
}

// All bytes alone, beside each other, and between tokens, white space and comments.
func TestP8_1Bytes(t *testing.T) {
	tokens := 0
	for i := range 256 {
		a := string([]byte{byte(i)})
		check(t, a)
		if lexer.Kind(a) != 0 {
			tokens++
		}
		for j := range 256 {
			check(t, a+string([]byte{byte(j)}))
		}
		for _, before := range []string{"a", "1", "0", " ", "\n", "-", "=", "//", "/", "// ", "//\n", "a ", "ab12"} {
			for _, behind := range []string{"", "a", "1", "0", " ", "\n", ">", "=", "/", "//", "\n!", "\n01"} {
				check(t, before+a+behind)
			}
		}
	}
	if tokens != 26+10+21 {
		t.Errorf("%d single bytes are tokens", tokens)
	}
}

// A comment ends before a line feed or with the file, whatever stands in it.
func TestP8_1Comments(t *testing.T) {
	var all []byte
	for i := range 256 {
		if i != '\n' {
			all = append(all, byte(i))
		}
	}
	r := source()
	contents := []string{"", "/", "//", " // ", "a", "01", "!", string(all), strings.Repeat("/", 99)}
	for range 500 {
		contents = append(contents, strings.ReplaceAll(randomBytes(r, 30, ""), "\n", "\r"))
	}
	for _, c := range contents {
		name := api.Token{Kind: api.TokName, Text: "a"}
		checkTokens(t, "//"+c, end(2+len(c)))
		checkTokens(t, "a//"+c, name, end(3+len(c)))
		checkTokens(t, "//"+c+"\n", end(3+len(c)))
		name.At = 3 + len(c)
		checkTokens(t, "//"+c+"\na", name, end(4+len(c)))
		checkError(t, "//"+c+"\n!", 3+len(c), api.ErrForm)
		checkError(t, "/ //"+c, 0, api.ErrForm)
		checkError(t, "/\n//"+c+"\n", 0, api.ErrForm)
	}
}

// All numbers up to more than the greatest one.
func TestP8_1Numbers(t *testing.T) {
	for n := range 1000100 {
		s := strconv.Itoa(n)
		if n <= 1000000 {
			checkAlone(t, s, api.TokNumber)
		} else {
			checkError(t, s, 0, api.ErrForm)
			checkKind(t, s, 0)
		}
		if n < 2000 || n > 999000 {
			for _, zeros := range []string{"0", "00", "0000000"} {
				checkError(t, zeros+s, 0, api.ErrForm)
				checkKind(t, zeros+s, 0)
			}
			checkError(t, s+"a", 0, api.ErrForm)
			checkKind(t, s+"a", 0)
			checkAlone(t, "a"+s, api.TokName)
		}
	}
}

// Numbers of many digits, among them those whose remainders modulo powers of 2 are small.
func TestP8_1LargeNumbers(t *testing.T) {
	for k := range 300 {
		power := new(big.Int).Lsh(big.NewInt(1), uint(k))
		for d := int64(-3); d <= 3; d++ {
			s := new(big.Int).Add(power, big.NewInt(d)).String()
			check(t, s)
			check(t, "a="+s+";")
			checkKind(t, s, kindAsSaid(s))
		}
		s := new(big.Int).Mul(power, big.NewInt(1000000)).String()
		check(t, s)
		checkKind(t, s, kindAsSaid(s))
	}
	for n := 7; n < mostBytes; n += n/9 + 1 {
		for _, s := range []string{"1" + strings.Repeat("0", n), strings.Repeat("9", n), strings.Repeat("0", n), strings.Repeat("0", n) + "1"} {
			checkError(t, s, 0, api.ErrForm)
			checkError(t, "(7 "+s, 3, api.ErrForm)
			checkKind(t, s, 0)
		}
	}
}

// Texts of letters and digits alone are one word.
func TestP8_1Words(t *testing.T) {
	eachText(strings.Split("azm0195", ""), 5, func(s string) {
		check(t, s)
		checkKind(t, s, kindAsSaid(s))
	})
	letters := "abcdefghijklmnopqrstuvwxyz"
	for i := range letters {
		checkAlone(t, letters[i:i+1], api.TokName)
		checkAlone(t, letters[i:]+"0123456789"+letters[:i], api.TokName)
	}
}

// Each sign, alone and beside each other one.
func TestP8_1Signs(t *testing.T) {
	if len(signs) != 23 {
		t.Errorf("%d signs", len(signs))
	}
	for _, a := range signs {
		checkAlone(t, a, api.TokSign)
		for _, b := range signs {
			first := api.Token{Kind: api.TokSign, Text: a}
			checkTokens(t, a+" "+b, first, api.Token{Kind: api.TokSign, Text: b, At: len(a) + 1}, end(len(a)+1+len(b)))
			switch {
			case a == "=" && b == "=":
				checkAlone(t, "==", api.TokSign)
			case a == "=" && b == "==":
				checkTokens(t, "===", api.Token{Kind: api.TokSign, Text: "=="}, api.Token{Kind: api.TokSign, Text: "=", At: 2}, end(3))
			default:
				checkTokens(t, a+b, first, api.Token{Kind: api.TokSign, Text: b, At: len(a)}, end(len(a)+len(b)))
				checkKind(t, a+b, 0)
			}
		}
	}
}

func TestP8_1Random(t *testing.T) {
	r := source()
	for range 20000 {
		file := randomFile(r, 12)
		check(t, file)
		if _, _, e := lexer.Lex(file); e != api.OK {
			t.Errorf("%q: %d", file, e)
		}
		bad := randomBad(r, 6)
		check(t, bad)
		if _, _, e := lexer.Lex(bad); e != api.ErrForm {
			t.Errorf("%q: %d", bad, e)
		}
		check(t, randomBytes(r, 40, "ab019-->==/  \n(;~"))
		check(t, randomBytes(r, 10, ""))
	}
}

func TestP8_1Limit(t *testing.T) {
	for _, unit := range []string{"a", "(", " ", "\n", "a ", "a;", "->", "//..\n", "/"} {
		for n := mostBytes - 3; n <= mostBytes+3; n++ {
			s := strings.Repeat(unit, n/len(unit)+1)[:n]
			check(t, s)
		}
	}
	name := strings.Repeat("a", mostBytes)
	checkAlone(t, name, api.TokName)
	checkTokens(t, strings.Repeat(" ", mostBytes-1)+"7", api.Token{Kind: api.TokNumber, Text: "7", At: mostBytes - 1}, end(mostBytes))
	if tokens, _, e := lexer.Lex(strings.Repeat("(", mostBytes)); len(tokens) != mostBytes+1 || e != api.OK {
		t.Errorf("%d tokens, %d", len(tokens), e)
	}
	checkError(t, name[1:]+"!", mostBytes-1, api.ErrForm)
	checkError(t, "1"+name[1:], 0, api.ErrForm)
	checkError(t, name[3:]+" 01", mostBytes-2, api.ErrForm)
}

// A file that is too long and malformed, too, is too long.
func TestP8_1Big(t *testing.T) {
	name := strings.Repeat("a", mostBytes)
	for _, s := range []string{name + "a", name + " ", name + "\n", name + "//", name + "!", "!" + name, "01 " + name, strings.Repeat("!", mostBytes+1), strings.Repeat("1", mostBytes+1), strings.Repeat(" ", mostBytes+1), "//" + name, strings.Repeat(name, 30), strings.Repeat("\xff", 100000)} {
		checkError(t, s, 0, api.ErrBig)
	}
}

func TestP8_1Join(t *testing.T) {
	text := func(kind int, s string) api.Token { return api.Token{Kind: kind, Text: s, At: -5} }
	last := text(api.TokEnd, "z")
	for _, c := range []struct {
		want   string
		tokens []api.Token
	}{
		{"", nil},
		{"", []api.Token{}},
		{"", []api.Token{last}},
		{"", []api.Token{last, last, end(7)}},
		{"a", []api.Token{text(api.TokName, "a")}},
		{"a", []api.Token{last, text(api.TokName, "a"), last}},
		{"a b", []api.Token{text(api.TokName, "a"), text(api.TokName, "b")}},
		{"a b", []api.Token{last, text(api.TokName, "a"), last, last, text(api.TokName, "b"), last}},
		{"a -> 1 ; ;", []api.Token{text(api.TokName, "a"), text(api.TokSign, "->"), text(api.TokNumber, "1"), text(api.TokSign, ";"), text(api.TokSign, ";"), end(9)}},
		{"", []api.Token{text(api.TokName, "")}},
		{" ", []api.Token{text(api.TokName, ""), text(api.TokSign, "")}},
		{" a  b ", []api.Token{text(0, ""), text(-1, "a"), text(5, ""), last, text(math.MaxInt, "b"), text(math.MinInt, "")}},
		{"a b \n // \xff", []api.Token{text(9, "a b"), text(0, "\n"), text(3, "// \xff")}},
	} {
		if got := lexer.Join(c.tokens); got != c.want {
			t.Errorf("%v: %q, want %q", c.tokens, got, c.want)
		}
	}
}

// Join takes more tokens than a file has.
func TestP8_1JoinMany(t *testing.T) {
	var tokens []api.Token
	for range 3 * mostBytes {
		tokens = append(tokens, api.Token{Kind: api.TokSign, Text: "=="}, end(0))
	}
	if got, want := lexer.Join(tokens), strings.Repeat(" ==", 3*mostBytes)[1:]; got != want {
		t.Errorf("%d bytes, want %d", len(got), len(want))
	}
}

func TestP8_1Kind(t *testing.T) {
	for s, want := range map[string]int{
		"": 0, " ": 0, "\n": 0, "//": 0, "/": 0, "// a": 0, ">": 0, "!": 0, "A": 0, "é": 0, "\x00": 0, "\xff": 0,
		"a": api.TokName, "reg": api.TokName, "a0": api.TokName, "z99": api.TokName, " a": 0, "a ": 0, "\na": 0, "a\n": 0, "a//": 0, "aB": 0, "a_": 0, "a.": 0, "a b": 0, "a-": 0,
		"0": api.TokNumber, "10": api.TokNumber, "1000000": api.TokNumber, "1000001": 0, "9999999": 0, "00": 0, "01": 0, "1a": 0, "1 ": 0, " 1": 0, "-1": 0, "+1": 0, "1.": 0, "1 1": 0,
		"-": api.TokSign, "->": api.TokSign, "=": api.TokSign, "==": api.TokSign, "===": 0, "=>": 0, "- >": 0, "--": 0, "->>": 0, "()": 0, "( ": 0, "(//": 0, "(a": 0, "!=": 0, "<=": 0,
	} {
		checkKind(t, s, want)
	}
	eachShort(func(s string) { checkKind(t, s, kindAsSaid(s)) })
	for i := range 256 {
		for j := range 256 {
			s := string([]byte{byte(i), byte(j)})
			checkKind(t, s, kindAsSaid(s))
		}
	}
}

// A text has its kind also where no file is as long.
func TestP8_1KindOfLongText(t *testing.T) {
	for _, n := range []int{mostBytes - 1, mostBytes, mostBytes + 1, 5 * mostBytes} {
		name := strings.Repeat("q7", n)[:n]
		checkKind(t, name, api.TokName)
		checkKind(t, name+" ", 0)
		checkKind(t, name+"=", 0)
		checkKind(t, "7"+name, 0)
		checkKind(t, strings.Repeat("1", n), 0)
		checkKind(t, strings.Repeat("0", n), 0)
		checkKind(t, strings.Repeat(" ", n), 0)
		checkKind(t, strings.Repeat("=", n), 0)
		checkKind(t, "//"+name, 0)
	}
}

func TestP8_1Line(t *testing.T) {
	for _, c := range []struct {
		s                string
		at, line, column int
	}{
		{"", 0, 1, 1}, {"a", 0, 1, 1}, {"a", 1, 1, 2}, {"\n", 0, 1, 1}, {"\n", 1, 2, 1}, {"\n\n", 1, 2, 1}, {"\n\n", 2, 3, 1},
		{"ab\ncd\ne", 2, 1, 3}, {"ab\ncd\ne", 3, 2, 1}, {"ab\ncd\ne", 5, 2, 3}, {"ab\ncd\ne", 6, 3, 1}, {"ab\ncd\ne", 7, 3, 2},
		{"//\n!", 3, 2, 1}, {"a\r\nb", 2, 1, 3}, {"a\r\nb", 3, 2, 1}, {"\t\té!", 4, 1, 5}, {"\x80\xff", 2, 1, 3},
	} {
		checkLine(t, c.s, c.at, c.line, c.column)
	}
	r := source()
	for range 3000 {
		s := randomBytes(r, 60, oneOf(r, "", "a\n", "ab \n\r", "\n"))
		for at := -3; at <= len(s)+3; at++ {
			line, column := lineAsSaid(s, at)
			checkLine(t, s, at, line, column)
		}
	}
}

func TestP8_1LineOutside(t *testing.T) {
	for _, s := range []string{"", "a", "\n", "a\nb\n", strings.Repeat("\n", 9000)} {
		for _, at := range []int{math.MinInt, math.MinInt + 1, -1 << 32, -2, -1, len(s) + 1, len(s) + 2, 1 << 32, math.MaxInt - 1, math.MaxInt} {
			checkLine(t, s, at, 0, 0)
		}
	}
}

// Line takes texts that are too long or malformed for Lex.
func TestP8_1LineOfLongText(t *testing.T) {
	s := strings.Repeat("!\n", 3*mostBytes) + strings.Repeat("\xff", 3*mostBytes)
	checkLine(t, s, len(s), 3*mostBytes+1, 3*mostBytes+1)
	checkLine(t, s, 6*mostBytes, 3*mostBytes+1, 1)
	checkLine(t, s, 6*mostBytes-1, 3*mostBytes, 2)
	checkLine(t, s, len(s)+1, 0, 0)
}
