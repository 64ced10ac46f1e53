package lexer

import (
	"strings"

	"wireloom/api"
)

// greatest is the greatest value of a number.
const greatest = 1000000

// signs lists the signs, those first that begin with another one.
var signs = [...]string{
	"->", "==", "(", ")", "{", "}", "[", "]", ",", ";", ":", "=",
	"+", "-", "&", "|", "^", "~", "<", "?", "@", "#", ".",
}

// white is the kind of white space; no token has it.
const white = 0

// piece is a token or white space: its kind, and its number of bytes, which is 0 if there is none.
type piece struct{ kind, length int }

// rest is what is still to be read of a source file.
type rest string

// first returns the piece that r begins with.
func (r rest) first() piece {
	for _, scan := range [...]func(rest) piece{rest.space, rest.word, rest.sign} {
		if p := scan(r); p.length > 0 {
			return p
		}
	}
	return piece{}
}

// space returns the white space that r begins with, up to the end of a comment.
func (r rest) space() piece {
	if strings.HasPrefix(string(r), "//") {
		return piece{white, r.span(func(b byte) bool { return b != '\n' })}
	}
	return piece{white, r.span(func(b byte) bool { return b == ' ' || b == '\n' })}
}

// word returns the name or number that the word at the beginning of r is.
func (r rest) word() piece {
	n := r.span(func(b byte) bool { return isLetter(b) || isDigit(b) })
	switch w := string(r[:n]); {
	case isName(w):
		return piece{api.TokName, n}
	case isNumber(w):
		return piece{api.TokNumber, n}
	}
	return piece{}
}

// sign returns the sign that r begins with.
func (r rest) sign() piece {
	for _, s := range signs {
		if strings.HasPrefix(string(r), s) {
			return piece{api.TokSign, len(s)}
		}
	}
	return piece{}
}

// span returns how many bytes of a set r begins with.
func (r rest) span(has func(b byte) bool) int {
	n := 0
	for n < len(r) && has(r[n]) {
		n++
	}
	return n
}

// isName reports whether a word is a name; an empty one is not.
func isName(word string) bool {
	return word != "" && isLetter(word[0])
}

// isNumber reports whether a word is a number; an empty one is not.
func isNumber(word string) bool {
	if word == "" || word[0] == '0' {
		return word == "0"
	}
	value := 0
	for i := range len(word) {
		if !isDigit(word[i]) {
			return false
		}
		// Many digits would not fit an int.
		value = min(10*value+int(word[i]-'0'), greatest+1)
	}
	return value <= greatest
}

func isLetter(b byte) bool {
	return b >= 'a' && b <= 'z'
}

func isDigit(b byte) bool {
	return b >= '0' && b <= '9'
}
