package process_test

import (
	"fmt"
	"slices"
	"strings"
	"testing"

	"wireloom/api"
	"wireloom/process"
)

const mostBits = 8

// text is the lowest bits of a number, the highest one first.
func text(v, w int) string { return fmt.Sprintf("%064b", uint64(v))[64-w:] }

// number is the number with these bits, the highest one first.
func number(bits string) int {
	v := 0
	for _, c := range bits {
		v = 2*v + int(c-'0')
	}
	return v
}

func truth(b bool) string {
	if b {
		return "1"
	}
	return "0"
}

// perBit combines the bits of two texts: the result of two bits is in table, by how many of them are 1.
func perBit(a, b, table string) string {
	var s strings.Builder
	for i := range a {
		s.WriteByte(table[a[i]-'0'+b[i]-'0'])
	}
	return s.String()
}

// bitsAsSaid is the value of an expression, as a text of its bits.
func bitsAsSaid(p api.Proc, s api.ProcState, data []int, e api.Expr) string {
	var a []string
	for _, arg := range e.Args {
		a = append(a, bitsAsSaid(p, s, data, arg))
	}
	k, w := e.K.N, e.W.N
	switch e.Op {
	case api.EReg:
		return text(s.Regs[k], p.Regs[k].W)
	case api.ERead:
		return text(s.Mems[k][number(a[0])%p.Mems[k].Words], p.Mems[k].W)
	case api.EData:
		return text(data[k], p.Takes[k].W)
	case api.EConst:
		return text(k, w)
	case api.ENot:
		return perBit(a[0], strings.Repeat("1", len(a[0])), "?10")
	case api.EAnd:
		return perBit(a[0], a[1], "001")
	case api.EOr:
		return perBit(a[0], a[1], "011")
	case api.EXor:
		return perBit(a[0], a[1], "010")
	case api.EAdd:
		return text(number(a[0])+number(a[1]), len(a[0]))
	case api.ESub:
		return text(number(a[0])-number(a[1]), len(a[0]))
	case api.EEq:
		return truth(a[0] == a[1])
	case api.ELt:
		return truth(a[0] < a[1])
	case api.EMux:
		return a[2-number(a[0])]
	case api.ECat:
		return a[0] + a[1]
	case api.ESlice:
		return a[0][len(a[0])-k-w : len(a[0])-k]
	case api.EExt:
		return strings.Repeat("0", w-len(a[0])) + a[0]
	}
	panic(fmt.Sprint("operator ", e.Op))
}

// stepAsSaid is what a process does at a tick, line by line of the chapter.
func stepAsSaid(p api.Proc, x situation) api.Firing {
	current := make([]int, len(p.Takes))
	value := func(e api.Expr) int { return number(bitsAsSaid(p, x.S, current, e)) }
	var takes, puts []bool
	for _, t := range p.Takes {
		takes = append(takes, number(bitsAsSaid(p, x.S, nil, t.When)) == 1)
	}
	for k, h := range x.Heads {
		if takes[k] && h.Has {
			current[k] = h.V
		}
	}
	f := api.Firing{Fires: true, Pops: make([]bool, len(p.Takes)), Puts: make([]api.Head, len(p.Puts)), S: copyOf(x.S)}
	for k, due := range takes {
		f.Fires = f.Fires && (!due || x.Heads[k].Has)
	}
	for k, t := range p.Puts {
		puts = append(puts, value(t.When) == 1)
		f.Fires = f.Fires && (!puts[k] || x.Rooms[k])
	}
	if !f.Fires {
		return f
	}
	f.Pops = takes
	for k, t := range p.Puts {
		if puts[k] {
			f.Puts[k] = api.Head{Has: true, V: value(t.Data)}
		}
	}
	for k, t := range p.Regs {
		f.S.Regs[k] = value(t.Next)
	}
	for k, m := range p.Mems {
		if value(m.Enable) == 1 {
			f.S.Mems[k][value(m.Addr)%m.Words] = value(m.Data)
		}
	}
	return f
}

// isStateAsSaid reports whether something is a state of a process.
func isStateAsSaid(p api.Proc, s api.ProcState) bool {
	isValue := func(v, w int) bool { return slices.Contains(numbers(w), v) }
	if len(s.Regs) != len(p.Regs) || len(s.Mems) != len(p.Mems) {
		return false
	}
	for k, v := range s.Regs {
		if !isValue(v, p.Regs[k].W) {
			return false
		}
	}
	for k, words := range s.Mems {
		if len(words) != p.Mems[k].Words {
			return false
		}
		for _, v := range words {
			if !isValue(v, p.Mems[k].W) {
				return false
			}
		}
	}
	return true
}

// numbers is all values of a width.
func numbers(w int) []int {
	var l []int
	for v := range 1 << w {
		l = append(l, v)
	}
	return l
}

// checkStep says whether a process does what the chapter says, and returns what it does.
func checkStep(t *testing.T, p api.Proc, x situation) api.Firing {
	t.Helper()
	f := step(p, x)
	if want := stepAsSaid(p, x); !same(f, want) {
		t.Fatalf("%+v in %+v: %+v, want %+v", p, x, f, want)
	}
	return f
}

// checkValue says whether an expression has the value that the chapter says, and returns it.
func checkValue(t *testing.T, p api.Proc, s api.ProcState, data []int, e api.Expr) int {
	t.Helper()
	v := process.Eval(p, s, data, e)
	if want := number(bitsAsSaid(p, s, data, e)); v != want {
		t.Fatalf("%+v in %+v with %v of %+v: %d, want %d", e, s, data, p, v, want)
	}
	return v
}

// checkState says whether something is a state as the chapter says.
func checkState(t *testing.T, p api.Proc, s api.ProcState) bool {
	t.Helper()
	is := process.ValidState(p, s)
	if is != isStateAsSaid(p, s) {
		t.Fatalf("%+v of %+v: %v", s, p, is)
	}
	return is
}
