package process_test

import (
	"math"
	"slices"
	"testing"

	"wireloom/api"
	"wireloom/elaborate"
	"wireloom/process"
)

// checkFiring says whether a process does in a situation what is written down.
func checkFiring(t *testing.T, p api.Proc, x situation, want api.Firing) {
	t.Helper()
	if !elaborate.ValidProc(p) || !process.ValidState(p, x.S) {
		t.Fatalf("%+v in %+v is not valid", p, x)
	}
	if f := checkStep(t, p, x); !same(f, want) {
		t.Errorf("%+v in %+v: %+v, want %+v", p, x, f, want)
	}
}

// example is the process of the chapter.
func example() api.Proc {
	return api.Proc{
		Name: "p", Clock: "k", Regs: []api.Reg{{Name: "r", W: 2, Init: 1, Next: node(api.EAdd, reg(0), data(0))}},
		Takes: []api.Take{{Chan: 0, W: 2, When: yes}}, Puts: []api.Put{{Chan: 1, W: 2, When: node(api.EEq, reg(0), constant(3, 2)), Data: reg(0)}},
	}
}

func TestP12_1Example(t *testing.T) {
	p := example()
	if s := process.Reset(p); !same(s, state([]int{1})) {
		t.Error(s)
	}
	checkFiring(t, p, situation{state([]int{3}), []api.Head{word(2)}, []bool{true}}, api.Firing{Fires: true, S: state([]int{1}), Pops: []bool{true}, Puts: []api.Head{word(3)}})
	checkFiring(t, p, situation{state([]int{3}), []api.Head{word(2)}, []bool{false}}, api.Firing{S: state([]int{3}), Pops: []bool{false}, Puts: []api.Head{{}}})
	checkFiring(t, p, situation{state([]int{1}), []api.Head{word(2)}, []bool{false}}, api.Firing{Fires: true, S: state([]int{3}), Pops: []bool{true}, Puts: []api.Head{{}}})
	if v := process.Eval(p, state([]int{3}), []int{2}, p.Regs[0].Next); v != 1 {
		t.Error(v)
	}
}

// several is a process with registers, memories and takes of different widths; its state and data follow.
var (
	several = api.Proc{
		Regs:  []api.Reg{{W: 1, Next: reg(0)}, {W: 4, Next: reg(1)}, {W: 8, Next: reg(2)}, {W: 4, Next: reg(3)}},
		Mems:  []api.Mem{{W: 4, Words: 4, Enable: yes, Addr: yes, Data: reg(1)}, {W: 8, Words: 1, Enable: yes, Addr: yes, Data: reg(2)}, {W: 1, Words: 8, Enable: yes, Addr: yes, Data: yes}, {W: 3, Words: 2, Enable: yes, Addr: yes, Data: constant(0, 3)}},
		Takes: []api.Take{{Chan: 0, W: 8, When: yes}, {Chan: 1, W: 4, When: yes}, {Chan: 2, W: 1, When: yes}},
	}
	severalState = state([]int{1, 9, 200, 3}, []int{11, 12, 13, 14}, []int{77}, []int{0, 1, 0, 0, 1, 1, 0, 1}, []int{5, 6})
	severalData  = []int{250, 6, 1}
)

func TestP12_1Values(t *testing.T) {
	for i, x := range []struct {
		e    api.Expr
		want int
	}{
		{reg(0), 1}, {reg(1), 9}, {reg(2), 200}, {reg(3), 3}, {data(0), 250}, {data(1), 6}, {data(2), 1},
		{constant(0, 1), 0}, {constant(1, 1), 1}, {constant(15, 4), 15}, {constant(255, 8), 255}, {constant(3, 8), 3},
		{read(0, constant(0, 3)), 11}, {read(0, constant(3, 3)), 14}, {read(0, constant(4, 3)), 11}, {read(0, constant(7, 3)), 14}, {read(0, reg(1)), 12}, {read(0, data(0)), 13}, {read(0, constant(1, 1)), 12},
		{read(1, constant(0, 1)), 77}, {read(1, constant(1, 1)), 77}, {read(1, constant(255, 8)), 77}, {read(2, constant(7, 4)), 1}, {read(2, constant(8, 4)), 0}, {read(2, constant(9, 4)), 1}, {read(2, constant(15, 4)), 1}, {read(2, constant(14, 4)), 0},
		{read(3, constant(2, 2)), 5}, {read(3, constant(3, 2)), 6}, {read(3, read(0, read(2, reg(2)))), 6}, {read(0, read(0, reg(1))), 11}, {read(3, read(0, yes)), 5}, {read(0, read(3, yes)), 13},
		{node(api.ENot, reg(0)), 0}, {node(api.ENot, reg(1)), 6}, {node(api.ENot, reg(2)), 55}, {node(api.ENot, constant(0, 8)), 255},
		{node(api.EAnd, reg(1), data(1)), 0}, {node(api.EAnd, reg(1), reg(3)), 1}, {node(api.EOr, reg(1), data(1)), 15}, {node(api.EOr, reg(1), reg(3)), 11}, {node(api.EXor, reg(1), reg(3)), 10}, {node(api.EXor, reg(2), reg(2)), 0},
		{node(api.EAdd, reg(1), data(1)), 15}, {node(api.EAdd, reg(1), reg(1)), 2}, {node(api.EAdd, reg(2), data(0)), 194}, {node(api.EAdd, reg(0), data(2)), 0},
		{node(api.ESub, reg(1), data(1)), 3}, {node(api.ESub, data(1), reg(1)), 13}, {node(api.ESub, reg(2), data(0)), 206}, {node(api.ESub, constant(0, 1), yes), 1},
		{node(api.EEq, reg(1), constant(9, 4)), 1}, {node(api.EEq, reg(1), reg(3)), 0}, {node(api.ELt, reg(3), reg(1)), 1}, {node(api.ELt, reg(1), reg(3)), 0}, {node(api.ELt, reg(1), reg(1)), 0},
		{node(api.EMux, reg(0), reg(1), reg(3)), 9}, {node(api.EMux, node(api.ENot, reg(0)), reg(1), reg(3)), 3}, {node(api.EMux, data(2), data(0), reg(2)), 250},
		{node(api.ECat, reg(0), reg(1)), 25}, {node(api.ECat, reg(1), reg(0)), 19}, {node(api.ECat, reg(3), data(1)), 54}, {node(api.ECat, constant(0, 7), yes), 1},
		{slice(0, 4, reg(1)), 9}, {slice(0, 3, reg(1)), 1}, {slice(3, 1, reg(1)), 1}, {slice(1, 2, reg(1)), 0}, {slice(3, 5, reg(2)), 25}, {slice(7, 1, data(0)), 1},
		{extended(4, reg(1)), 9}, {extended(8, reg(1)), 9}, {extended(8, reg(0)), 1}, {extended(1, data(2)), 1},
		{node(api.EAdd, extended(8, reg(1)), node(api.ECat, slice(0, 2, data(1)), node(api.EXor, extended(6, reg(3)), constant(63, 6)))), 9 + 2*64 + 60},
		{node(api.EMux, node(api.ELt, read(0, reg(1)), node(api.ESub, reg(3), data(1))), node(api.ENot, read(1, reg(0))), data(0)), 255 - 77},
		{node(api.ENot, node(api.ECat, node(api.EEq, reg(1), reg(1)), slice(1, 3, read(0, constant(2, 2))))), 1},
	} {
		if _, e := elaborate.Width(several, x.e); e != api.OK {
			t.Fatal(i, "has no width")
		}
		if v := checkValue(t, several, severalState, severalData, x.e); v != x.want {
			t.Errorf("%d: %+v: %d, want %d", i, x.e, v, x.want)
		}
		if v := process.Eval(several, severalState, severalData, node(api.ENot, node(api.ENot, x.e))); v != x.want {
			t.Errorf("%d: twice inverted %+v: %d, want %d", i, x.e, v, x.want)
		}
	}
}

// All operators with arguments of up to three bits, whose values are constants, registers and words.
func TestP12_1AllOperators(t *testing.T) {
	for a := 1; a <= 3; a++ {
		for b := 1; b <= 3; b++ {
			p := api.Proc{Regs: []api.Reg{{W: a}, {W: b}}, Takes: []api.Take{{W: a}, {W: b}}, Mems: []api.Mem{{W: a, Words: 1}}}
			for _, x := range numbers(a) {
				for _, y := range numbers(b) {
					for _, e := range overTwo(a, b) {
						checkValue(t, p, state([]int{x, y}, []int{x}), []int{x, y}, e)
						checkValue(t, p, state([]int{x, y}, []int{x}), []int{y % (1 << a), x % (1 << b)}, e)
					}
				}
			}
		}
	}
}

// overTwo is expressions with each operator, whose arguments have the widths a and b.
func overTwo(a, b int) []api.Expr {
	l := []api.Expr{node(api.ECat, reg(0), reg(1)), node(api.ECat, data(0), reg(1)), node(api.ECat, reg(1), read(0, reg(1))), node(api.ENot, reg(1)), node(api.ENot, data(1))}
	for k := range a {
		for w := 1; k+w <= a; w++ {
			l = append(l, slice(k, w, reg(0)), slice(k, w, data(0)))
		}
	}
	for w := b; w <= mostBits; w++ {
		l = append(l, extended(w, reg(1)), extended(w, data(1)))
	}
	if a == b {
		for _, op := range []int{api.EAnd, api.EOr, api.EXor, api.EAdd, api.ESub, api.EEq, api.ELt} {
			l = append(l, node(op, reg(0), reg(1)), node(op, data(1), reg(0)), node(op, read(0, data(1)), data(1)))
		}
	}
	if a == 1 {
		l = append(l, node(api.EMux, reg(0), reg(1), data(1)), node(api.EMux, data(0), data(1), node(api.ENot, reg(1))))
	}
	return l
}

// gates is a process with two takes and two puts, each with its own condition, which all have another effect.
func gates() api.Proc {
	return api.Proc{
		Name: "p", Clock: "k",
		Regs:  []api.Reg{{Name: "a", W: 1, Next: reg(0)}, {Name: "b", W: 1, Next: reg(1)}, {Name: "c", W: 1, Next: reg(2)}, {Name: "d", W: 8, Init: 7, Next: node(api.ECat, data(0), data(1))}},
		Takes: []api.Take{{Chan: 0, W: 4, When: reg(0)}, {Chan: 1, W: 4, When: reg(1)}},
		Puts:  []api.Put{{Chan: 2, W: 4, When: reg(2), Data: data(0)}, {Chan: 3, W: 4, When: node(api.EEq, data(1), constant(5, 4)), Data: node(api.ENot, data(1))}},
	}
}

// Each combination of takes and puts that are due or not, of words and of room.
func TestP12_1TakesAndPuts(t *testing.T) {
	bit := func(set, n int) bool { return set>>n&1 == 1 }
	for set := range 1 << 7 {
		for _, v := range []int{5, 6} {
			regs := []int{set & 1, set >> 1 & 1, set >> 2 & 1, 99}
			x := situation{state(regs), []api.Head{{Has: bit(set, 3), V: 9}, {Has: bit(set, 4), V: v}}, []bool{bit(set, 5), bit(set, 6)}}
			first, second := bit(set, 0), bit(set, 1)
			var d [2]int
			if first && bit(set, 3) {
				d[0] = 9
			}
			if second && bit(set, 4) {
				d[1] = v
			}
			want := api.Firing{S: state(regs), Pops: []bool{false, false}, Puts: []api.Head{{}, {}}}
			if (!first || bit(set, 3)) && (!second || bit(set, 4)) && (!bit(set, 2) || bit(set, 5)) && (d[1] != 5 || bit(set, 6)) {
				want = api.Firing{Fires: true, S: state([]int{regs[0], regs[1], regs[2], 16*d[0] + d[1]}), Pops: []bool{first, second}, Puts: []api.Head{{}, {}}}
				if bit(set, 2) {
					want.Puts[0] = word(d[0])
				}
				if d[1] == 5 {
					want.Puts[1] = word(10)
				}
			}
			checkFiring(t, gates(), x, want)
		}
	}
}

// Where a head has no word, its V does not matter; where it has one that is not taken, this does not either.
func TestP12_1WhatIsNotTaken(t *testing.T) {
	for _, v := range []int{0, 1, 15, 16, -1, math.MinInt, math.MaxInt} {
		x := situation{state([]int{0, 0, 0, 1}), []api.Head{{V: v}, {V: 5}}, []bool{false, false}}
		checkFiring(t, gates(), x, api.Firing{Fires: true, S: state([]int{0, 0, 0, 0}), Pops: []bool{false, false}, Puts: []api.Head{{}, {}}})
		x = situation{state([]int{0, 1, 0, 1}), []api.Head{{V: v}, {V: v}}, []bool{true, true}}
		checkFiring(t, gates(), x, api.Firing{S: state([]int{0, 1, 0, 1}), Pops: []bool{false, false}, Puts: []api.Head{{}, {}}})
		x = situation{state([]int{0, 1, 1, 1}), []api.Head{word(v & 15), word(5)}, []bool{true, true}}
		checkFiring(t, gates(), x, api.Firing{Fires: true, S: state([]int{0, 1, 1, 5}), Pops: []bool{false, true}, Puts: []api.Head{word(0), word(10)}})
	}
}

// A take without a word counts as 0 for what is due, and the process fires if a put that is not due then has no room, but it does not if the take is due.
func TestP12_1PutsThatDependOnWords(t *testing.T) {
	p := api.Proc{
		Name: "p", Regs: []api.Reg{{Name: "r", W: 1, Next: node(api.ENot, reg(0))}},
		Takes: []api.Take{{Chan: 0, W: 2, When: reg(0)}}, Puts: []api.Put{{Chan: 1, W: 2, When: node(api.EEq, data(0), constant(0, 2)), Data: node(api.EAdd, data(0), constant(1, 2))}},
	}
	none, added := []api.Head{{}}, []api.Head{word(1)}
	for _, c := range []struct {
		r    int
		h    api.Head
		room bool
		want api.Firing
	}{
		{0, word(3), true, api.Firing{Fires: true, S: state([]int{1}), Pops: []bool{false}, Puts: added}}, {0, word(3), false, api.Firing{S: state([]int{0}), Pops: []bool{false}, Puts: none}},
		{0, api.Head{}, true, api.Firing{Fires: true, S: state([]int{1}), Pops: []bool{false}, Puts: added}}, {0, api.Head{V: 3}, false, api.Firing{S: state([]int{0}), Pops: []bool{false}, Puts: none}},
		{1, word(3), true, api.Firing{Fires: true, S: state([]int{0}), Pops: []bool{true}, Puts: none}}, {1, word(3), false, api.Firing{Fires: true, S: state([]int{0}), Pops: []bool{true}, Puts: none}},
		{1, word(0), true, api.Firing{Fires: true, S: state([]int{0}), Pops: []bool{true}, Puts: added}}, {1, word(0), false, api.Firing{S: state([]int{1}), Pops: []bool{false}, Puts: none}},
		{1, api.Head{}, true, api.Firing{S: state([]int{1}), Pops: []bool{false}, Puts: none}}, {1, api.Head{V: 3}, true, api.Firing{S: state([]int{1}), Pops: []bool{false}, Puts: none}},
	} {
		checkFiring(t, p, situation{state([]int{c.r}), []api.Head{c.h}, []bool{c.room}}, c.want)
	}
}

// store is a process with a memory that is written by the words that it takes, and one that is written the other way.
func store(words int) api.Proc {
	return api.Proc{
		Name:  "p",
		Mems:  []api.Mem{{Name: "m", W: 4, Words: words, Enable: slice(0, 1, data(2)), Addr: data(0), Data: data(1)}, {Name: "n", W: 4, Words: 2, Enable: slice(1, 1, data(2)), Addr: data(1), Data: read(0, data(0))}},
		Takes: []api.Take{{Chan: 0, W: 4, When: yes}, {Chan: 1, W: 4, When: yes}, {Chan: 2, W: 2, When: yes}}, Puts: []api.Put{{Chan: 3, W: 4, When: yes, Data: read(0, data(0))}},
	}
}

// Memories of each size, at each address, with both written or not.
func TestP12_1Memories(t *testing.T) {
	for _, words := range []int{1, 2, 4, 8} {
		for at := range 16 {
			for enabled := range 4 {
				m, n := []int{1, 3, 5, 7, 9, 11, 13, 15}[:words], []int{2, 4}
				before := state(nil, m, n)
				v := 6 + at%2
				after := copyOf(before)
				if enabled&1 == 1 {
					after.Mems[0][at%words] = v
				}
				if enabled&2 == 2 {
					after.Mems[1][v%2] = m[at%words]
				}
				x := situation{before, []api.Head{word(at), word(v), word(enabled)}, []bool{true}}
				checkFiring(t, store(words), x, api.Firing{Fires: true, S: after, Pops: []bool{true, true, true}, Puts: []api.Head{word(m[at%words])}})
				x.Rooms[0] = false
				checkFiring(t, store(words), x, api.Firing{S: before, Pops: []bool{false, false, false}, Puts: []api.Head{{}}})
			}
		}
	}
}

// All values are taken in the old state: two registers and two memories that are exchanged.
func TestP12_1AtOnce(t *testing.T) {
	p := api.Proc{
		Name: "p", Regs: []api.Reg{{Name: "r", W: 3, Next: reg(1)}, {Name: "s", W: 3, Next: reg(0)}, {Name: "u", W: 3, Next: read(0, reg(0))}, {Name: "v", W: 3, Next: node(api.EAdd, reg(3), reg(2))}},
		Mems: []api.Mem{{Name: "m", W: 3, Words: 2, Enable: yes, Addr: reg(0), Data: read(1, reg(0))}, {Name: "n", W: 3, Words: 2, Enable: yes, Addr: reg(0), Data: read(0, reg(0))}},
		Puts: []api.Put{{Chan: 0, W: 3, When: node(api.EEq, reg(0), constant(1, 3)), Data: read(1, reg(0))}, {Chan: 1, W: 3, When: yes, Data: reg(3)}},
	}
	x := situation{S: state([]int{1, 2, 3, 4}, []int{1, 2}, []int{3, 4}), Rooms: []bool{true, true}}
	checkFiring(t, p, x, api.Firing{Fires: true, S: state([]int{2, 1, 2, 7}, []int{1, 4}, []int{3, 2}), Puts: []api.Head{word(4), word(4)}})
	x.S = process.Step(p, x.S, nil, x.Rooms).S
	checkFiring(t, p, x, api.Firing{Fires: true, S: state([]int{1, 2, 1, 1}, []int{3, 4}, []int{1, 2}), Puts: []api.Head{{}, word(7)}})
}

// Processes that have only some of the parts, or none.
func TestP12_1FewParts(t *testing.T) {
	checkFiring(t, api.Proc{}, situation{}, api.Firing{Fires: true})
	checkFiring(t, api.Proc{Regs: []api.Reg{{W: 1, Next: node(api.ENot, reg(0))}}}, situation{S: state([]int{1})}, api.Firing{Fires: true, S: state([]int{0})})
	checkFiring(t, api.Proc{Mems: []api.Mem{{W: 1, Words: 1, Enable: yes, Addr: no, Data: yes}}}, situation{S: state(nil, []int{0})}, api.Firing{Fires: true, S: state(nil, []int{1})})
	checkFiring(t, api.Proc{Mems: []api.Mem{{W: 1, Words: 1, Enable: no, Addr: no, Data: yes}}}, situation{S: state(nil, []int{0})}, api.Firing{Fires: true, S: state(nil, []int{0})})
	take, put := api.Proc{Takes: []api.Take{{W: 1, When: yes}}}, api.Proc{Puts: []api.Put{{W: 1, When: yes, Data: yes}}}
	checkFiring(t, take, situation{Heads: []api.Head{word(1)}}, api.Firing{Fires: true, Pops: []bool{true}})
	checkFiring(t, take, situation{Heads: []api.Head{{}}}, api.Firing{Pops: []bool{false}})
	checkFiring(t, put, situation{Rooms: []bool{true}}, api.Firing{Fires: true, Puts: []api.Head{word(1)}})
	checkFiring(t, put, situation{Rooms: []bool{false}}, api.Firing{Puts: []api.Head{{}}})
	take.Takes[0].When, put.Puts[0].When = no, no
	checkFiring(t, take, situation{Heads: []api.Head{{}}}, api.Firing{Fires: true, Pops: []bool{false}})
	checkFiring(t, take, situation{Heads: []api.Head{word(1)}}, api.Firing{Fires: true, Pops: []bool{false}})
	checkFiring(t, put, situation{Rooms: []bool{false}}, api.Firing{Fires: true, Puts: []api.Head{{}}})
	checkFiring(t, put, situation{Rooms: []bool{true}}, api.Firing{Fires: true, Puts: []api.Head{{}}})
}

func TestP12_1Reset(t *testing.T) {
	p := api.Proc{Regs: []api.Reg{{W: 1}, {W: 4, Init: 15}, {W: 8, Init: 255}, {W: 8, Init: 1}}}
	if s := process.Reset(p); !same(s, state([]int{0, 15, 255, 1})) {
		t.Error(s)
	}
	p.Mems = []api.Mem{{W: 8, Words: 4}, {W: 1, Words: 1}, {W: 3, Words: 8}, {W: 3, Words: 2}}
	if s := process.Reset(p); !same(s, state([]int{0, 15, 255, 1}, make([]int, 4), []int{0}, make([]int, 8), []int{0, 0})) {
		t.Error(s)
	}
	p.Regs = nil
	if s := process.Reset(p); !same(s, state(nil, make([]int, 4), []int{0}, make([]int, 8), []int{0, 0})) {
		t.Error(s)
	}
	if s := process.Reset(api.Proc{}); !same(s, api.ProcState{}) {
		t.Error(s)
	}
}

// What is a state of a process with registers and memories, and what is not.
func TestP12_1States(t *testing.T) {
	p := api.Proc{Regs: []api.Reg{{W: 1}, {W: 4}, {W: 8}}, Mems: []api.Mem{{W: 3, Words: 2}, {W: 8, Words: 1}}}
	regs, m, n := []int{1, 15, 255}, []int{7, 0}, []int{255}
	for want, l := range map[bool][]api.ProcState{
		true: {state(regs, m, n), state([]int{0, 0, 0}, []int{0, 0}, []int{0}), state([]int{1, 1, 1}, []int{1, 7}, []int{8})},
		false: {
			{}, state(nil, m, n), state(regs), state(regs, m), state(regs, n), state(regs, n, m), state(regs, m, n, nil), state(regs, m, n, n), state(regs, nil, m, n), state(regs, nil, nil), state(regs, m, nil), state(regs, nil, n),
			state([]int{1, 15}, m, n), state([]int{1, 15, 255, 0}, m, n), state([]int{2, 15, 255}, m, n), state([]int{1, 16, 255}, m, n), state([]int{1, 15, 256}, m, n), state([]int{255, 15, 1}, m, n),
			state([]int{-1, 15, 255}, m, n), state([]int{1, -1, 255}, m, n), state([]int{1, 15, -1}, m, n), state([]int{math.MinInt, 15, 255}, m, n), state([]int{1, math.MaxInt, 255}, m, n), state([]int{1, 15, 1<<32 + 1}, m, n),
			state(regs, []int{7}, n), state(regs, []int{7, 0, 0}, n), state(regs, []int{8, 0}, n), state(regs, []int{0, 8}, n), state(regs, []int{-1, 0}, n), state(regs, []int{0, -1}, n),
			state(regs, m, []int{256}), state(regs, m, []int{-1}), state(regs, m, []int{0, 0}), state(regs, m, []int{math.MaxInt}), state(regs, m, []int{math.MinInt}), state(regs, m, []int{1 << 32}),
		},
	} {
		for _, s := range l {
			if checkState(t, p, s) != want {
				t.Errorf("%+v: %v", s, !want)
			}
		}
	}
	for _, s := range []api.ProcState{state([]int{0}), state(nil, nil), state(nil, []int{0})} {
		if checkState(t, api.Proc{}, s) {
			t.Errorf("%+v", s)
		}
	}
	for _, s := range []api.ProcState{{}, {Regs: []int{}, Mems: [][]int{}}} {
		if !checkState(t, api.Proc{}, s) {
			t.Errorf("%+v", s)
		}
	}
}

// Values of each width, and lists of words of each length.
func TestP12_1StateLimits(t *testing.T) {
	for w := 1; w <= mostBits; w++ {
		for v := -300; v < 600; v++ {
			want := v >= 0 && v < 1<<w
			if checkState(t, api.Proc{Regs: []api.Reg{{W: w}}}, state([]int{v})) != want || checkState(t, api.Proc{Mems: []api.Mem{{W: w, Words: 2}}}, state(nil, []int{0, v})) != want {
				t.Error(w, v)
			}
		}
	}
	for _, words := range []int{1, 2, 4, 8} {
		for n := range 20 {
			if checkState(t, api.Proc{Mems: []api.Mem{{W: 1, Words: words}}}, state(nil, slices.Repeat([]int{1}, n))) != (n == words) {
				t.Error(words, n)
			}
		}
	}
}
