package network

import (
	"wireloom/api"
	"wireloom/process"
)

// worker is a circuit at work: its processes change its state.
type worker struct {
	api.Circuit
	state api.State
}

// atWork returns a circuit that works on a copy of a state.
func atWork(c api.Circuit, s api.State) *worker {
	return &worker{c, copyOf(s)}
}

// copyOf returns a state with lists of its own.
func copyOf(s api.State) api.State {
	var c api.State
	for _, p := range s.Procs {
		c.Procs = append(c.Procs, api.ProcState{Regs: append([]int{}, p.Regs...), Mems: copiesOf(p.Mems)})
	}
	c.Chans = copiesOf(s.Chans)
	return c
}

func copiesOf(lists [][]int) [][]int {
	var all [][]int
	for _, l := range lists {
		all = append(all, append([]int{}, l...))
	}
	return all
}

// has reports whether there is a process with the index p.
func (w *worker) has(p int) bool {
	return p >= 0 && p < len(w.Procs)
}

// step returns what a process does at a tick now.
func (w *worker) step(p int) api.Firing {
	var heads []api.Head
	for _, t := range w.Procs[p].Takes {
		heads = append(heads, w.head(t.Chan))
	}
	var rooms []bool
	for _, t := range w.Procs[p].Puts {
		rooms = append(rooms, w.hasRoom(t.Chan))
	}
	return process.Step(w.Procs[p], w.state.Procs[p], heads, rooms)
}

// head returns the oldest word of a channel, if it has one.
func (w *worker) head(channel int) api.Head {
	words := w.state.Chans[channel]
	if len(words) == 0 {
		return api.Head{}
	}
	return api.Head{Has: true, V: words[0]}
}

func (w *worker) hasRoom(channel int) bool {
	ch := w.Chans[channel]
	return ch.To == -1 || len(w.state.Chans[channel]) < ch.Cap
}

// fire fires those of some processes that can fire, and reports for each process of the circuit whether it fired.
func (w *worker) fire(procs ...int) []bool {
	var steps []api.Firing
	for _, p := range procs { // all steps before the first change, so that they see the old state
		steps = append(steps, w.step(p))
	}
	fired := make([]bool, len(w.Procs))
	for i, p := range procs {
		if steps[i].Fires {
			w.carryOut(p, steps[i])
			fired[p] = true
		}
	}
	return fired
}

// carryOut changes the state as the step of a process that fires says.
func (w *worker) carryOut(p int, f api.Firing) {
	w.state.Procs[p] = f.S
	for k, t := range w.Procs[p].Takes {
		if f.Pops[k] {
			w.change(t.Chan, func(l []int) []int { return l[1:] })
		}
	}
	for k, t := range w.Procs[p].Puts {
		if f.Puts[k].Has {
			w.change(t.Chan, func(l []int) []int { return append(l, f.Puts[k].V) })
		}
	}
}

// change moves words into a channel or out of it.
func (w *worker) change(channel int, move func(words []int) []int) {
	w.state.Chans[channel] = move(w.state.Chans[channel])
}

// tick fires the processes with a clock that can fire.
func (w *worker) tick(clock string) []bool {
	var procs []int
	for k, p := range w.Procs {
		if p.Clock == clock {
			procs = append(procs, k)
		}
	}
	return w.fire(procs...)
}

// fireFirst fires the first process that can fire, and returns its index, or -1 if there is none.
func (w *worker) fireFirst() int {
	for p := range w.Procs {
		if w.fire(p)[p] {
			return p
		}
	}
	return -1
}
