package network_test

import (
	"math"
	"slices"
	"testing"

	"wireloom/api"
	"wireloom/network"
	"wireloom/process"
)

// isStateAsSaid reports whether something is a state of a circuit.
func isStateAsSaid(c api.Circuit, s api.State) bool {
	is := len(s.Procs) == len(c.Procs) && len(s.Chans) == len(c.Chans)
	for k := range c.Procs {
		is = is && process.ValidState(c.Procs[k], s.Procs[k])
	}
	for k, ch := range c.Chans {
		if !is {
			return false
		}
		if between := ch.From >= 0 && ch.To >= 0; between && len(s.Chans[k]) > ch.Cap {
			return false
		}
		for _, v := range s.Chans[k] {
			is = is && slices.Contains(numbers(ch.W), v)
		}
	}
	return is
}

// numbers is all values of a width.
func numbers(w int) []int {
	var l []int
	for v := range 1 << w {
		l = append(l, v)
	}
	return l
}

// stepAsSaid is the step of a process, with the heads and rooms of its channels.
func stepAsSaid(c api.Circuit, s api.State, p int) api.Firing {
	heads, rooms := make([]api.Head, len(c.Procs[p].Takes)), make([]bool, len(c.Procs[p].Puts))
	for k, t := range c.Procs[p].Takes {
		for _, v := range slices.Backward(s.Chans[t.Chan]) { // the oldest one is the last one here
			heads[k] = api.Head{Has: true, V: v}
		}
	}
	for k, t := range c.Procs[p].Puts {
		rooms[k] = c.Chans[t.Chan].To == -1 || len(s.Chans[t.Chan]) < c.Chans[t.Chan].Cap
	}
	return process.Step(c.Procs[p], s.Procs[p], heads, rooms)
}

// firedAsSaid is the state behind the firing of a set of processes that can fire, channel by channel.
func firedAsSaid(c api.Circuit, s api.State, set ...int) api.State {
	u := copyOf(s)
	steps := map[int]api.Firing{}
	for _, p := range set {
		steps[p] = stepAsSaid(c, s, p)
		u.Procs[p] = steps[p].S
	}
	for k, ch := range c.Chans {
		if f := steps[ch.To]; f.Fires {
			at := slices.IndexFunc(c.Procs[ch.To].Takes, func(t api.Take) bool { return t.Chan == k })
			if f.Pops[at] {
				u.Chans[k] = without(u.Chans[k], 0)
			}
		}
		if f := steps[ch.From]; f.Fires {
			at := slices.IndexFunc(c.Procs[ch.From].Puts, func(t api.Put) bool { return t.Chan == k })
			if f.Puts[at].Has {
				u.Chans[k] = slices.Concat(u.Chans[k], []int{f.Puts[at].V})
			}
		}
	}
	return u
}

// tickAsSaid is the state behind a tick, and which processes fire.
func tickAsSaid(c api.Circuit, s api.State, clock string) (api.State, []bool) {
	var set []int
	fired := make([]bool, len(c.Procs))
	for _, p := range able(c, s) {
		if c.Procs[p].Clock == clock {
			set, fired[p] = append(set, p), true
		}
	}
	return firedAsSaid(c, s, set...), fired
}

// settledAsSaid is what Settle returns.
func settledAsSaid(c api.Circuit, s api.State, budget int) (api.State, []int, api.Errno) {
	counts := make([]int, len(c.Procs))
	for fires := 0; ; fires++ {
		l := able(c, s)
		if len(l) == 0 {
			return s, counts, api.OK
		}
		if fires >= budget {
			return s, counts, api.ErrSpent
		}
		s = firedAsSaid(c, s, l[0])
		counts[l[0]]++
	}
}

// feedAsSaid is what Feed returns.
func feedAsSaid(c api.Circuit, s api.State, channel int, words []int) (api.State, api.Errno) {
	if channel < 0 || channel >= len(c.Chans) || c.Chans[channel].From != -1 {
		return api.State{}, api.ErrArg
	}
	for _, v := range words {
		if !slices.Contains(numbers(c.Chans[channel].W), v) {
			return api.State{}, api.ErrArg
		}
	}
	u := copyOf(s)
	u.Chans[channel] = slices.Concat(s.Chans[channel], words)
	return u, api.OK
}

// collectAsSaid is what Collect returns.
func collectAsSaid(c api.Circuit, s api.State, channel int) ([]int, api.State, api.Errno) {
	if channel < 0 || channel >= len(c.Chans) || c.Chans[channel].To != -1 {
		return nil, api.State{}, api.ErrArg
	}
	u := copyOf(s)
	u.Chans[channel] = nil
	return s.Chans[channel], u, api.OK
}

// indices is all indices below n, and some beside them.
func indices(n int) []int {
	l := []int{-1, -2, n, n + 1, math.MinInt, math.MaxInt, 1 << 32}
	for k := range n {
		l = append(l, k)
	}
	return l
}

func checkState(t *testing.T, c api.Circuit, s api.State) bool {
	t.Helper()
	is := network.ValidState(c, s)
	if is != isStateAsSaid(c, s) {
		t.Fatalf("%+v of %+v: %v", s, c, is)
	}
	return is
}

func checkFeed(t *testing.T, c api.Circuit, s api.State, channel int, words []int) (api.State, api.Errno) {
	t.Helper()
	u, e := network.Feed(c, s, channel, words)
	if want, errno := feedAsSaid(c, s, channel, words); !same(u, want) || e != errno {
		t.Fatalf("%v into %d of %+v in %+v: %+v, %d, want %+v, %d", words, channel, c, s, u, e, want, errno)
	}
	return u, e
}

func checkCollect(t *testing.T, c api.Circuit, s api.State, channel int) ([]int, api.State, api.Errno) {
	t.Helper()
	l, u, e := network.Collect(c, s, channel)
	if words, want, errno := collectAsSaid(c, s, channel); !same(l, words) || !same(u, want) || e != errno {
		t.Fatalf("%d of %+v in %+v: %v, %+v, %d, want %v, %+v, %d", channel, c, s, l, u, e, words, want, errno)
	}
	return l, u, e
}

// checkFire says whether Can and Fire do what the chapter says.
func checkFire(t *testing.T, c api.Circuit, s api.State, p int) (api.State, bool) {
	t.Helper()
	want, fires := s, slices.Contains(able(c, s), p)
	if fires {
		want = firedAsSaid(c, s, p)
	}
	if can := network.Can(c, s, p); can != fires {
		t.Fatalf("%d of %+v in %+v: %v", p, c, s, can)
	}
	u, fired := network.Fire(c, s, p)
	if !same(u, want) || fired != fires {
		t.Fatalf("%d of %+v in %+v: %+v, %v, want %+v, %v", p, c, s, u, fired, want, fires)
	}
	return u, fired
}

func checkTick(t *testing.T, c api.Circuit, s api.State, clock string) (api.State, []bool) {
	t.Helper()
	u, fired := network.Tick(c, s, clock)
	if want, fires := tickAsSaid(c, s, clock); !same(u, want) || !same(fired, fires) {
		t.Fatalf("%q of %+v in %+v: %+v, %v, want %+v, %v", clock, c, s, u, fired, want, fires)
	}
	return u, fired
}

func checkRun(t *testing.T, c api.Circuit, s api.State, clocks ...string) api.State {
	t.Helper()
	u, want := network.Run(c, s, clocks), s
	for _, clock := range clocks {
		want, _ = tickAsSaid(c, want, clock)
	}
	if !same(u, want) {
		t.Fatalf("%q of %+v in %+v: %+v, want %+v", clocks, c, s, u, want)
	}
	return u
}

func checkSettle(t *testing.T, c api.Circuit, s api.State, budget int) (api.State, []int, api.Errno) {
	t.Helper()
	u, counts, e := network.Settle(c, s, budget)
	if want, numbers, errno := settledAsSaid(c, s, budget); !same(u, want) || !same(counts, numbers) || e != errno {
		t.Fatalf("%d of %+v in %+v: %+v, %v, %d, want %+v, %v, %d", budget, c, s, u, counts, e, want, numbers, errno)
	}
	return u, counts, e
}
