package network_test

import (
	"fmt"
	"math"
	"math/rand/v2"
	"reflect"
	"slices"
	"strings"
	"testing"

	"wireloom/api"
	"wireloom/network"
)

// atLeast says whether each of some numbers of cases is large enough for a test to mean something.
func atLeast(t *testing.T, least int, counts ...int) {
	t.Helper()
	if slices.Min(counts) < least {
		t.Error("not enough cases:", counts)
	}
}

// openChans returns the channels from the environment, and to it.
func openChans(c api.Circuit) (from, to []int) {
	for k, ch := range c.Chans {
		if ch.From == -1 {
			from = append(from, k)
		}
		if ch.To == -1 {
			to = append(to, k)
		}
	}
	return from, to
}

// where returns the indices of what is true.
func where(l []bool) []int {
	var all []int
	for k, is := range l {
		if is {
			all = append(all, k)
		}
	}
	return all
}

// Can, Fire and Tick in random states.
func TestP13_1RandomFirings(t *testing.T) {
	fires, stays, several := 0, 0, 0
	eachState(800, func(r *rand.Rand, c api.Circuit, s api.State) {
		for _, p := range indices(len(c.Procs)) {
			if _, fired := checkFire(t, c, s, p); fired {
				fires++
			} else if p >= 0 && p < len(c.Procs) {
				stays++
			}
		}
		for _, clock := range clocks {
			if _, fired := checkTick(t, c, s, clock); len(where(fired)) > 1 {
				several++
			}
		}
		checkRun(t, c, s)
		checkRun(t, c, s, oneOf(r, clocks...), oneOf(r, clocks...), oneOf(r, clocks...))
	})
	atLeast(t, 300, fires, stays, several)
}

// Feed and Collect for all channels of random circuits, and others.
func TestP13_1RandomWords(t *testing.T) {
	fed, collected, refused := 0, 0, 0
	eachState(1000, func(r *rand.Rand, c api.Circuit, s api.State) {
		for _, k := range indices(len(c.Chans)) {
			l := valuesOf(r, r.IntN(4), 1)
			if k >= 0 && k < len(c.Chans) {
				l = valuesOf(r, r.IntN(4), oneOf(r, c.Chans[k].W, c.Chans[k].W, c.Chans[k].W+1))
			}
			if _, e := checkFeed(t, c, s, k, l); e == api.OK {
				fed++
			} else {
				refused++
			}
			if _, _, e := checkCollect(t, c, s, k); e == api.OK {
				collected++
			}
		}
	})
	atLeast(t, 1000, fed, collected, refused)
}

// Runs of random circuits from their starts on, between which words are fed and collected.
func TestP13_1Runs(t *testing.T) {
	fires := 0
	r := source()
	for range 500 {
		c := circuitOf(r)
		s := network.Start(c)
		for range 15 {
			from, to := openChans(c)
			if len(from) > 0 {
				k := oneOf(r, from...)
				s, _ = checkFeed(t, c, s, k, valuesOf(r, r.IntN(4), c.Chans[k].W))
			}
			u, fired := checkTick(t, c, s, oneOf(r, clocks...))
			if slices.Contains(fired, true) {
				fires++
			}
			if s = u; len(to) > 0 {
				_, s, _ = checkCollect(t, c, s, oneOf(r, to...))
			}
		}
	}
	atLeast(t, 1000, fires)
}

func TestP13_1RandomSettling(t *testing.T) {
	settled, spent := 0, 0
	eachState(250, func(r *rand.Rand, c api.Circuit, s api.State) {
		for _, budget := range []int{-1, 0, 1, r.IntN(10), 40} {
			if _, counts, e := checkSettle(t, c, s, budget); e == api.ErrSpent {
				spent++
			} else if n := total(counts); n > 0 {
				settled++
				checkSettle(t, c, s, n)
				checkSettle(t, c, s, n-1)
			}
		}
	})
	atLeast(t, 300, settled, spent)
}

func total(counts []int) int {
	n := 0
	for _, k := range counts {
		n += k
	}
	return n
}

// Each part of states changed in turn, and of the channels.
func TestP13_1EachPartOfStates(t *testing.T) {
	is := map[bool]int{}
	eachState(12, func(r *rand.Rand, c api.Circuit, s api.State) {
		for at := range leavesOf(&s) {
			for _, change := range changes(leavesOf(&s)[at]) {
				u := copyOf(s)
				leavesOf(&u)[at].Set(change)
				is[checkState(t, c, u)]++
			}
		}
		for k := range c.Chans {
			for n := 1; n <= 8; n++ {
				d := copyOf(c)
				d.Chans[k].W = n
				is[checkState(t, d, s)]++
				if d = copyOf(c); d.Chans[k].Cap > 0 {
					d.Chans[k].Cap = n
				}
				is[checkState(t, d, s)]++
			}
		}
	})
	atLeast(t, 1000, is[true], is[false])
}

// changes returns other values for a number or a list.
func changes(v reflect.Value) []reflect.Value {
	var all []reflect.Value
	if v.Kind() == reflect.Int {
		for _, n := range []int{-2, -1, 0, 1, 2, 3, 4, 7, 8, 255, 256, 1 << 32, math.MinInt, math.MaxInt} {
			all = append(all, reflect.ValueOf(n))
		}
		return all
	}
	list := func(parts ...reflect.Value) reflect.Value {
		l := reflect.MakeSlice(v.Type(), 0, v.Len()+1)
		for _, part := range parts {
			l = reflect.AppendSlice(l, part)
		}
		return l
	}
	for i := range v.Len() {
		all = append(all, list(v.Slice(0, i)), list(v.Slice(0, i), v.Slice(i+1, v.Len())), list(v, v.Slice(i, i+1)))
	}
	return append(all, reflect.Append(list(v), reflect.Zero(v.Type().Elem())))
}

// Whatever is done in a state leads to one.
func TestP13_2States(t *testing.T) {
	eachState(1000, func(r *rand.Rand, c api.Circuit, s api.State) {
		is := func(u api.State) {
			if !network.ValidState(c, u) || !isStateAsSaid(c, u) {
				t.Fatalf("%+v in %+v: %+v", c, s, u)
			}
		}
		is(s)
		is(network.Start(c))
		for _, clock := range clocks {
			u, _ := network.Tick(c, s, clock)
			is(u)
		}
		is(network.Run(c, s, clocks))
		for p := range c.Procs {
			u, _ := network.Fire(c, s, p)
			is(u)
		}
		u, _, _ := network.Settle(c, s, 12)
		is(u)
		from, to := openChans(c)
		for _, k := range from {
			u, _ := network.Feed(c, s, k, valuesOf(r, 3, c.Chans[k].W))
			is(u)
		}
		for _, k := range to {
			_, u, _ := network.Collect(c, s, k)
			is(u)
		}
	})
}

// At a tick, processes of other clocks do not fire and stay as they are, as do processes that do not fire, and channels at which none fires.
func TestP13_2OtherClocks(t *testing.T) {
	others := 0
	eachState(1000, func(r *rand.Rand, c api.Circuit, s api.State) {
		for _, clock := range clocks {
			u, fired := network.Tick(c, s, clock)
			if len(fired) != len(c.Procs) {
				t.Fatalf("%+v in %+v: %v", c, s, fired)
			}
			for k, p := range c.Procs {
				if p.Clock != clock {
					others++
				}
				if (p.Clock != clock || !fired[k]) && !same(u.Procs[k], s.Procs[k]) || p.Clock != clock && fired[k] {
					t.Fatalf("%q of %+v in %+v: %+v, %v", clock, c, s, u, fired)
				}
			}
			for k, ch := range c.Chans {
				moves := ch.From >= 0 && fired[ch.From] || ch.To >= 0 && fired[ch.To]
				if !moves && !slices.Equal(u.Chans[k], s.Chans[k]) {
					t.Fatalf("%q of %+v in %+v: %+v, %v", clock, c, s, u, fired)
				}
			}
		}
	})
	atLeast(t, 1000, others)
}

// moved is the words that a process takes from channels and puts into them, if it fires.
func moved(c api.Circuit, s api.State, p int) string {
	f := stepAsSaid(c, s, p)
	text := fmt.Sprintf("%v to %+v:", f.Fires, f.S)
	for k, t := range c.Procs[p].Takes {
		if f.Pops[k] {
			text += fmt.Sprintf(" takes %d from %d", s.Chans[t.Chan][0], t.Chan)
		}
	}
	for k, t := range c.Procs[p].Puts {
		if f.Puts[k].Has {
			text += fmt.Sprintf(" puts %d into %d", f.Puts[k].V, t.Chan)
		}
	}
	return text
}

func TestP13_3Persistence(t *testing.T) {
	eachPair(t, 500, func(c api.Circuit, s api.State, p, q int) {
		u, fired := network.Fire(c, s, q)
		if !fired || !network.Can(c, s, p) || !network.Can(c, u, p) || moved(c, u, p) != moved(c, s, p) {
			t.Fatalf("%d of %+v in %+v: %s, and behind %d %s", p, c, s, moved(c, s, p), q, moved(c, u, p))
		}
		v, fired := network.Fire(c, u, p)
		if !fired || !same(v.Procs[p], firedAsSaid(c, s, p).Procs[p]) || !same(v.Procs[q], u.Procs[q]) {
			t.Fatalf("%d of %+v in %+v behind %d: %+v", p, c, s, q, v)
		}
	})
}

func TestP13_4Diamond(t *testing.T) {
	shared := 0
	eachPair(t, 500, func(c api.Circuit, s api.State, p, q int) {
		u, _ := network.Fire(c, s, p)
		v, _ := network.Fire(c, s, q)
		end, second := network.Fire(c, u, q)
		other, first := network.Fire(c, v, p)
		if !first || !second || !same(end, other) || !same(end, firedAsSaid(c, s, p, q)) {
			t.Fatalf("%d and %d of %+v in %+v: %+v or %+v", p, q, c, s, end, other)
		}
		for _, ch := range c.Chans {
			if ch.From == p && ch.To == q {
				shared++
			}
		}
	})
	atLeast(t, 300, shared)
}

// The processes that could fire before a tick are fired one after the other, in orders by chance.
func TestP13_5Ticks(t *testing.T) {
	several := 0
	eachState(1000, func(r *rand.Rand, c api.Circuit, s api.State) {
		for _, clock := range clocks {
			end, fired := network.Tick(c, s, clock)
			could := make([]bool, len(c.Procs))
			for k, p := range c.Procs {
				could[k] = p.Clock == clock && network.Can(c, s, k)
			}
			set := where(could)
			if len(set) > 1 {
				several++
			}
			for range 3 {
				u := s
				r.Shuffle(len(set), func(i, k int) { set[i], set[k] = set[k], set[i] })
				for _, p := range set {
					u, _ = network.Fire(c, u, p)
				}
				if !same(u, end) || !slices.Equal(fired, could) {
					t.Fatalf("%q of %+v in %+v: %+v, %v, but %+v, %v", clock, c, s, end, fired, u, could)
				}
			}
		}
	})
	atLeast(t, 500, several)
}

// fireBy fires processes, of which choose says which one of those that can, until none can or n have, and returns the state and how often each one did.
func fireBy(c api.Circuit, s api.State, n int, choose func(l []int) int) (api.State, []int) {
	counts := make([]int, len(c.Procs))
	for range n {
		var l []int
		for p := range c.Procs {
			if network.Can(c, s, p) {
				l = append(l, p)
			}
		}
		if len(l) == 0 {
			break
		}
		p := choose(l)
		s, _ = network.Fire(c, s, p)
		counts[p]++
	}
	return s, counts
}

func TestP13_6Confluence(t *testing.T) {
	settled, endless := 0, 0
	eachState(300, func(r *rand.Rand, c api.Circuit, s api.State) {
		const most = 40
		end, counts, e := network.Settle(c, s, most)
		n := total(counts)
		if e == api.ErrSpent && n != most {
			t.Fatalf("%+v in %+v: %v", c, s, counts)
		}
		for _, choose := range []func(l []int) int{
			func(l []int) int { return l[0] },
			func(l []int) int { return l[len(l)-1] },
			func(l []int) int { return oneOf(r, l...) },
			func(l []int) int { return oneOf(r, l...) },
		} {
			u, others := fireBy(c, s, most+1, choose)
			if e == api.ErrSpent {
				if endless++; total(others) != most+1 {
					t.Fatalf("%+v in %+v: %v, and %v", c, s, counts, others)
				}
				continue
			}
			if len(counts) > 1 && n > 3 {
				settled++
			}
			if e != api.OK || !same(u, end) || !slices.Equal(others, counts) {
				t.Fatalf("%+v in %+v: %+v, %v, %d, and %+v, %v", c, s, end, counts, e, u, others)
			}
		}
	})
	atLeast(t, 300, settled, endless)
}

// Any firings, also ticks, before a state is settled are part of settling it.
func TestP13_6Completed(t *testing.T) {
	ticks := 0
	eachState(800, func(r *rand.Rand, c api.Circuit, s api.State) {
		end, counts, e := network.Settle(c, s, 60)
		if e != api.OK {
			return
		}
		u, others := fireBy(c, s, r.IntN(6), func(l []int) int { return oneOf(r, l...) })
		for range r.IntN(6) {
			v, fired := network.Tick(c, u, oneOf(r, clocks...))
			u = v
			for _, p := range where(fired) {
				others[p]++
				ticks++
			}
		}
		v, rest, e := network.Settle(c, u, total(counts)-total(others))
		for p := range rest {
			rest[p] += others[p]
		}
		if e != api.OK || !same(v, end) || !slices.Equal(rest, counts) {
			t.Fatalf("%+v in %+v: %+v, %v, and %+v, %v, %d", c, s, end, counts, v, rest, e)
		}
	})
	atLeast(t, 300, ticks)
}

// What is fed stands behind what a channel had, and nothing else changes; it can be fed in parts.
func TestP13_7Feeding(t *testing.T) {
	fed := 0
	eachState(800, func(r *rand.Rand, c api.Circuit, s api.State) {
		for k, ch := range c.Chans {
			l := valuesOf(r, r.IntN(6), ch.W)
			u, e := network.Feed(c, s, k, l)
			if ch.From != -1 {
				if e != api.ErrArg || !same(u, api.State{}) {
					t.Fatalf("%d of %+v: %+v, %d", k, c, u, e)
				}
				continue
			}
			if e != api.OK || !slices.Equal(u.Chans[k], slices.Concat(s.Chans[k], l)) {
				t.Fatalf("%v into %d of %+v in %+v: %+v, %d", l, k, c, s, u, e)
			}
			fed++
			at := r.IntN(len(l) + 1)
			v, _ := network.Feed(c, s, k, l[:at])
			v, _ = network.Feed(c, v, k, l[at:])
			if !same(v, u) {
				t.Fatalf("%v into %d of %+v in %+v: %+v, in two parts %+v", l, k, c, s, u, v)
			}
			if u.Chans[k] = s.Chans[k]; !same(u, s) {
				t.Fatalf("%v into %d of %+v in %+v: %+v", l, k, c, s, u)
			}
			for _, v := range []int{-1, 1 << ch.W} {
				if u, e := network.Feed(c, s, k, slices.Insert(slices.Clone(l), at, v)); e != api.ErrArg || !same(u, api.State{}) {
					t.Fatalf("%d into %d of %+v: %+v, %d", v, k, c, u, e)
				}
			}
		}
	})
	atLeast(t, 1000, fed)
}

// What is collected is all that a channel had, and nothing else changes.
func TestP13_7Collecting(t *testing.T) {
	collected := 0
	eachState(800, func(r *rand.Rand, c api.Circuit, s api.State) {
		for k, ch := range c.Chans {
			l, u, e := network.Collect(c, s, k)
			if ch.To != -1 {
				if e != api.ErrArg || len(l) > 0 || !same(u, api.State{}) {
					t.Fatalf("%d of %+v: %v, %+v, %d", k, c, l, u, e)
				}
				continue
			}
			collected++
			if e != api.OK || !slices.Equal(l, s.Chans[k]) || len(u.Chans[k]) > 0 {
				t.Fatalf("%d of %+v in %+v: %v, %+v, %d", k, c, s, l, u, e)
			}
			if u.Chans[k] = l; !same(u, s) {
				t.Fatalf("%d of %+v in %+v: %v, %+v", k, c, s, l, u)
			}
		}
	})
	atLeast(t, 1000, collected)
}

// With more words from the environment, and fewer to it, what can fire still can.
func TestP13_7Environment(t *testing.T) {
	can := 0
	eachState(1500, func(r *rand.Rand, c api.Circuit, s api.State) {
		u := s
		from, to := openChans(c)
		for _, k := range from {
			u, _ = network.Feed(c, u, k, valuesOf(r, 1+r.IntN(3), c.Chans[k].W))
		}
		for _, k := range to {
			_, u, _ = network.Collect(c, u, k)
		}
		for p := range c.Procs {
			if network.Can(c, s, p) {
				can++
				if !network.Can(c, u, p) || moved(c, u, p) != moved(c, s, p) {
					t.Fatalf("%d of %+v in %+v, but %+v: %s, and %s", p, c, s, u, moved(c, s, p), moved(c, u, p))
				}
			}
		}
	})
	atLeast(t, 1000, can)
}

// arrays is all lists of a tree, with what stands behind their ends in the same arrays.
func arrays(tree any) string {
	var s strings.Builder
	eachLeaf(reflect.ValueOf(tree), func(v reflect.Value) {
		if v.Kind() == reflect.Slice {
			fmt.Fprintf(&s, "%d of %+v\n", v.Len(), v.Slice(0, v.Cap()))
		}
	})
	return s.String()
}

// called is what the functions return for a circuit and a state; the channels and words to feed come from it, too.
type called struct {
	States []api.State
	Fired  [][]bool
	Counts [][]int
	Words  [][]int
}

// callAll calls all functions of the package.
func callAll(c api.Circuit, s api.State, l []int, names []string) called {
	x := called{States: []api.State{network.Start(c), network.Run(c, s, names), network.Run(c, s, nil)}}
	network.ValidState(c, s)
	for k := -1; k <= len(c.Chans); k++ {
		fed, _ := network.Feed(c, s, k, l)
		words, rest, _ := network.Collect(c, s, k)
		x.States, x.Words = append(x.States, fed, rest), append(x.Words, words)
	}
	for p := -1; p <= len(c.Procs); p++ {
		network.Can(c, s, p)
		u, _ := network.Fire(c, s, p)
		x.States = append(x.States, u)
	}
	for _, clock := range names {
		u, fired := network.Tick(c, s, clock)
		x.States, x.Fired = append(x.States, u), append(x.Fired, fired)
	}
	for _, budget := range []int{-1, 0, 1, 5} {
		u, counts, _ := network.Settle(c, s, budget)
		x.States, x.Counts = append(x.States, u), append(x.Counts, counts)
	}
	return x
}

func TestM6ArgumentsStay(t *testing.T) {
	eachState(60, func(r *rand.Rand, c api.Circuit, s api.State) {
		d, u, l, names := roomy(c, 1+r.IntN(5)), roomy(s, 1+r.IntN(9)), roomy([]int{1, 0, 1}, 1+r.IntN(3)), roomy(clocks, 2)
		before := arrays(d) + arrays(u) + arrays(l) + arrays(names)
		x := callAll(d, u, l, names)
		if after := arrays(d) + arrays(u) + arrays(l) + arrays(names); after != before {
			t.Fatalf("%s: then %s", before, after)
		}
		if want := callAll(c, s, []int{1, 0, 1}, clocks); !same(x, want) {
			t.Fatalf("%+v in %+v: %+v, want %+v", c, s, x, want)
		}
	})
}

// What was returned stays as it is, whatever is called later, for it or for what it was returned for.
func TestM6ResultsStay(t *testing.T) {
	eachState(30, func(r *rand.Rand, c api.Circuit, s api.State) {
		x := callAll(c, s, []int{1, 0}, clocks)
		before := arrays(x)
		var later []called
		for _, u := range x.States {
			if network.ValidState(c, u) {
				later = append(later, callAll(c, u, []int{1}, clocks))
			}
		}
		after := copyOf(later)
		for _, u := range x.States {
			if network.ValidState(c, u) {
				callAll(c, u, []int{0}, clocks)
			}
		}
		callAll(c, s, []int{0, 1}, clocks)
		if arrays(x) != before || !same(later, after) {
			t.Fatalf("%+v in %+v: %s, then %s", c, s, before, arrays(x))
		}
	})
}

// Two continuations of one state, into whose lists the words could both be written.
func TestM6Continuations(t *testing.T) {
	c := relay(8)
	s := holding(c, "1", "2", "3")
	for range 20 {
		s, _ = network.Feed(c, s, 0, []int{1})
		s, _ = network.Fire(c, s, 0)
		first, _ := network.Feed(c, s, 0, []int{2})
		second, _ := network.Feed(c, s, 0, []int{3})
		p, _ := network.Fire(c, first, 0)
		q, _ := network.Fire(c, second, 0)
		if l := s.Chans[0]; !slices.Equal(first.Chans[0], append(slices.Clone(l), 2)) || !slices.Equal(second.Chans[0], append(slices.Clone(l), 3)) {
			t.Fatal(s, first, second)
		}
		if p.Chans[0][len(p.Chans[0])-1] != 2 || q.Chans[0][len(q.Chans[0])-1] != 3 {
			t.Fatal(p, q)
		}
		s, _ = network.Fire(c, s, 1)
	}
}

// overwrite changes everything that a tree refers to, up to the ends of its arrays.
func overwrite(tree any) {
	eachLeaf(reflect.ValueOf(tree), func(v reflect.Value) {
		if v.Kind() == reflect.Slice {
			v = v.Slice(0, v.Cap())
			for i := range v.Len() {
				if v.Index(i).Kind() != reflect.Slice {
					fill(v.Index(i))
				}
			}
		}
	})
}

// A result shares no memory with the arguments, and no two lists of it share any.
func TestM6ResultsAreNew(t *testing.T) {
	eachState(60, func(r *rand.Rand, c api.Circuit, s api.State) {
		d, u, l, names := copyOf(c), copyOf(s), []int{1, 0}, slices.Clone(clocks)
		x := callAll(d, u, l, names)
		kept := copyOf(x)
		seen := map[uintptr]bool{}
		for _, v := range leavesOf(&x) {
			if v.Kind() == reflect.Slice && v.Cap() > 0 {
				if seen[v.Pointer()] {
					t.Fatalf("shared memory in %+v", x)
				}
				seen[v.Pointer()] = true
			}
		}
		overwrite(x)
		if !same(d, c) || !same(u, s) || !same(l, []int{1, 0}) || !same(names, clocks) {
			t.Fatalf("%+v in %+v: became %+v in %+v", c, s, d, u)
		}
		x = callAll(d, u, l, names)
		overwrite(u)
		overwrite(d)
		overwrite(l)
		overwrite(names)
		if !same(x, kept) {
			t.Fatalf("%+v: then %+v", kept, x)
		}
	})
}

// No function fails or goes on without an end for arguments whose results are not specified.
func TestP1NotSpecified(t *testing.T) {
	eachState(5, func(r *rand.Rand, c api.Circuit, s api.State) {
		d := circuitOf(r)
		callAll(c, stateOf(r, d), []int{1}, clocks)
		callAll(d, s, []int{1}, clocks)
		callAll(c, api.State{}, []int{1}, clocks)
		callAll(api.Circuit{}, s, []int{1}, clocks)
		for at, v := range leavesOf(&c) {
			if v.Kind() != reflect.String {
				d := copyOf(c)
				leavesOf(&d)[at].Set(oneOf(r, changes(v)...))
				callAll(d, s, []int{0, 1}, clocks[:2])
			}
		}
		for at, v := range leavesOf(&s) {
			u := copyOf(s)
			leavesOf(&u)[at].Set(oneOf(r, changes(v)...))
			callAll(c, u, []int{0, 1}, clocks[:2])
		}
	})
}
