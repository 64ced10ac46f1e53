package network_test

import (
	"math"
	"slices"
	"testing"

	"wireloom/api"
	"wireloom/elaborate"
	"wireloom/network"
)

// link is a channel of two bits.
func link(name string, from, to, room int) api.Chan {
	return api.Chan{Name: name, W: 2, Cap: room, From: from, To: to}
}

// pass is a process that passes words of two bits on.
func pass(name, clock string, from, to int) api.Proc {
	return api.Proc{Name: name, Clock: clock, Takes: []api.Take{{Chan: from, W: 2, When: yes}}, Puts: []api.Put{{Chan: to, W: 2, When: yes, Data: data(0)}}}
}

// relay is the circuit of the chapter, with room for some words between its processes.
func relay(room int) api.Circuit {
	return api.Circuit{Procs: []api.Proc{pass("p", "a", 0, 1), pass("q", "b", 1, 2)}, Chans: []api.Chan{link("in", -1, 0, 0), link("c", 0, 1, room), link("out", 1, -1, 0)}}
}

// words is lists of words, of which each digit is one.
func words(texts ...string) [][]int {
	var l [][]int
	for _, text := range texts {
		var list []int
		for _, c := range text {
			list = append(list, int(c-'0'))
		}
		l = append(l, list)
	}
	return l
}

// holding is a state of a circuit whose processes have no registers and memories, with words in the channels.
func holding(c api.Circuit, texts ...string) api.State {
	return api.State{Procs: make([]api.ProcState, len(c.Procs)), Chans: words(texts...)}
}

// with is a state with words in the channels, and a list of registers of each process.
func with(chans [][]int, regs ...[]int) api.State {
	s := api.State{Chans: chans}
	for _, l := range regs {
		s.Procs = append(s.Procs, api.ProcState{Regs: l})
	}
	return s
}

func mustBeValid(t *testing.T, c api.Circuit, s api.State) {
	t.Helper()
	if !elaborate.Valid(c) || !isStateAsSaid(c, s) {
		t.Fatalf("%+v in %+v is not valid", c, s)
	}
}

// tick is a tick of a clock, as it is written down: which processes fire, and the words in the channels behind it.
type tick struct {
	clock string
	fired []bool
	chans []string
}

// checkTicks says whether ticks lead from a state of processes without registers and memories where it is written down, and returns the last state.
func checkTicks(t *testing.T, c api.Circuit, s api.State, ticks ...tick) api.State {
	t.Helper()
	mustBeValid(t, c, s)
	var clocks []string
	for i, x := range ticks {
		clocks = append(clocks, x.clock)
		before := copyOf(s)
		u, fired := checkTick(t, c, s, x.clock)
		if !same(u, holding(c, x.chans...)) || !slices.Equal(fired, x.fired) {
			t.Errorf("tick %d: %v, %v, want %v, %v", i, u.Chans, fired, x.chans, x.fired)
		}
		if !same(s, before) {
			t.Errorf("tick %d changes %+v to %+v", i, before, s)
		}
		s = u
	}
	return s
}

func TestP13_1Example(t *testing.T) {
	c := relay(1)
	s, e := checkFeed(t, c, network.Start(c), 0, []int{1, 2})
	if e != api.OK || !same(s, holding(c, "12", "", "")) {
		t.Fatal(s, e)
	}
	end := checkTicks(t, c, s, tick{"a", []bool{true, false}, []string{"2", "1", ""}}, tick{"a", []bool{false, false}, []string{"2", "1", ""}}, tick{"b", []bool{false, true}, []string{"2", "", "1"}}, tick{"a", []bool{true, false}, []string{"", "2", "1"}}, tick{"b", []bool{false, true}, []string{"", "", "12"}}, tick{"b", []bool{false, false}, []string{"", "", "12"}}, tick{"a", []bool{false, false}, []string{"", "", "12"}})
	if u, counts, e := checkSettle(t, c, s, 4); !same(u, end) || !slices.Equal(counts, []int{2, 2}) || e != api.OK {
		t.Error(u, counts, e)
	}
	if l, u, e := checkCollect(t, c, end, 2); !slices.Equal(l, []int{1, 2}) || !same(u, holding(c, "", "", "")) || e != api.OK {
		t.Error(l, u, e)
	}
	if u := checkRun(t, c, s, "a", "a", "b", "a", "b"); !same(u, end) {
		t.Error(u)
	}
}

// full is a circuit with registers, memories, and all kinds of channels, one of them from a process to itself; a state follows.
func full() (api.Circuit, api.State) {
	p := api.Proc{
		Name: "p", Clock: "k",
		Regs:  []api.Reg{{Name: "r", W: 3, Init: 5, Next: sum(reg(0), data(0))}, {Name: "q", W: 1, Init: 1, Next: reg(1)}},
		Mems:  []api.Mem{{Name: "m", W: 2, Words: 4, Enable: yes, Addr: reg(0), Data: constant(3, 2)}},
		Takes: []api.Take{{Chan: 0, W: 3, When: yes}, {Chan: 3, W: 1, When: reg(1)}},
		Puts:  []api.Put{{Chan: 1, W: 3, When: yes, Data: reg(0)}, {Chan: 3, W: 1, When: reg(1), Data: reg(1)}},
	}
	q := api.Proc{Name: "q", Clock: "k", Takes: []api.Take{{Chan: 1, W: 3, When: yes}}, Puts: []api.Put{{Chan: 2, W: 8, When: yes, Data: fitted(data(0), 3, 8)}}}
	c := api.Circuit{Procs: []api.Proc{p, q}, Chans: []api.Chan{{Name: "in", W: 3, From: -1, To: 0}, {Name: "pq", W: 3, Cap: 2, From: 0, To: 1}, {Name: "out", W: 8, From: 1, To: -1}, {Name: "pp", W: 1, Cap: 1, From: 0, To: 0}}}
	return c, api.State{Procs: []api.ProcState{{Regs: []int{7, 0}, Mems: [][]int{{0, 1, 2, 1}}}, {}}, Chans: [][]int{{7, 0, 7}, {7, 6}, {255, 0, 1}, {1}}}
}

func TestP13_1States(t *testing.T) {
	c, s := full()
	mustBeValid(t, c, s)
	for i, change := range []func(s *api.State){
		func(s *api.State) {},
		func(s *api.State) { s.Chans = [][]int{{}, {}, {}, {}} },
		func(s *api.State) { s.Chans = make([][]int, 4) },
		func(s *api.State) { s.Chans[0] = slices.Repeat([]int{7}, 1000) },
		func(s *api.State) { s.Chans[2] = slices.Repeat([]int{255}, 1000) },
		func(s *api.State) { s.Procs[0].Regs = []int{0, 1} },
		func(s *api.State) { s.Procs[0].Mems[0] = []int{3, 3, 3, 3} },
		func(s *api.State) { s.Chans[1] = []int{0} },
	} {
		u := copyOf(s)
		if change(&u); !checkState(t, c, u) {
			t.Errorf("%d: %+v is a state", i, u)
		}
	}
	for i, change := range []func(s *api.State){
		func(s *api.State) { *s = api.State{} },
		func(s *api.State) { s.Procs = nil },
		func(s *api.State) { s.Chans = nil },
		func(s *api.State) { s.Procs = s.Procs[:1] },
		func(s *api.State) { s.Procs = append(s.Procs, api.ProcState{}) },
		func(s *api.State) { s.Procs[0], s.Procs[1] = s.Procs[1], s.Procs[0] },
		func(s *api.State) { s.Chans = s.Chans[:3] },
		func(s *api.State) { s.Chans = append(s.Chans, nil) },
		func(s *api.State) { s.Chans[1] = []int{1, 2, 3} },
		func(s *api.State) { s.Chans[3] = []int{1, 1} },
		func(s *api.State) { s.Chans[0][2] = 8 },
		func(s *api.State) { s.Chans[0][0] = -1 },
		func(s *api.State) { s.Chans[1][1] = 8 },
		func(s *api.State) { s.Chans[1][0] = -1 },
		func(s *api.State) { s.Chans[2][1] = 256 },
		func(s *api.State) { s.Chans[2][0] = -256 },
		func(s *api.State) { s.Chans[3][0] = 2 },
		func(s *api.State) { s.Chans[2][2] = math.MaxInt },
		func(s *api.State) { s.Chans[2][2] = math.MinInt },
		func(s *api.State) { s.Chans[2][2] = 1 << 32 },
		func(s *api.State) { s.Procs[0].Regs[0] = 8 },
		func(s *api.State) { s.Procs[0].Regs[1] = -1 },
		func(s *api.State) { s.Procs[0].Regs = []int{1} },
		func(s *api.State) { s.Procs[0].Mems = nil },
		func(s *api.State) { s.Procs[0].Mems[0][3] = 4 },
		func(s *api.State) { s.Procs[0].Mems[0] = []int{1, 1, 1} },
		func(s *api.State) { s.Procs[1].Regs = []int{0} },
		func(s *api.State) { s.Procs[1].Mems = [][]int{{}} },
	} {
		u := copyOf(s)
		if change(&u); checkState(t, c, u) {
			t.Errorf("%d: %+v is no state", i, u)
		}
	}
}

// Values of each width, and words up to each Cap and beyond it, in channels between processes, to the environment and from it.
func TestP13_1StateLimits(t *testing.T) {
	for _, ends := range [][2]int{{0, 1}, {1, 0}, {0, 0}, {-1, 0}, {0, -1}} {
		for n := 1; n <= 8; n++ {
			ch := api.Chan{W: n, Cap: 8, From: ends[0], To: ends[1]}
			if ends[0] == -1 || ends[1] == -1 {
				ch.Cap = 0
			}
			c := api.Circuit{Procs: make([]api.Proc, 2), Chans: []api.Chan{ch}}
			for v := -300; v < 600; v++ {
				if checkState(t, c, with([][]int{{0, v}}, nil, nil)) != (v >= 0 && v < 1<<n) {
					t.Error(ch, v)
				}
			}
			if ch.Cap > 0 {
				c.Chans[0].Cap = n
			}
			for l := range 20 {
				if checkState(t, c, with([][]int{slices.Repeat([]int{1}, l)}, nil, nil)) != (l <= n || ch.Cap == 0) {
					t.Error(ch, n, l)
				}
			}
		}
	}
}

func TestP13_1Start(t *testing.T) {
	c, s := full()
	start := network.Start(c)
	if want := (api.State{Procs: []api.ProcState{{Regs: []int{5, 1}, Mems: [][]int{{0, 0, 0, 0}}}, {}}, Chans: make([][]int, 4)}); !same(start, want) {
		t.Errorf("%+v", start)
	}
	for k, l := range start.Chans {
		if len(l) != 0 || len(s.Chans[k]) == 0 {
			t.Error(k, l)
		}
	}
	if start := network.Start(relay(1)); !same(start, holding(relay(1), "", "", "")) {
		t.Errorf("%+v", start)
	}
}

func TestP13_1Feed(t *testing.T) {
	c, s := full()
	s.Chans[1] = nil
	for _, l := range [][]int{{}, nil, {3}, {0}, {7}, {1, 2, 3}, {7, 7, 0, 7, 6, 5, 4, 3, 2, 1, 0, 0, 1}} {
		u, e := checkFeed(t, c, s, 0, l)
		want := copyOf(s)
		want.Chans[0] = slices.Concat([]int{7, 0, 7}, l)
		if !same(u, want) || e != api.OK || !network.ValidState(c, u) {
			t.Errorf("%v: %+v, %d", l, u, e)
		}
		if u, e := checkFeed(t, c, network.Start(c), 0, l); !same(u.Chans[0], l) || e != api.OK {
			t.Errorf("%v: %+v, %d", l, u, e)
		}
	}
	for _, x := range []struct {
		channel int
		words   []int
	}{
		{0, []int{8}}, {0, []int{-1}}, {0, []int{8, 1}}, {0, []int{1, 8}}, {0, []int{1, -1, 1}}, {0, []int{255}}, {0, []int{math.MaxInt}}, {0, []int{math.MinInt}}, {0, []int{1 << 32}}, {0, []int{-8}},
		{1, nil}, {1, []int{1}}, {2, nil}, {2, []int{1}}, {3, nil}, {3, []int{1}}, {-1, nil}, {-1, []int{1}}, {4, nil}, {4, []int{1}}, {5, nil}, {math.MaxInt, nil}, {math.MinInt, []int{0}},
	} {
		if u, e := checkFeed(t, c, s, x.channel, x.words); !same(u, api.State{}) || e != api.ErrArg {
			t.Errorf("%+v: %+v, %d", x, u, e)
		}
	}
}

// Words of each width, in a channel that is not the first one.
func TestP13_1FeedWidths(t *testing.T) {
	for w := 1; w <= 8; w++ {
		p := api.Proc{Name: "p", Takes: []api.Take{{Chan: 1, W: w, When: yes}, {Chan: 0, W: 9 - w, When: no}}}
		c := api.Circuit{Procs: []api.Proc{p}, Chans: []api.Chan{{Name: "other", W: 9 - w, From: -1}, {Name: "in", W: w, From: -1}}}
		s := with(words("1", "1"), nil)
		mustBeValid(t, c, s)
		for v := -300; v < 600; v++ {
			u, e := checkFeed(t, c, s, 1, []int{0, v})
			if is := v >= 0 && v < 1<<w; is && (e != api.OK || !slices.Equal(u.Chans[1], []int{1, 0, v})) || !is && e != api.ErrArg {
				t.Error(w, v, u, e)
			}
		}
	}
}

func TestP13_1Collect(t *testing.T) {
	c, s := full()
	for _, l := range [][]int{{}, nil, {7}, {255, 0, 1}, {1, 2, 3, 4, 5, 6, 7, 8, 9, 10, 0}} {
		s.Chans[2] = l
		words, u, e := checkCollect(t, c, s, 2)
		want := copyOf(s)
		want.Chans[2] = nil
		if !slices.Equal(words, l) || !same(u, want) || e != api.OK || !network.ValidState(c, u) {
			t.Errorf("%v: %v, %+v, %d", l, words, u, e)
		}
		if again, v, e := checkCollect(t, c, u, 2); len(again) != 0 || !same(v, u) || e != api.OK {
			t.Errorf("%v: %v, %+v, %d", l, again, v, e)
		}
	}
	for _, channel := range []int{0, 1, 3, -1, -2, 4, 5, math.MaxInt, math.MinInt} {
		if words, u, e := checkCollect(t, c, s, channel); len(words) != 0 || !same(u, api.State{}) || e != api.ErrArg {
			t.Errorf("%d: %v, %+v, %d", channel, words, u, e)
		}
	}
}

func TestP13_1CanAndFire(t *testing.T) {
	c := relay(2)
	for i, x := range []struct {
		before []string
		p      int
		behind []string // none if it does not fire
	}{
		{[]string{"", "", ""}, 0, nil}, {[]string{"", "", ""}, 1, nil}, // no words
		{[]string{"1", "", ""}, 0, []string{"", "1", ""}}, {[]string{"1", "", ""}, 1, nil},
		{[]string{"123", "", ""}, 0, []string{"23", "1", ""}}, {[]string{"3", "2", ""}, 0, []string{"", "23", ""}},
		{[]string{"3", "21", ""}, 0, nil}, {[]string{"", "21", ""}, 0, nil}, // no room
		{[]string{"3", "21", "0"}, 1, []string{"3", "1", "02"}}, {[]string{"", "1", "3333333333"}, 1, []string{"", "", "33333333331"}}, // room in the environment
		{[]string{"1", "1", ""}, -1, nil}, {[]string{"1", "1", ""}, 2, nil}, {[]string{"1", "1", ""}, 3, nil}, {[]string{"1", "1", ""}, math.MaxInt, nil}, {[]string{"1", "1", ""}, math.MinInt, nil}, // no process
	} {
		s := holding(c, x.before...)
		mustBeValid(t, c, s)
		want := s
		if x.behind != nil {
			want = holding(c, x.behind...)
		}
		u, fired := checkFire(t, c, s, x.p)
		if can := network.Can(c, s, x.p); can != fired || fired != (x.behind != nil) || !same(u, want) {
			t.Errorf("%d: %+v, %v, %v", i, u, fired, can)
		}
	}
}

// A state of registers and memories stays where a process does not fire, and all other processes stay as they are where it does.
func TestP13_1OtherProcesses(t *testing.T) {
	c, s := full()
	for p, want := range []api.State{
		s, // there is no room in the channel 1
		{Procs: s.Procs, Chans: [][]int{{7, 0, 7}, {6}, {255, 0, 1, 7}, {1}}},
		s,
	} {
		if u, fired := checkFire(t, c, s, p); !same(u, want) || fired != (p == 1) {
			t.Errorf("%d: %+v, %v", p, u, fired)
		}
	}
	s.Chans[1] = []int{6}
	want := api.State{Procs: []api.ProcState{{Regs: []int{6, 0}, Mems: [][]int{{0, 1, 2, 3}}}, {}}, Chans: [][]int{{0, 7}, {6, 7}, {255, 0, 1}, {1}}}
	if u, fired := checkFire(t, c, s, 0); !same(u, want) || !fired {
		t.Errorf("%+v, %v", u, fired)
	}
}

// counting is a process that takes a word from a channel of two bits, and puts it plus 1 into the same one.
func counting(room int) api.Circuit {
	p := api.Proc{Name: "p", Clock: "k", Takes: []api.Take{{Chan: 0, W: 2, When: yes}}, Puts: []api.Put{{Chan: 0, W: 2, When: yes, Data: sum(data(0), constant(1, 2))}}}
	return api.Circuit{Procs: []api.Proc{p}, Chans: []api.Chan{link("c", 0, 0, room)}}
}

func TestP13_1OwnChannel(t *testing.T) {
	for _, x := range []struct {
		room           int
		before, behind string
	}{
		{1, "", ""}, {2, "", ""}, {2, "0", "1"}, {2, "3", "0"}, {3, "12", "22"}, {8, "1032112", "0321122"},
		{1, "0", "0"}, {2, "12", "12"}, {3, "123", "123"}, {8, "10321123", "10321123"}, // the word that leaves makes room too late
	} {
		c, fires := counting(x.room), x.before != x.behind
		checkTicks(t, c, holding(c, x.before), tick{"k", []bool{fires}, []string{x.behind}})
		if u, fired := checkFire(t, c, holding(c, x.before), 0); fired != fires || !same(u, holding(c, x.behind)) {
			t.Errorf("%+v: %+v, %v", x, u, fired)
		}
	}
}

// A process that alternately puts into its own channel, and takes from it.
func TestP13_1OwnChannelInTurns(t *testing.T) {
	p := api.Proc{
		Name: "p", Clock: "k", Regs: []api.Reg{{Name: "turn", W: 1, Next: node(api.ENot, reg(0))}, {Name: "last", W: 2, Init: 1, Next: node(api.EMux, reg(0), sum(data(0), constant(1, 2)), reg(1))}},
		Takes: []api.Take{{Chan: 0, W: 2, When: reg(0)}}, Puts: []api.Put{{Chan: 0, W: 2, When: node(api.ENot, reg(0)), Data: reg(1)}},
	}
	c := api.Circuit{Procs: []api.Proc{p}, Chans: []api.Chan{link("c", 0, 0, 1)}}
	s := network.Start(c)
	for i, want := range []api.State{with(words("1"), []int{1, 1}), with(words(""), []int{0, 2}), with(words("2"), []int{1, 2}), with(words(""), []int{0, 3}), with(words("3"), []int{1, 3}), with(words(""), []int{0, 0})} {
		u, fired := checkTick(t, c, s, "k")
		if !same(u, want) || !slices.Equal(fired, []bool{true}) {
			t.Errorf("%d: %+v, %v", i, u, fired)
		}
		s = u
	}
}

// Two processes with the same clock, the first one of the relay before the second one, and behind it: a word that is put is not taken, and room that is made is not used, at the same tick.
func TestP13_1SameTick(t *testing.T) {
	first, second := relay(1), relay(1)
	first.Procs[1].Clock = "a"
	second.Procs = []api.Proc{first.Procs[1], first.Procs[0]}
	second.Chans = []api.Chan{link("in", -1, 1, 0), link("c", 1, 0, 1), link("out", 0, -1, 0)}
	for _, x := range []struct {
		room           int
		before, behind []string
		p, q           bool
	}{
		{1, []string{"12", "", ""}, []string{"2", "1", ""}, true, false}, {1, []string{"2", "1", ""}, []string{"2", "", "1"}, false, true}, {1, []string{"", "2", "1"}, []string{"", "", "12"}, false, true}, {1, []string{"", "", "1"}, []string{"", "", "1"}, false, false},
		{2, []string{"12", "", ""}, []string{"2", "1", ""}, true, false}, {2, []string{"23", "1", ""}, []string{"3", "2", "1"}, true, true}, {2, []string{"3", "21", "1"}, []string{"3", "1", "12"}, false, true}, {2, []string{"", "1", ""}, []string{"", "", "1"}, false, true},
		{8, []string{"3", "1021321", "1"}, []string{"", "0213213", "11"}, true, true}, {8, []string{"3", "11021321", "1"}, []string{"3", "1021321", "11"}, false, true},
	} {
		first.Chans[1].Cap, second.Chans[1].Cap = x.room, x.room
		checkTicks(t, first, holding(first, x.before...), tick{"a", []bool{x.p, x.q}, x.behind})
		checkTicks(t, second, holding(second, x.before...), tick{"a", []bool{x.q, x.p}, x.behind})
	}
}

// ring is processes with the same clock, each of which passes words on to the next one.
func ring(n, room int) api.Circuit {
	var c api.Circuit
	for k := range n {
		name := string(rune('p' + k))
		c.Procs = append(c.Procs, pass(name, "k", k, (k+1)%n))
		c.Chans = append(c.Chans, link(name, (k+n-1)%n, k, room))
	}
	return c
}

func TestP13_1Rings(t *testing.T) {
	all, none := []bool{true, true, true}, []bool{false, false, false}
	c := ring(3, 2)
	s := checkTicks(t, c, holding(c, "1", "2", "3"), tick{"k", all, []string{"3", "1", "2"}}, tick{"k", all, []string{"2", "3", "1"}}, tick{"k", all, []string{"1", "2", "3"}})
	checkTicks(t, c, s, tick{"", none, []string{"1", "2", "3"}}, tick{"K", none, []string{"1", "2", "3"}}, tick{"kk", none, []string{"1", "2", "3"}}, tick{"p", none, []string{"1", "2", "3"}})
	checkTicks(t, c, holding(c, "12", "", "3"), tick{"k", []bool{true, false, false}, []string{"2", "1", "3"}}, tick{"k", all, []string{"3", "2", "1"}})
	c = ring(3, 1)
	checkTicks(t, c, holding(c, "1", "2", "3"), tick{"k", none, []string{"1", "2", "3"}})
	checkTicks(t, c, holding(c, "1", "", "3"), tick{"k", []bool{true, false, false}, []string{"", "1", "3"}}, tick{"k", []bool{false, false, true}, []string{"3", "1", ""}}, tick{"k", []bool{false, true, false}, []string{"3", "", "1"}})
	c = ring(1, 2)
	checkTicks(t, c, holding(c, "1"), tick{"k", []bool{true}, []string{"1"}})
}

// The clocks of four processes with a word each: no name, two that differ in their cases, and one with the beginning of another.
func TestP13_1Clocks(t *testing.T) {
	var c api.Circuit
	for k, clock := range []string{"", "a", "A", "aa"} {
		c.Procs = append(c.Procs, pass(string(rune('p'+k)), clock, 2*k, 2*k+1))
		c.Chans = append(c.Chans, link("in"+clock, -1, k, 0), link("out"+clock, k, -1, 0))
	}
	s := holding(c, "1", "", "1", "", "1", "", "1", "")
	for k, clock := range []string{"", "a", "A", "aa", "none", "aaa", "a "} {
		fired, want := make([]bool, 4), []string{"1", "", "1", "", "1", "", "1", ""}
		if k < 4 {
			fired[k], want[2*k], want[2*k+1] = true, "", "1"
		}
		checkTicks(t, c, s, tick{clock, fired, want}, tick{clock, make([]bool, 4), want})
	}
	checkTicks(t, c, s, tick{"a", []bool{false, true, false, false}, []string{"1", "", "", "1", "1", "", "1", ""}}, tick{"", []bool{true, false, false, false}, []string{"", "1", "", "1", "1", "", "1", ""}})
}

func TestP13_1Run(t *testing.T) {
	c := relay(2)
	s := holding(c, "123", "", "")
	for _, x := range []struct {
		clocks []string
		want   []string
	}{
		{nil, []string{"123", "", ""}}, {[]string{}, []string{"123", "", ""}}, {[]string{"a"}, []string{"23", "1", ""}}, {[]string{"b"}, []string{"123", "", ""}}, {[]string{"none", ""}, []string{"123", "", ""}},
		{[]string{"a", "a"}, []string{"3", "12", ""}}, {[]string{"a", "a", "a"}, []string{"3", "12", ""}}, {[]string{"a", "a", "a", "a", "b"}, []string{"3", "2", "1"}}, {[]string{"b", "a"}, []string{"23", "1", ""}}, {[]string{"a", "b"}, []string{"23", "", "1"}},
		{[]string{"a", "b", "a", "b", "a", "b"}, []string{"", "", "123"}}, {[]string{"a", "a", "b", "b", "b", "a"}, []string{"", "3", "12"}}, {[]string{"a", "c", "b", "c", "a"}, []string{"3", "2", "1"}},
	} {
		if u := checkRun(t, c, s, x.clocks...); !same(u, holding(c, x.want...)) {
			t.Errorf("%q: %+v", x.clocks, u)
		}
	}
	if u := checkRun(t, counting(2), holding(counting(2), "0"), slices.Repeat([]string{"k"}, 4001)...); !same(u.Chans, words("1")) {
		t.Errorf("%+v", u)
	}
}

func TestP13_1Settle(t *testing.T) {
	c := relay(1)
	s := holding(c, "12", "", "")
	for _, x := range []struct {
		budget int
		want   []string
		counts []int
		e      api.Errno
	}{
		{math.MinInt, []string{"12", "", ""}, []int{0, 0}, api.ErrSpent}, {-1, []string{"12", "", ""}, []int{0, 0}, api.ErrSpent}, {0, []string{"12", "", ""}, []int{0, 0}, api.ErrSpent},
		{1, []string{"2", "1", ""}, []int{1, 0}, api.ErrSpent}, {2, []string{"2", "", "1"}, []int{1, 1}, api.ErrSpent}, {3, []string{"", "2", "1"}, []int{2, 1}, api.ErrSpent},
		{4, []string{"", "", "12"}, []int{2, 2}, api.OK}, {5, []string{"", "", "12"}, []int{2, 2}, api.OK}, {100, []string{"", "", "12"}, []int{2, 2}, api.OK}, {math.MaxInt, []string{"", "", "12"}, []int{2, 2}, api.OK},
	} {
		if u, counts, e := checkSettle(t, c, s, x.budget); !same(u, holding(c, x.want...)) || !slices.Equal(counts, x.counts) || e != x.e {
			t.Errorf("%d: %+v, %v, %d", x.budget, u, counts, e)
		}
	}
	for _, budget := range []int{math.MinInt, -1, 0, 1, 100, math.MaxInt} { // nothing can fire
		end := holding(c, "", "", "12")
		if u, counts, e := checkSettle(t, c, end, budget); !same(u, end) || !slices.Equal(counts, []int{0, 0}) || e != api.OK {
			t.Errorf("%d: %+v, %v, %d", budget, u, counts, e)
		}
	}
}

// The process with the least index that can fire is the one that fires: the first one as long as there is room, and then the others in turns.
func TestP13_1SettleInOrder(t *testing.T) {
	c := relay(2)
	s := holding(c, "123", "", "")
	for budget, want := range [][]int{{0, 0}, {1, 0}, {2, 0}, {2, 1}, {3, 1}, {3, 2}} {
		if _, counts, e := checkSettle(t, c, s, budget); !slices.Equal(counts, want) || e != api.ErrSpent {
			t.Errorf("%d: %v, %d", budget, counts, e)
		}
	}
	if u, counts, e := checkSettle(t, c, s, 6); !same(u, holding(c, "", "", "123")) || !slices.Equal(counts, []int{3, 3}) || e != api.OK {
		t.Errorf("%+v, %v, %d", u, counts, e)
	}
}

func TestP13_1NeverSettles(t *testing.T) {
	source := api.Proc{Name: "source", Regs: []api.Reg{{Name: "r", W: 2, Next: sum(reg(0), constant(1, 2))}}, Puts: []api.Put{{W: 2, When: node(api.ELt, reg(0), constant(3, 2)), Data: reg(0)}}}
	c := api.Circuit{Procs: []api.Proc{source}, Chans: []api.Chan{link("out", 0, -1, 0)}}
	s := network.Start(c)
	mustBeValid(t, c, s)
	if u, counts, e := checkSettle(t, c, s, 7); !same(u, with(words("012012"), []int{3})) || !slices.Equal(counts, []int{7}) || e != api.ErrSpent {
		t.Errorf("%+v, %v, %d", u, counts, e)
	}
	alone := api.Circuit{Procs: []api.Proc{{Name: "idle"}, {Name: "other"}}}
	for _, budget := range []int{-3, 0, 1, 500} {
		if u, counts, e := checkSettle(t, alone, with(nil, nil, nil), budget); !same(u, with(nil, nil, nil)) || !slices.Equal(counts, []int{max(budget, 0), 0}) || e != api.ErrSpent {
			t.Errorf("%d: %+v, %v, %d", budget, u, counts, e)
		}
	}
	circle := ring(3, 2)
	if u, counts, e := checkSettle(t, circle, holding(circle, "1", "", ""), 100); !same(u, holding(circle, "", "1", "")) || !slices.Equal(counts, []int{34, 33, 33}) || e != api.ErrSpent {
		t.Errorf("%+v, %v, %d", u, counts, e)
	}
}

// Circuits without processes, and so without channels, and with processes alone.
func TestP13_1FewParts(t *testing.T) {
	for n := range 4 {
		c := api.Circuit{Procs: make([]api.Proc, n)}
		for k := range n {
			c.Procs[k].Name, c.Procs[k].Clock = string(rune('p'+k)), "k"
		}
		s := api.State{Procs: make([]api.ProcState, n)}
		if start := network.Start(c); !same(start, s) || !elaborate.Valid(c) || !checkState(t, c, start) {
			t.Errorf("%+v", start)
		}
		if checkState(t, c, api.State{Procs: s.Procs, Chans: [][]int{{}}}) || checkState(t, c, api.State{Procs: make([]api.ProcState, n+1)}) {
			t.Error(n, "is a state")
		}
		for _, k := range indices(n) {
			checkFeed(t, c, s, k, nil)
			checkCollect(t, c, s, k)
			if u, fired := checkFire(t, c, s, k); fired != (k >= 0 && k < n) || !same(u, s) {
				t.Error(n, k, fired, u)
			}
		}
		for _, clock := range []string{"k", ""} {
			if u, fired := checkTick(t, c, s, clock); !same(u, s) || !slices.Equal(fired, slices.Repeat([]bool{clock == "k"}, n)) {
				t.Error(n, u, fired)
			}
			checkRun(t, c, s, clock, clock)
		}
		if u, counts, e := checkSettle(t, c, s, 5); !same(u, s) || len(counts) != n || (e == api.OK) != (n == 0) {
			t.Error(n, u, counts, e)
		}
	}
}

// Many words on their way, and as many firings.
func TestP13_1ManyWords(t *testing.T) {
	const n = 20000
	c := relay(8)
	long := make([]int, n)
	for i := range long {
		long[i] = i * i / 3 % 4
	}
	s, e := network.Feed(c, network.Start(c), 0, long)
	if e != api.OK {
		t.Fatal(e)
	}
	u, counts, e := network.Settle(c, s, 2*n)
	if l, _, _ := network.Collect(c, u, 2); !slices.Equal(l, long) || !slices.Equal(counts, []int{n, n}) || e != api.OK {
		t.Error(counts, e)
	}
	if _, counts, e := network.Settle(c, s, 2*n-1); !slices.Equal(counts, []int{n, n - 1}) || e != api.ErrSpent {
		t.Error(counts, e)
	}
	if u := network.Run(c, s, slices.Repeat([]string{"a", "b"}, n)); !slices.Equal(u.Chans[2], long) || len(u.Chans[0])+len(u.Chans[1]) > 0 {
		t.Error(len(u.Chans[0]), len(u.Chans[1]), len(u.Chans[2]))
	}
}
