package digraph_test

import (
	"math"
	"slices"
	"testing"

	"wireloom/api"
	"wireloom/digraph"
)

func checkOrder(t *testing.T, g graph, want []int, e api.Errno) {
	t.Helper()
	if got, e2 := digraph.Order(g.n, g.edges); !slices.Equal(got, want) || e2 != e || e != api.OK && got != nil {
		t.Errorf("Order(%v): %v, %d, want %v, %d", g, got, e2, want, e)
	}
}

func checkCheck(t *testing.T, g graph, order []int, want api.Errno) {
	t.Helper()
	if got := digraph.Check(g.n, g.edges, order); got != want {
		t.Errorf("Check(%v, %v): %d, want %d", g, order, got, want)
	}
}

func checkCycle(t *testing.T, g graph, want []int, e api.Errno) {
	t.Helper()
	if got, e2 := digraph.Cycle(g.n, g.edges); !slices.Equal(got, want) || e2 != e || e != api.OK && got != nil {
		t.Errorf("Cycle(%v): %v, %d, want %v, %d", g, got, e2, want, e)
	}
}

func checkReach(t *testing.T, g graph, from int, want []int) {
	t.Helper()
	if got := digraph.Reach(g.n, g.edges, from); !slices.Equal(got, want) || len(want) == 0 && got != nil {
		t.Errorf("Reach(%v, %d): %v, want %v", g, from, got, want)
	}
}

func checkDepth(t *testing.T, g graph, want []int, e api.Errno) {
	t.Helper()
	if got, e2 := digraph.Depth(g.n, g.edges); !slices.Equal(got, want) || e2 != e || e != api.OK && got != nil {
		t.Errorf("Depth(%v): %v, %d, want %v, %d", g, got, e2, want, e)
	}
}

func checkComponents(t *testing.T, g graph, want [][]int) {
	t.Helper()
	if got := digraph.Components(g.n, g.edges); !slices.EqualFunc(got, want, slices.Equal) {
		t.Errorf("Components(%v): %v, want %v", g, got, want)
	}
}

func TestP5_1Examples(t *testing.T) {
	g := made(4, 2, 0, 0, 3, 1, 3)
	checkOrder(t, g, []int{1, 2, 0, 3}, api.OK)
	checkDepth(t, g, []int{1, 0, 0, 2}, api.OK)
	checkReach(t, g, 2, []int{0, 2, 3})
	checkCycle(t, g, nil, api.ErrNone)
	back := g.and(3, 2)
	checkOrder(t, back, nil, api.ErrCycle)
	checkDepth(t, back, nil, api.ErrCycle)
	checkCycle(t, back, []int{0, 3, 2}, api.OK)
	checkComponents(t, back, [][]int{{0, 2, 3}, {1}})
	checkCycle(t, g.and(1, 1), []int{1}, api.OK)
	checkOrder(t, graph{}, nil, api.OK)
}

func TestP5_1Valid(t *testing.T) {
	for _, g := range []graph{
		made(0), made(1), made(2), made(200), made(1, 0, 0), made(2, 0, 1, 1, 0, 0, 1, 1, 1), made(200, 0, 199, 199, 0, 199, 199),
		{1, make([]api.Edge, 1999)}, {1, make([]api.Edge, 2000)}, {200, make([]api.Edge, 2000)}, {3, []api.Edge{}},
	} {
		if !digraph.Valid(g.n, g.edges) {
			t.Errorf("a graph with %d nodes and %d edges is not valid", g.n, len(g.edges))
		}
	}
	for _, g := range []graph{
		made(-1), made(math.MinInt), made(201), made(202), made(math.MaxInt), made(0, 0, 0), made(-1, 0, 0), made(201, 0, 0),
		{1, make([]api.Edge, 2001)}, {200, make([]api.Edge, 2001)}, {200, make([]api.Edge, 4000)}, {0, make([]api.Edge, 2000)}, {201, make([]api.Edge, 2001)},
	} {
		if digraph.Valid(g.n, g.edges) {
			t.Errorf("a graph with %d nodes and %d edges is valid", g.n, len(g.edges))
		}
	}
}

func TestP5_1ValidEnds(t *testing.T) {
	for _, n := range []int{1, 2, 5, 199, 200} {
		for _, bad := range []int{-1, -2, n, n + 1, -n, math.MinInt, math.MaxInt, 1 << 32, -1 << 32} {
			for _, l := range [][]int{{bad, 0}, {0, bad}, {bad, bad}, {n - 1, 0, bad, 0}, {0, bad, 0, n - 1}, {0, 0, 0, bad, 0, 0}} {
				if digraph.Valid(n, made(n, l...).edges) {
					t.Errorf("a graph with %d nodes and the edges %v is valid", n, l)
				}
			}
		}
		for v := range n {
			if !digraph.Valid(n, made(n, v, n-1-v, v, v).edges) {
				t.Errorf("a graph with %d nodes and an edge from %d to %d is not valid", n, v, n-1-v)
			}
		}
		last := graph{n, make([]api.Edge, 2000)}
		last.edges[1999].To = n
		if digraph.Valid(n, last.edges) {
			t.Errorf("a graph with %d nodes whose last edge of 2000 leads to %d is valid", n, n)
		}
	}
}

func TestP5_1ValidRandom(t *testing.T) {
	each(func(g graph) {
		if !digraph.Valid(g.n, g.edges) {
			t.Errorf("%v is not valid", g)
		}
		if g.n > 0 && digraph.Valid(g.n-1, g.and(0, g.n-1).edges) {
			t.Errorf("%v with another edge is valid with a node less", g)
		}
	})
}

func TestP5_1NoNodes(t *testing.T) {
	for _, g := range []graph{{}, {0, []api.Edge{}}} {
		checkOrder(t, g, nil, api.OK)
		checkCheck(t, g, nil, api.OK)
		checkCheck(t, g, []int{}, api.OK)
		checkCheck(t, g, []int{0}, api.ErrNot)
		checkCheck(t, g, []int{-1}, api.ErrNot)
		checkCycle(t, g, nil, api.ErrNone)
		checkDepth(t, g, nil, api.OK)
		checkComponents(t, g, nil)
		for _, from := range []int{-1, 0, 1} {
			checkReach(t, g, from, nil)
		}
	}
}

func TestP5_1NoEdges(t *testing.T) {
	for _, n := range []int{1, 2, 3, 10, 200} {
		g, all, single := made(n), make([]int, n), make([][]int, n)
		for v := range n {
			all[v], single[v] = v, []int{v}
		}
		checkOrder(t, g, all, api.OK)
		checkCheck(t, g, all, api.OK)
		slices.Reverse(all)
		checkCheck(t, g, all, api.OK)
		checkCycle(t, g, nil, api.ErrNone)
		checkDepth(t, g, make([]int, n), api.OK)
		checkComponents(t, g, single)
		for v := range n {
			checkReach(t, g, v, []int{v})
		}
	}
}

func TestP5_1OrderKnown(t *testing.T) {
	for _, c := range []struct {
		g    graph
		want []int
	}{
		{made(1), []int{0}},
		{made(2, 0, 1), []int{0, 1}},
		{made(2, 1, 0), []int{1, 0}},
		{made(2, 1, 0, 1, 0, 1, 0), []int{1, 0}},
		{made(3, 2, 0), []int{1, 2, 0}},
		{made(3, 2, 1), []int{0, 2, 1}},
		{made(4, 3, 0), []int{1, 2, 3, 0}},
		{made(4, 3, 2, 2, 1, 1, 0), []int{3, 2, 1, 0}},
		{made(4, 0, 3, 3, 1), []int{0, 2, 3, 1}},
		{made(5, 4, 0, 4, 1, 0, 3, 1, 3), []int{2, 4, 0, 1, 3}},
		{made(5, 4, 0, 4, 0, 0, 3, 0, 3, 4, 3), []int{1, 2, 4, 0, 3}},
		{made(6, 5, 2, 5, 0, 4, 0, 4, 1, 2, 3, 3, 1), []int{4, 5, 0, 2, 3, 1}},
	} {
		checkOrder(t, c.g, c.want, api.OK)
		checkCheck(t, c.g, c.want, api.OK)
		checkCycle(t, c.g, nil, api.ErrNone)
	}
}

// A cycle anywhere leaves no order and no depths, even if most nodes are not on it.
func TestP5_1OrderCycle(t *testing.T) {
	for _, g := range []graph{
		made(1, 0, 0), made(2, 0, 1, 1, 0), made(2, 0, 1, 1, 1), made(2, 0, 1, 0, 0), made(3, 0, 1, 1, 2, 2, 0), made(3, 2, 2),
		made(5, 0, 1, 1, 2, 2, 3, 3, 4, 4, 3), made(5, 4, 3, 3, 4), made(6, 1, 2, 2, 3, 3, 1, 0, 1, 3, 4, 4, 5), made(200, 199, 199),
		made(4, 0, 1, 0, 1, 1, 0),
	} {
		checkOrder(t, g, nil, api.ErrCycle)
		checkDepth(t, g, nil, api.ErrCycle)
	}
}

func TestP5_1Order(t *testing.T) {
	each(func(g graph) {
		want, e := g.order()
		checkOrder(t, g, want, e)
	})
}

func TestP5_1CheckKnown(t *testing.T) {
	g := made(4, 2, 0, 0, 3, 1, 3)
	for _, l := range [][]int{{1, 2, 0, 3}, {2, 1, 0, 3}, {2, 0, 1, 3}} {
		checkCheck(t, g, l, api.OK)
	}
	for _, l := range [][]int{
		nil, {}, {1}, {1, 2, 0}, {2, 0, 3}, {1, 2, 0, 3, 3}, {1, 2, 0, 3, 4}, {1, 2, 0, 3, 1}, {1, 2, 0, 3, 1, 2, 0, 3}, // the length
		{1, 2, 0, 0}, {2, 2, 0, 3}, {1, 1, 1, 1}, {1, 2, 3, 3}, {0, 0, 0, 3}, // a repeated node
		{1, 2, 0, 4}, {-1, 2, 0, 3}, {1, 2, 0, -1}, {1, 2, math.MinInt, 3}, {math.MaxInt, 2, 0, 3}, {5, 6, 4, 7}, {2, 3, 1, 4}, // no node
		{0, 1, 2, 3}, {1, 2, 3, 0}, {3, 0, 2, 1}, {1, 0, 2, 3}, {2, 0, 3, 1}, // an edge the other way round
	} {
		checkCheck(t, g, l, api.ErrNot)
	}
	checkCheck(t, made(1), []int{0}, api.OK)
	checkCheck(t, made(1), []int{1}, api.ErrNot)
	checkCheck(t, made(1, 0, 0), []int{0}, api.ErrNot)
	checkCheck(t, made(2, 1, 1), []int{0, 1}, api.ErrNot)
	checkCheck(t, made(2, 0, 1, 0, 1, 0, 1), []int{0, 1}, api.OK)
	checkCheck(t, made(2, 0, 1, 1, 0), []int{0, 1}, api.ErrNot)
	checkCheck(t, made(2, 0, 1, 1, 0), []int{1, 0}, api.ErrNot)
}

// eachList calls f for each list of at most n + 1 of the numbers from -1 to n.
func eachList(n int, f func(l []int)) {
	var extend func(l []int)
	extend = func(l []int) {
		f(l)
		if len(l) <= n {
			for v := -1; v <= n; v++ {
				extend(append(slices.Clone(l), v))
			}
		}
	}
	extend(nil)
}

func asError(ok bool, e api.Errno) api.Errno {
	if ok {
		return api.OK
	}
	return e
}

func TestP5_1CheckLists(t *testing.T) {
	eachSmall(func(g graph) {
		if g.n < 4 {
			eachList(g.n, func(l []int) { checkCheck(t, g, l, asError(g.isOrder(l), api.ErrNot)) })
		}
	})
}

// In a list that is a topological order, two nodes change places, or one is replaced.
func TestP5_1CheckChanged(t *testing.T) {
	r := source()
	accepted, refused := 0, 0
	eachLarge(func(g graph) {
		order, e := g.order()
		if e != api.OK {
			order = r.Perm(g.n)
		}
		for range 30 {
			l := slices.Clone(order)
			i, j := r.IntN(g.n), r.IntN(g.n)
			l[i], l[j] = l[j], l[i]
			want := asError(g.isOrder(l), api.ErrNot)
			checkCheck(t, g, l, want)
			if want == api.OK {
				accepted++
			} else {
				refused++
			}
			l[i] = l[(i+1)%g.n]
			checkCheck(t, g, l, api.ErrNot)
		}
	})
	if accepted < 500 || refused < 500 {
		t.Errorf("only %d accepted and %d refused lists", accepted, refused)
	}
}

func TestP5_1CycleKnown(t *testing.T) {
	for _, c := range []struct {
		g    graph
		want []int
	}{
		{made(1, 0, 0), []int{0}},
		{made(1, 0, 0, 0, 0, 0, 0), []int{0}},
		{made(3, 2, 2, 1, 1), []int{1}},
		{made(3, 0, 1, 1, 0, 2, 2), []int{2}},
		{made(2, 1, 0, 0, 1), []int{0, 1}},
		{made(2, 1, 0, 0, 1, 1, 0, 0, 1), []int{0, 1}},
		{made(3, 2, 1, 1, 0, 0, 2), []int{0, 2, 1}},
		{made(3, 0, 1, 1, 2, 2, 0), []int{0, 1, 2}},
		{made(3, 0, 1, 1, 2, 2, 0, 2, 1), []int{1, 2}},
		{made(4, 0, 2, 2, 0, 0, 1, 1, 0, 3, 0, 0, 3), []int{0, 1}},
		{made(4, 3, 2, 2, 3, 1, 3, 3, 1), []int{1, 3}},
		{made(4, 3, 2, 2, 3, 1, 0, 0, 1), []int{0, 1}},
		{made(5, 0, 4, 4, 1, 1, 0, 0, 3, 3, 1), []int{0, 3, 1}},
		{made(5, 0, 2, 2, 4, 4, 0, 2, 3, 3, 0), []int{0, 2, 3}},
		{made(5, 0, 1, 1, 4, 4, 0, 0, 2, 2, 3, 3, 0), []int{0, 1, 4}},
		{made(5, 0, 1, 1, 0, 1, 2, 2, 3, 3, 4, 4, 1), []int{0, 1}},
		// The nearest way from 0 back to 0 is not over the least successor 1.
		{made(6, 0, 1, 1, 2, 2, 3, 3, 0, 0, 5, 5, 4, 4, 0), []int{0, 5, 4}},
		// Edges lead into and out of the cycle, and the least node is not on it.
		{made(6, 0, 3, 3, 5, 5, 4, 4, 3, 5, 1, 1, 2, 0, 2), []int{3, 5, 4}},
	} {
		checkCycle(t, c.g, c.want, api.OK)
		checkOrder(t, c.g, nil, api.ErrCycle)
	}
	for _, g := range []graph{made(2, 0, 1), made(4, 0, 1, 1, 2, 2, 3), made(4, 0, 1, 0, 2, 1, 3, 2, 3), made(4, 3, 2, 3, 2, 2, 1, 1, 0)} {
		checkCycle(t, g, nil, api.ErrNone)
	}
}

func TestP5_1CycleOfAllNodes(t *testing.T) {
	r := source()
	for _, n := range []int{1, 2, 3, 7, 50, 200} {
		g := ring(r, n)
		want := []int{0}
		for len(want) < n {
			i := slices.IndexFunc(g.edges, func(edge api.Edge) bool { return edge.From == want[len(want)-1] })
			want = append(want, g.edges[i].To)
		}
		checkCycle(t, g, want, api.OK)
		checkCycle(t, graph{n, g.edges[1:]}, nil, api.ErrNone)
	}
}

func TestP5_1Cycle(t *testing.T) {
	test := func(g graph) {
		want, e := g.cycle()
		checkCycle(t, g, want, e)
	}
	eachSmall(test)
	eachMiddle(test)
}

func TestP5_1ReachKnown(t *testing.T) {
	g := made(7, 0, 1, 1, 2, 2, 0, 2, 3, 4, 3, 3, 5, 5, 3, 5, 3, 6, 6)
	for v, want := range [][]int{{0, 1, 2, 3, 5}, {0, 1, 2, 3, 5}, {0, 1, 2, 3, 5}, {3, 5}, {3, 4, 5}, {3, 5}, {6}} {
		checkReach(t, g, v, want)
	}
	for _, v := range []int{-1, -2, 7, 8, 200, math.MinInt, math.MaxInt} {
		checkReach(t, g, v, nil)
	}
	checkReach(t, made(200), 200, nil)
	checkReach(t, made(200), 199, []int{199})
	checkReach(t, made(5, 4, 3, 3, 2, 2, 1, 1, 0), 4, []int{0, 1, 2, 3, 4})
	checkReach(t, made(5, 4, 3, 3, 2, 2, 1, 1, 0), 0, []int{0})
}

func TestP5_1Reach(t *testing.T) {
	each(func(g graph) {
		for v, to := range g.reaching() {
			checkReach(t, g, v, listed(to))
		}
		checkReach(t, g, -1, nil)
		checkReach(t, g, g.n, nil)
	})
}

func TestP5_1DepthKnown(t *testing.T) {
	for _, c := range []struct {
		g    graph
		want []int
	}{
		{made(2, 0, 1), []int{0, 1}},
		{made(2, 1, 0, 1, 0), []int{1, 0}},
		{made(3, 0, 1, 1, 2, 0, 2), []int{0, 1, 2}},
		{made(3, 0, 2, 0, 1, 1, 2), []int{0, 1, 2}},
		{made(3, 2, 0, 2, 1, 1, 0), []int{2, 1, 0}},
		{made(5, 4, 0, 3, 1, 0, 2, 3, 2), []int{1, 1, 2, 0, 0}},
		{made(6, 0, 5, 0, 1, 1, 2, 2, 3, 3, 5, 4, 5), []int{0, 1, 2, 3, 0, 4}},
	} {
		checkDepth(t, c.g, c.want, api.OK)
	}
	line, want := made(200), make([]int, 200)
	for v := range 199 {
		line, want[v] = line.and(v+1, v), 199-v
	}
	checkDepth(t, line, want, api.OK)
}

func TestP5_1Depth(t *testing.T) {
	each(func(g graph) {
		want, e := g.depths()
		checkDepth(t, g, want, e)
	})
}

func TestP5_1ComponentsKnown(t *testing.T) {
	for _, c := range []struct {
		g    graph
		want [][]int
	}{
		{made(1, 0, 0), [][]int{{0}}},
		{made(2, 0, 1), [][]int{{0}, {1}}},
		{made(2, 1, 0, 0, 1), [][]int{{0, 1}}},
		{made(3, 2, 0, 0, 2), [][]int{{0, 2}, {1}}},
		{made(4, 3, 1, 1, 3, 2, 0, 0, 2), [][]int{{0, 2}, {1, 3}}},
		{made(4, 3, 1, 1, 3, 2, 0, 0, 2, 0, 1, 0, 3), [][]int{{0, 2}, {1, 3}}},
		{made(4, 3, 1, 1, 3, 2, 0, 0, 2, 0, 1, 3, 2), [][]int{{0, 1, 2, 3}}},
		{made(7, 0, 1, 1, 2, 2, 0, 2, 3, 4, 3, 3, 5, 5, 3), [][]int{{0, 1, 2}, {3, 5}, {4}, {6}}},
		{made(5, 4, 0, 0, 4, 0, 1, 1, 2, 2, 3), [][]int{{0, 4}, {1}, {2}, {3}}},
	} {
		checkComponents(t, c.g, c.want)
	}
}

func TestP5_1Components(t *testing.T) {
	each(func(g graph) { checkComponents(t, g, g.classes()) })
}

// Neither the order of the edges nor repeated edges change a result.
func TestP5_1SameEdges(t *testing.T) {
	r := source()
	eachFew(func(g graph) {
		other := g.shuffled(r)
		order, e := digraph.Order(g.n, g.edges)
		checkOrder(t, other, order, e)
		cycle, e := digraph.Cycle(g.n, g.edges)
		checkCycle(t, other, cycle, e)
		depth, e := digraph.Depth(g.n, g.edges)
		checkDepth(t, other, depth, e)
		checkComponents(t, other, digraph.Components(g.n, g.edges))
		for v := range g.n {
			checkReach(t, other, v, digraph.Reach(g.n, g.edges, v))
		}
	})
}

// Neither the lists nor what is behind them in the same memory is changed.
func TestP5_1Arguments(t *testing.T) {
	r := source()
	eachFew(func(g graph) {
		other, list := g.shuffled(r), r.Perm(g.n+3)
		behind, before := slices.Clone(other.edges), slices.Clone(list)
		calls(graph{g.n, other.edges[:len(g.edges)]}, 0, list[:g.n])
		calls(graph{g.n, other.edges[:len(g.edges)/2]}, g.n-1, list[1:g.n+1])
		if !slices.Equal(other.edges, behind) || !slices.Equal(list, before) {
			t.Errorf("%v and %v became %v and %v", behind, before, other.edges, list)
		}
	})
}

// No class of nodes shares memory with another one.
func TestP5_1ComponentsMemory(t *testing.T) {
	eachFew(func(g graph) {
		got, want := digraph.Components(g.n, g.edges), g.classes()
		for i := range got {
			for j, class := range got {
				if j > i && !slices.Equal(class, want[j]) {
					t.Errorf("%v: class %d is %v behind a change of another one", g, j, class)
				}
			}
			whole := got[i][:cap(got[i])]
			for k := range whole {
				whole[k] = -7
			}
		}
	})
}
