package tests

import (
	"fmt"
	"slices"
	"testing"

	"loop.example/s15618/impl"
)

func checkMix(t *testing.T, what string, g impl.Graph, a int, b int, join impl.Graph, meet impl.Graph) {
	t.Helper()
	if j, at := impl.Join(g, a, b); at != 0 || !equalGraphs(j, join) {
		t.Errorf("%s: Join is %v at %d, want %v", what, j, at, join)
	}
	if m, at := impl.Meet(g, a, b); at != 0 || !equalGraphs(m, meet) {
		t.Errorf("%s: Meet is %v at %d, want %v", what, m, at, meet)
	}
}

func TestMixRules(t *testing.T) {
	// 3 {a: int, b: bool}, 4 {b: bool, c: int}, 5 {}, 6 {b: int}, 7 = 3 -> 4, 8 = 4 -> 3
	ab, bc, abc := []string{"a", "b"}, []string{"b", "c"}, []string{"a", "b", "c"}
	g := graph(anyNode, intNode, boolNode, rec(ab, 1, 2), rec(bc, 2, 1), rec(nil), rec([]string{"b"}, 1), fun(3, 4), fun(4, 3))
	unknown := graph(anyNode)
	for i := range g.Nodes {
		checkMix(t, fmt.Sprint("? and ", i), g, 0, i, unknown, unknown)
		checkMix(t, fmt.Sprint(i, " and ?"), g, i, 0, unknown, unknown)
	}
	checkMix(t, "int", g, 1, 1, graph(intNode), graph(intNode))
	checkMix(t, "bool", g, 2, 2, graph(boolNode), graph(boolNode))
	checkMix(t, "int and bool", g, 1, 2, unknown, unknown)
	checkMix(t, "int and record", g, 1, 5, unknown, unknown)
	checkMix(t, "function and record", g, 7, 3, unknown, unknown)
	checkMix(t, "records", g, 3, 4, graph(rec([]string{"b"}, 1), boolNode), graph(rec(abc, 1, 2, 1), intNode, boolNode))
	checkMix(t, "the empty record", g, 5, 4, graph(rec(nil)), graph(rec(bc, 1, 2), boolNode, intNode))
	checkMix(t, "kids that differ", g, 6, 3, graph(rec([]string{"b"}, 1), anyNode), graph(rec(ab, 1, 2), intNode, anyNode))
	checkMix(t, "functions", g, 7, 8,
		graph(fun(1, 4), rec(abc, 2, 3, 2), intNode, boolNode, rec([]string{"b"}, 3)),
		graph(fun(1, 3), rec([]string{"b"}, 2), boolNode, rec(abc, 4, 2, 4), intNode))
}

func TestMixChangesPlacesTwice(t *testing.T) {
	// 2 = {a: int}, 3 = {b: bool}; 6 = (2 -> int) -> int, 7 = (3 -> int) -> int
	g := graph(intNode, boolNode, one(0), rec([]string{"b"}, 1), fun(2, 0), fun(3, 0), fun(4, 0), fun(5, 0))
	checkMix(t, "arguments of arguments", g, 6, 7,
		graph(fun(1, 3), fun(2, 3), rec(nil), intNode),
		graph(fun(1, 3), fun(2, 3), rec([]string{"a", "b"}, 3, 4), intNode, boolNode))
}

func TestMixOfTypesThatContainThemselves(t *testing.T) {
	// 1 = {a: 1}, 2 = {a: 2, b: int}, 3 = 3 -> 1, 4 = 4 -> 2
	g := graph(intNode, one(1), rec([]string{"a", "b"}, 2, 0), fun(3, 1), fun(4, 2))
	checkMix(t, "records", g, 1, 2, graph(one(0)), graph(rec([]string{"a", "b"}, 0, 1), intNode))
	// the Join's argument is the Meet and the other way round
	join := graph(fun(1, 4), fun(0, 2), rec([]string{"a", "b"}, 2, 3), intNode, one(4))
	meet := graph(fun(1, 3), fun(0, 2), one(2), rec([]string{"a", "b"}, 3, 4), intNode)
	checkMix(t, "functions", g, 3, 4, join, meet)
	checkMix(t, "one shape with another", lists(), 3, 6, graph(rec([]string{"next", "x"}, 0, 1), intNode), graph(rec([]string{"next", "x"}, 0, 1), intNode))
}

// Promise 3, and that Join and Meet are the types that the document describes.
func TestMixKeepsItsPromise(t *testing.T) {
	manyGraphs(func(d *dice, g impl.Graph, _ bool) {
		a, b := d.roll(len(g.Nodes)), d.roll(len(g.Nodes))
		for _, meet := range []bool{false, true} {
			ask := impl.Join
			if meet {
				ask = impl.Meet
			}
			got, at := ask(g, a, b)
			plain, root := plainMix(g, a, b, meet)
			want, _ := impl.Canon(plain, []int{root})
			if at != 0 || !equalGraphs(got, want) {
				t.Fatalf("%v %d %d, meet %v: got %v at %d, want %v", g, a, b, meet, got, at, want)
			}
			all, to := both(g, got), len(g.Nodes)+at
			sub := plainSub(all)
			if !meet && (!impl.Sub(all, a, to) || !impl.Sub(all, b, to) || !sub[a][to] || !sub[b][to]) {
				t.Fatalf("%v: %d and %d for their Join %v", g, a, b, got)
			}
			if meet && (!impl.Sub(all, to, a) || !impl.Sub(all, to, b) || !sub[to][a] || !sub[to][b]) {
				t.Fatalf("%v: the Meet %v for %d and %d", g, got, a, b)
			}
		}
	})
}

// chain appends n types to the nodes, each {a: the next}, the last one end.
func chain(nodes []impl.Node, n int, end impl.Node) []impl.Node {
	for range n - 1 {
		nodes = append(nodes, one(len(nodes)+1))
	}
	return append(nodes, end)
}

// ring appends n records that lead to each other in a circle, the last one with
// a field more.
func ring(nodes []impl.Node, n int, name string) []impl.Node {
	first := len(nodes)
	for range n - 1 {
		nodes = append(nodes, one(len(nodes)+1))
	}
	return append(nodes, rec([]string{"a", name}, first, first))
}

func checkLimit(t *testing.T, what string, nodes []impl.Node, a int, b int, within bool) {
	t.Helper()
	g := impl.Graph{Nodes: nodes}
	j, atJoin := impl.Join(g, a, b)
	m, atMeet := impl.Meet(g, a, b)
	if isAny(j, atJoin) == within || isAny(m, atMeet) == within {
		t.Errorf("%s: Join has %d nodes, Meet %d, within the limit: %v", what, len(j.Nodes), len(m.Nodes), within)
	}
}

func TestMixLimit(t *testing.T) {
	n := impl.MaxPairs
	checkLimit(t, "a chain", chain(nil, n, intNode), 0, 0, true)
	checkLimit(t, "a chain and one more", chain(nil, n+1, intNode), 0, 0, false)
	checkLimit(t, "two chains", chain(chain(nil, n, intNode), n, boolNode), 0, n, true)
	checkLimit(t, "two chains and one more", chain(chain(nil, n+1, intNode), n+1, boolNode), 0, n+1, false)
	checkLimit(t, "rings of 8 and 125", ring(ring(nil, 8, "b"), 125, "c"), 0, 8, true)
	checkLimit(t, "rings of 7 and 143", ring(ring(nil, 7, "b"), 143, "c"), 0, 7, false)
	// the last pair of each is (int, ?): it counts like any other
	checkLimit(t, "to ?", chain(chain(nil, n, intNode), n, anyNode), 0, n, true)
	checkLimit(t, "to ? and one more", chain(chain(nil, n+1, intNode), n+1, anyNode), 0, n+1, false)
	// and so does a last pair of which the kinds differ
	checkLimit(t, "to a function", chain(chain(nil, n+1, fun(0, 0)), n+1, boolNode), 0, n+1, false)
}

// The limit counts types: rings of one record, or of two in turn, are few types
// in however many nodes they are written.
func TestMixLimitCountsTypes(t *testing.T) {
	var nodes []impl.Node
	for i := range 1999 {
		nodes = append(nodes, one((i+1)%1999))
	}
	for i := range 2001 {
		nodes = append(nodes, one(1999+(i+1)%2001))
	}
	checkMix(t, "rings of one record", impl.Graph{Nodes: nodes}, 0, 1999, graph(one(0)), graph(one(0)))

	nodes = nil
	for i := range 2000 {
		nodes = append(nodes, one((i+1)%2000))
		if i%2 == 1 {
			nodes[i] = fun((i+1)%2000, (i+3)%2000)
		}
	}
	two := graph(one(1), fun(0, 0))
	checkMix(t, "two in turn", impl.Graph{Nodes: nodes}, 0, 1000, two, two)

	n := impl.MaxPairs
	twice := chain(chain(nil, n, intNode), n, intNode)
	for i := range n - 1 {
		if i%2 == 0 {
			twice[i].Kids[0] += n
			twice[n+i].Kids[0] -= n
		}
	}
	checkLimit(t, "every type of the chain twice", twice, 0, n+1, true)
	whole, _ := impl.Canon(impl.Graph{Nodes: chain(nil, n-1, intNode)}, []int{0})
	checkMix(t, "the second type of the chain", impl.Graph{Nodes: twice}, 1, n+1, whole, whole)
}

// A function to and from one chain comes to each type of the chain for Join and
// for Meet.
func TestMixLimitCountsJoinAndMeet(t *testing.T) {
	half := impl.MaxPairs/2 - 1
	checkLimit(t, "as many as can be", chain([]impl.Node{one(1), fun(2, 2)}, half, intNode), 0, 0, true)
	checkLimit(t, "one more", chain([]impl.Node{one(1), one(2), fun(3, 3)}, half, intNode), 0, 0, false)
	checkLimit(t, "a longer chain", chain([]impl.Node{fun(1, 1)}, half+1, intNode), 0, 0, false)
}

// A pair has a first and a second type: the chains met in both orders count twice.
func TestMixLimitCountsBothOrders(t *testing.T) {
	ab := []string{"a", "b"}
	build := func(n int, more ...impl.Node) []impl.Node {
		k := len(more)
		nodes := append(more, rec(ab, k+2, k+2+n), rec(ab, k+2+n, k+2))
		return chain(chain(nodes, n, intNode), n, boolNode)
	}
	n := impl.MaxPairs / 2
	checkLimit(t, "one more", build(n), 0, 1, false)
	checkLimit(t, "one less", build(n-1), 0, 1, true)
	checkLimit(t, "as many as can be", build(n-1, one(2), one(3)), 0, 1, true)
	checkLimit(t, "and one more", build(n-1, one(2), one(3), one(4), one(5)), 0, 1, false)
}

// What only one of the records has is not gone through, so it does not count.
func TestMixLimitLeavesOutLoneFields(t *testing.T) {
	g := impl.Graph{Nodes: chain([]impl.Node{rec(nil)}, impl.MaxNodes-1, intNode)}
	whole, _ := impl.Canon(g, []int{1})
	checkMix(t, "a long chain and the empty record", g, 1, 0, graph(rec(nil)), whole)
	checkMix(t, "and the other way round", g, 0, 1, graph(rec(nil)), whole)
}

// A Meet is told whole even where it needs more nodes than a valid graph has.
func TestMeetMayBeLarge(t *testing.T) {
	var nodes []impl.Node
	n := impl.MaxPairs / 2
	for side := range 2 {
		for range n - 1 {
			at := len(nodes)
			nodes = append(nodes, rec([]string{"a", fmt.Sprint("own", side)}, at+1, at))
		}
		nodes = append(nodes, rec([]string{fmt.Sprint("end", side)}, len(nodes)))
	}
	tail := len(nodes)
	nodes = chain(nodes, impl.MaxNodes-tail, intNode)
	nodes[0] = rec([]string{"a", "own0", "tail"}, 1, 0, tail)
	m, at := impl.Meet(impl.Graph{Nodes: nodes}, 0, n)
	if at != 0 || len(m.Nodes) != n+impl.MaxNodes {
		t.Errorf("%d nodes, at %d", len(m.Nodes), at)
	}
}

func TestLargeGraphs(t *testing.T) {
	g := impl.Graph{Nodes: ring(nil, impl.MaxNodes, "b")}
	c, at := impl.Canon(g, []int{1, 0})
	if len(c.Nodes) != impl.MaxNodes || at[1] != impl.MaxNodes-1 || impl.Same(g, 0, 1) || impl.Sub(g, 0, 1) {
		t.Errorf("a ring of %d types has %d", impl.MaxNodes, len(c.Nodes))
	}
	g = impl.Graph{Nodes: chain(nil, impl.MaxNodes, intNode)}
	c, _ = impl.Canon(g, []int{0})
	if !equalGraphs(c, g) || !impl.Same(g, 0, 0) || impl.Same(g, 0, 1) {
		t.Error("a chain of as many types as can be")
	}
	// 61 and 64 have no common part, so every pair of the rings is come to
	nodes := ring(nil, 61, "b")
	for i := range 64 {
		nodes = append(nodes, one(61+(i+1)%64))
	}
	g = impl.Graph{Nodes: nodes}
	if !impl.Sub(g, 0, 61) || impl.Sub(g, 61, 0) || impl.Same(g, 0, 61) {
		t.Error("a ring of 61 for a ring of 64")
	}
}

// No argument is written into, and no list of an answer is shared.
func TestMemoryOfTypes(t *testing.T) {
	manyGraphs(func(d *dice, g impl.Graph, _ bool) {
		kept := copyGraph(g)
		roots := []int{d.roll(len(g.Nodes)), d.roll(len(g.Nodes)), d.roll(len(g.Nodes))}
		keptRoots := slices.Clone(roots)
		a, b := roots[0], roots[1]
		impl.ValidGraph(g)
		impl.Same(g, a, b)
		impl.Sub(g, a, b)
		c, at := impl.Canon(g, roots)
		listsApart(t, c, at)
		j, _ := impl.Join(g, a, b)
		listsApart(t, j, nil)
		m, _ := impl.Meet(g, a, b)
		listsApart(t, m, nil)
		if !equalGraphs(g, kept) || !slices.Equal(roots, keptRoots) {
			t.Fatalf("%v %v became %v %v", kept, keptRoots, g, roots)
		}
	})
	// nodes that share their lists in the argument do not in the answer
	names, kids := []string{"a", "b"}, []int{2, 2}
	g := graph(rec(names, kids...), impl.Node{Kind: impl.KFun, Kids: kids}, intNode, rec(names, 1, 1))
	c, at := impl.Canon(g, []int{0, 1, 3})
	listsApart(t, c, at)
	sameAnswer(t, "names", names, []string{"a", "b"})
	sameAnswer(t, "kids", kids, []int{2, 2})
}

// The same question has the same answer however often it is asked.
func TestTypesAnswerAlike(t *testing.T) {
	manyGraphs(func(d *dice, g impl.Graph, _ bool) {
		a, b := d.roll(len(g.Nodes)), d.roll(len(g.Nodes))
		c1, at1 := impl.Canon(g, []int{a, b})
		c2, at2 := impl.Canon(g, []int{a, b})
		m1, _ := impl.Meet(g, a, b)
		m2, _ := impl.Meet(g, a, b)
		if !equalGraphs(c1, c2) || !slices.Equal(at1, at2) || !equalGraphs(m1, m2) {
			t.Fatalf("%v %d %d", g, a, b)
		}
	})
}
