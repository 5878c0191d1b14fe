package tests

import (
	"fmt"
	"slices"
	"strings"
	"testing"

	"loop.example/s15618/impl"
)

func TestValidGraphs(t *testing.T) {
	good := map[string]impl.Graph{
		"empty":             {},
		"leaves":            graph(anyNode, intNode, boolNode),
		"empty lists":       graph(impl.Node{Kind: impl.KInt, Names: []string{}, Kids: []int{}}),
		"empty record":      graph(rec(nil)),
		"record of itself":  graph(one(0)),
		"function of last":  graph(fun(0, 1), intNode),
		"names in order":    graph(rec([]string{"a", "a0", "a_", "aa", "b"}, 0, 0, 0, 0, 0)),
		"longest name":      graph(rec([]string{"abcdefghijkl"}, 0)),
		"shortest name":     graph(rec([]string{"z"}, 0)),
		"word with more":    graph(rec([]string{"int_", "types"}, 0, 0)),
		"digits in a name":  graph(rec([]string{"a0_9z"}, 0)),
		"as many as can be": {Nodes: make([]impl.Node, impl.MaxNodes)},
	}
	for what, g := range good {
		if !impl.ValidGraph(g) {
			t.Errorf("%s: not valid", what)
		}
	}
	for what, g := range badGraphs() {
		if impl.ValidGraph(g) {
			t.Errorf("%s: valid", what)
		}
	}
}

// badGraphs has a graph for every way of not being valid; each has a node 0,
// and the fault is not always at node 0.
func badGraphs() map[string]impl.Graph {
	bad := map[string]impl.Graph{
		"kind below":           graph(impl.Node{Kind: -1}),
		"kind above":           graph(impl.Node{Kind: 5}),
		"any with a name":      graph(impl.Node{Kind: impl.KAny, Names: []string{"a"}}),
		"any with a kid":       graph(impl.Node{Kind: impl.KAny, Kids: []int{0}}),
		"int with a name":      graph(impl.Node{Kind: impl.KInt, Names: []string{"a"}}),
		"int with a kid":       graph(impl.Node{Kind: impl.KInt, Kids: []int{0}}),
		"bool with a field":    graph(impl.Node{Kind: impl.KBool, Names: []string{"a"}, Kids: []int{0}}),
		"more names than kids": graph(rec([]string{"a", "b"}, 0)),
		"more kids than names": graph(rec([]string{"a"}, 0, 0)),
		"function with a name": graph(impl.Node{Kind: impl.KFun, Names: []string{"a"}, Kids: []int{0, 0}}),
		"function, no kids":    graph(impl.Node{Kind: impl.KFun}),
		"function, one kid":    graph(impl.Node{Kind: impl.KFun, Kids: []int{0}}),
		"function, three kids": graph(impl.Node{Kind: impl.KFun, Kids: []int{0, 0, 0}}),
		"kid below":            graph(one(-1)),
		"kid past the last":    graph(one(1)),
		"argument past":        graph(fun(1, 0)),
		"result below":         graph(fun(0, -1)),
		"names out of order":   graph(rec([]string{"b", "a"}, 0, 0)),
		"longer name first":    graph(rec([]string{"ab", "a"}, 0, 0)),
		"equal names":          graph(rec([]string{"a", "a"}, 0, 0)),
		"last names equal":     graph(rec([]string{"a", "b", "b"}, 0, 0, 0)),
		"fault at the end":     graph(anyNode, one(0), one(3)),
		"one node too many":    {Nodes: make([]impl.Node, impl.MaxNodes+1)},
	}
	names := strings.Fields("import type val fun if then else int bool true false abcdefghijklm 1a _a A aB a-b a.b é aé")
	for _, name := range append(names, "", " a", "a ", "a\n", "a\x00") {
		bad[fmt.Sprintf("name %q", name)] = graph(rec([]string{name}, 0))
	}
	return bad
}

func TestBadArguments(t *testing.T) {
	check := func(what string, g impl.Graph, a int, b int) {
		before := copyGraph(g)
		if impl.Same(g, a, b) || impl.Sub(g, a, b) {
			t.Errorf("%s: Same or Sub holds", what)
		}
		if c, at := impl.Canon(g, []int{0, a, b}); len(c.Nodes) != 0 || len(at) != 0 {
			t.Errorf("%s: Canon %v %v", what, c, at)
		}
		if j, at := impl.Join(g, a, b); len(j.Nodes) != 0 || at != -1 {
			t.Errorf("%s: Join %v %d", what, j, at)
		}
		if m, at := impl.Meet(g, a, b); len(m.Nodes) != 0 || at != -1 {
			t.Errorf("%s: Meet %v %d", what, m, at)
		}
		if !equalGraphs(g, before) {
			t.Errorf("%s: the graph was written into", what)
		}
	}
	for what, g := range badGraphs() {
		check(what, g, 0, 0)
	}
	good := graph(anyNode, intNode)
	far := int(^uint(0) >> 1)
	for _, n := range []int{-1, 2, 3, far, -far - 1} {
		check(fmt.Sprint("first ", n), good, n, 0)
		check(fmt.Sprint("second ", n), good, 1, n)
		check(fmt.Sprint("both ", n), good, n, n)
	}
	check("no node at all", impl.Graph{}, 0, 0)
}

// lists are written in three shapes: 2 leads to itself, 3 and 4 to each other,
// and 5 to 7 are a ring of three; 8 is a list of bool.
func lists() impl.Graph {
	names := []string{"next", "x"}
	return graph(intNode, boolNode, rec(names, 2, 0), rec(names, 4, 0), rec(names, 3, 0),
		rec(names, 6, 0), rec(names, 7, 0), rec(names, 5, 0), rec(names, 8, 1))
}

func TestSameShapes(t *testing.T) {
	g := lists()
	for a := 2; a <= 7; a++ {
		for b := 2; b <= 7; b++ {
			if !impl.Same(g, a, b) {
				t.Errorf("%d and %d", a, b)
			}
		}
		if impl.Same(g, a, 8) || impl.Same(g, 8, a) || impl.Same(g, a, 0) {
			t.Errorf("%d is another type than these", a)
		}
	}
	f := graph(fun(1, 2), intNode, boolNode, fun(2, 1), fun(1, 2), rec(nil), rec(nil), one(5), rec([]string{"b"}, 5))
	if !impl.Same(f, 0, 4) || !impl.Same(f, 5, 6) {
		t.Error("equal functions, empty records")
	}
	if impl.Same(f, 0, 3) || impl.Same(f, 7, 8) || impl.Same(f, 5, 7) {
		t.Error("argument and result changed, other names, more names")
	}
}

// Promise 1, against the plainest way to a largest relation.
func TestSameIsLargest(t *testing.T) {
	manyGraphs(func(d *dice, g impl.Graph, _ bool) {
		want := plainSame(g)
		roots := make([]int, len(g.Nodes))
		for i := range roots {
			roots[i] = i
		}
		_, at := impl.Canon(g, roots)
		for a := range g.Nodes {
			for b := range g.Nodes {
				if impl.Same(g, a, b) != want[a][b] || (at[a] == at[b]) != want[a][b] {
					t.Fatalf("%v: %d and %d: Same %v, Canon %v, want %v", g, a, b, impl.Same(g, a, b), at, want[a][b])
				}
			}
			if !impl.Same(g, a, a) {
				t.Fatalf("%v: %d is not the same as itself", g, a)
			}
		}
	})
}

// copies writes each node of g several times, with kids that lead to any of the
// copies: node i of the answer is of the type of node i % len(g.Nodes) of g.
func copies(d *dice, g impl.Graph, times int) impl.Graph {
	var out impl.Graph
	for range times {
		for _, n := range copyGraph(g).Nodes {
			for i := range n.Kids {
				n.Kids[i] += len(g.Nodes) * d.roll(times)
			}
			out.Nodes = append(out.Nodes, n)
		}
	}
	return out
}

// Promises 1 and 4 where a type stands in many nodes: only the types are seen.
func TestTypesInManyNodes(t *testing.T) {
	d := dice(4)
	for round := range 60 {
		n := 10 + round
		g := someGraph(&d, n, true)
		same := plainSame(g)
		wide := copies(&d, g, 8)
		for range 20 {
			a, b := d.roll(len(wide.Nodes)), d.roll(len(wide.Nodes))
			if impl.Same(wide, a, b) != same[a%n][b%n] || impl.Sub(wide, a, b) != impl.Sub(g, a%n, b%n) {
				t.Fatalf("%v: %d and %d of the copies", g, a, b)
			}
			c1, at1 := impl.Canon(wide, []int{a, b})
			c2, at2 := impl.Canon(g, []int{a % n, b % n})
			if !equalGraphs(c1, c2) || !slices.Equal(at1, at2) {
				t.Fatalf("%v: %d and %d of the copies: %v %v, want %v %v", g, a, b, c1, at1, c2, at2)
			}
			m1, _ := impl.Meet(wide, a, b)
			m2, _ := impl.Meet(g, a%n, b%n)
			if !equalGraphs(m1, m2) {
				t.Fatalf("%v: Meet of %d and %d of the copies: %v, want %v", g, a, b, m1, m2)
			}
		}
		all := make([]int, n)
		for i := range all {
			all[i] = i + n*d.roll(8)
		}
		_, at := impl.Canon(wide, all)
		for a := range n {
			for b := range n {
				if (at[a] == at[b]) != same[a][b] {
					t.Fatalf("%v: %d and %d have the numbers %d and %d", g, a, b, at[a], at[b])
				}
			}
		}
	}
}

func TestSubRules(t *testing.T) {
	// 3 {}, 4 {a: int}, 5 {a: int, b: bool}, 6 {a: ?}, 7 {b: bool}, 8 {a: bool}
	a, ab := []string{"a"}, []string{"a", "b"}
	g := graph(anyNode, intNode, boolNode, rec(nil), rec(a, 1), rec(ab, 1, 2), rec(a, 0), rec([]string{"b"}, 2), rec(a, 2),
		fun(4, 5), fun(5, 4), fun(0, 1), fun(2, 0), fun(9, 1), fun(10, 1))
	yes := [][2]int{{1, 1}, {2, 2}, {4, 3}, {5, 3}, {5, 4}, {5, 7}, {4, 6}, {6, 4}, {6, 8}, {5, 6}, {9, 10}, {11, 11}, {11, 12}, {12, 11}, {14, 13}}
	no := [][2]int{{1, 2}, {2, 1}, {1, 3}, {3, 1}, {3, 4}, {4, 5}, {4, 8}, {7, 4}, {10, 9}, {9, 3}, {3, 9}, {6, 5}, {9, 1}, {13, 14}}
	for _, p := range yes {
		if !impl.Sub(g, p[0], p[1]) {
			t.Errorf("%d will do for %d", p[0], p[1])
		}
	}
	for _, p := range no {
		if impl.Sub(g, p[0], p[1]) {
			t.Errorf("%d will not do for %d", p[0], p[1])
		}
	}
	for i := range g.Nodes {
		if !impl.Sub(g, 0, i) || !impl.Sub(g, i, 0) {
			t.Errorf("? and %d", i)
		}
	}
}

func TestSubOfTypesThatContainThemselves(t *testing.T) {
	// 1 = {a: 1}, 2 = {a: 2, b: int}, 3 = 1 -> 3, 4 = 2 -> 4, 5 = 5 -> int, 6 = 6 -> int, 7 = 7 -> bool
	g := graph(intNode, one(1), rec([]string{"a", "b"}, 2, 0), fun(1, 3), fun(2, 4), fun(5, 0), fun(6, 0), fun(7, 8), boolNode)
	for _, p := range [][2]int{{2, 1}, {3, 4}, {5, 6}, {6, 5}} {
		if !impl.Sub(g, p[0], p[1]) {
			t.Errorf("%d will do for %d", p[0], p[1])
		}
	}
	for _, p := range [][2]int{{1, 2}, {4, 3}, {5, 7}, {7, 5}, {1, 3}} {
		if impl.Sub(g, p[0], p[1]) {
			t.Errorf("%d will not do for %d", p[0], p[1])
		}
	}
}

func TestSubIsLargest(t *testing.T) {
	manyGraphs(func(d *dice, g impl.Graph, _ bool) {
		want := plainSub(g)
		for a := range g.Nodes {
			for b := range g.Nodes {
				if impl.Sub(g, a, b) != want[a][b] {
					t.Fatalf("%v: %d for %d: want %v", g, a, b, want[a][b])
				}
			}
		}
	})
}

// Promise 2: same types stand for each other in Sub, and without ? it goes on
// from one to the next.
func TestSubKeepsItsPromise(t *testing.T) {
	manyGraphs(func(d *dice, g impl.Graph, withAny bool) {
		n := len(g.Nodes)
		sub := make([][]bool, n)
		for a := range n {
			for b := range n {
				sub[a] = append(sub[a], impl.Sub(g, a, b))
			}
		}
		for a := range n {
			for b := range n {
				if impl.Same(g, a, b) && (!sub[a][b] || !slices.Equal(sub[a], sub[b])) {
					t.Fatalf("%v: %d and %d are the same type", g, a, b)
				}
				for c := range n {
					if impl.Same(g, a, b) && sub[c][a] != sub[c][b] {
						t.Fatalf("%v: %d for the same types %d and %d", g, c, a, b)
					}
					if sub[a][b] && sub[b][c] && !sub[a][c] && !withAny {
						t.Fatalf("%v: %d, %d and %d", g, a, b, c)
					}
				}
			}
		}
	})
	g := graph(anyNode, intNode, boolNode)
	if !impl.Sub(g, 1, 0) || !impl.Sub(g, 0, 2) || impl.Sub(g, 1, 2) {
		t.Error("by way of ? it does not go on")
	}
}

func TestCanonNumbers(t *testing.T) {
	// 0 = {a: 1, b: 2}, 1 = 3 -> 2, 2 = {a: 4}, 3 = bool, 4 = int, 5 = {a: 6}, 6 = int, 7 = ?
	g := graph(rec([]string{"a", "b"}, 1, 2), fun(3, 2), one(4), boolNode, intNode, one(6), intNode, anyNode)
	c, at := impl.Canon(g, []int{0})
	want := graph(rec([]string{"a", "b"}, 1, 3), fun(2, 3), boolNode, one(4), intNode)
	if !equalGraphs(c, want) || !slices.Equal(at, []int{0}) {
		t.Errorf("all that is below comes before the next kid: %v %v", c, at)
	}
	c, at = impl.Canon(g, []int{6, 5, 2, 4, 0, 7, 7})
	want = graph(intNode, one(0), rec([]string{"a", "b"}, 3, 1), fun(4, 1), boolNode, anyNode)
	if !equalGraphs(c, want) || !slices.Equal(at, []int{0, 1, 1, 0, 2, 5, 5}) {
		t.Errorf("roots in order, same types once: %v %v", c, at)
	}
	c, at = impl.Canon(lists(), []int{8, 6})
	names := []string{"next", "x"}
	want = graph(rec(names, 0, 1), boolNode, rec(names, 2, 3), intNode)
	if !equalGraphs(c, want) || !slices.Equal(at, []int{0, 2}) {
		t.Errorf("lists: %v %v", c, at)
	}
	// 0 = 1 -> 2, 1 = 2 -> 0, 2 = {a: 0}: the number is given before the kids are gone through
	c, at = impl.Canon(graph(fun(1, 2), fun(2, 0), one(0)), []int{2, 1})
	want = graph(one(1), fun(2, 0), fun(0, 1))
	if !equalGraphs(c, want) || !slices.Equal(at, []int{0, 2}) {
		t.Errorf("leading back: %v %v", c, at)
	}
}

func TestCanonEdges(t *testing.T) {
	for _, g := range []impl.Graph{{}, lists()} {
		if c, at := impl.Canon(g, nil); len(c.Nodes) != 0 || len(at) != 0 {
			t.Errorf("no roots: %v %v", c, at)
		}
	}
	if c, at := impl.Canon(graph(anyNode), []int{0}); !isAny(c, at[0]) {
		t.Errorf("%v %v", c, at)
	}
	roots := make([]int, impl.MaxRoots)
	if c, at := impl.Canon(graph(one(0)), roots); len(c.Nodes) != 1 || !slices.Equal(at, roots) {
		t.Errorf("MaxRoots roots: %v", c)
	}
	if c, at := impl.Canon(graph(one(0)), append(roots, 0)); len(c.Nodes) != 0 || len(at) != 0 {
		t.Errorf("one root too many: %v %v", c, at)
	}
}

// Promise 4: kinds, names and kids are kept, nothing is there twice or without
// need, and Canon has nothing to do on what it gave.
func TestCanonKeepsItsPromise(t *testing.T) {
	manyGraphs(func(d *dice, g impl.Graph, _ bool) {
		roots := make([]int, 1+d.roll(4))
		for i := range roots {
			roots[i] = d.roll(len(g.Nodes))
		}
		c, at := impl.Canon(g, roots)
		if !impl.ValidGraph(c) || len(at) != len(roots) {
			t.Fatalf("%v %v: %v %v", g, roots, c, at)
		}
		all := both(g, c)
		same := plainSame(all)
		for i, r := range roots {
			if !same[r][len(g.Nodes)+at[i]] {
				t.Fatalf("%v %v: %v %v: root %d is another type", g, roots, c, at, i)
			}
		}
		for i := range c.Nodes {
			met := false
			for _, r := range at {
				met = met || slices.Contains(reached(c, r), i)
			}
			for j := range i {
				met = met && !same[len(g.Nodes)+i][len(g.Nodes)+j]
			}
			if !met {
				t.Fatalf("%v %v: %v: node %d is not needed", g, roots, c, i)
			}
		}
		again, to := impl.Canon(c, at)
		if !equalGraphs(again, c) || !slices.Equal(to, at) {
			t.Fatalf("%v %v: again %v %v", c, at, again, to)
		}
	})
}
