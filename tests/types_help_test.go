package tests

import (
	"reflect"
	"slices"
	"testing"

	"loop.example/s15618/impl"
)

var (
	anyNode  = impl.Node{Kind: impl.KAny}
	intNode  = impl.Node{Kind: impl.KInt}
	boolNode = impl.Node{Kind: impl.KBool}
)

func rec(names []string, kids ...int) impl.Node {
	return impl.Node{Kind: impl.KRec, Names: names, Kids: kids}
}

// one is the record with the one field a.
func one(kid int) impl.Node {
	return rec([]string{"a"}, kid)
}

func fun(argument int, result int) impl.Node {
	return impl.Node{Kind: impl.KFun, Kids: []int{argument, result}}
}

func graph(nodes ...impl.Node) impl.Graph {
	return impl.Graph{Nodes: nodes}
}

func isAny(g impl.Graph, at int) bool {
	return at == 0 && len(g.Nodes) == 1 && g.Nodes[0].Kind == impl.KAny && len(g.Nodes[0].Names) == 0 && len(g.Nodes[0].Kids) == 0
}

func copyGraph(g impl.Graph) impl.Graph {
	var out impl.Graph
	for _, n := range g.Nodes {
		out.Nodes = append(out.Nodes, impl.Node{Kind: n.Kind, Names: slices.Clone(n.Names), Kids: slices.Clone(n.Kids)})
	}
	return out
}

func equalGraphs(a impl.Graph, b impl.Graph) bool {
	return slices.EqualFunc(a.Nodes, b.Nodes, func(x, y impl.Node) bool {
		return x.Kind == y.Kind && slices.Equal(x.Names, y.Names) && slices.Equal(x.Kids, y.Kids)
	})
}

// both is a graph that holds a and, behind it, b.
func both(a impl.Graph, b impl.Graph) impl.Graph {
	out := copyGraph(a)
	for _, n := range copyGraph(b).Nodes {
		for i := range n.Kids {
			n.Kids[i] += len(a.Nodes)
		}
		out.Nodes = append(out.Nodes, n)
	}
	return out
}

// dice is a fixed row of numbers, so that every run tests the same graphs.
type dice uint32

func (d *dice) roll(n int) int {
	*d = *d*1664525 + 1013904223
	return int(uint32(*d)>>8) % n
}

// someGraph has n nodes of which few differ much, so that many of them are the
// same type or can stand for each other.
func someGraph(d *dice, n int, withAny bool) impl.Graph {
	rows := [][]string{{}, {"a"}, {"a"}, {"b"}, {"a", "b"}, {"a", "b"}, {"a", "b", "c"}}
	var g impl.Graph
	for range n {
		switch k := d.roll(12); {
		case k == 0 && withAny:
			g.Nodes = append(g.Nodes, anyNode)
		case k <= 1:
			g.Nodes = append(g.Nodes, intNode)
		case k == 2:
			g.Nodes = append(g.Nodes, boolNode)
		case k <= 5:
			g.Nodes = append(g.Nodes, fun(d.roll(n), d.roll(n)))
		default:
			node := rec(slices.Clone(rows[d.roll(len(rows))]))
			for range node.Names {
				node.Kids = append(node.Kids, d.roll(n))
			}
			g.Nodes = append(g.Nodes, node)
		}
	}
	return g
}

// manyGraphs calls look with small graphs of many shapes.
func manyGraphs(look func(d *dice, g impl.Graph, withAny bool)) {
	d := dice(20)
	for round := range 400 {
		withAny := round%2 == 0
		look(&d, someGraph(&d, 2+round%9, withAny), withAny)
	}
}

// largest strikes pairs out of the full relation on the nodes until every pair
// that is left passes: the plainest way to a largest relation.
func largest(g impl.Graph, passes func(r [][]bool, a int, b int) bool) [][]bool {
	r := make([][]bool, len(g.Nodes))
	for a := range r {
		r[a] = make([]bool, len(g.Nodes))
		for b := range r[a] {
			r[a][b] = true
		}
	}
	for again := true; again; {
		again = false
		for a := range r {
			for b := range r[a] {
				if r[a][b] && !passes(r, a, b) {
					r[a][b] = false
					again = true
				}
			}
		}
	}
	return r
}

func plainSame(g impl.Graph) [][]bool {
	return largest(g, func(r [][]bool, a int, b int) bool {
		x, y := g.Nodes[a], g.Nodes[b]
		if x.Kind != y.Kind || !slices.Equal(x.Names, y.Names) {
			return false
		}
		for i := range x.Kids {
			if !r[x.Kids[i]][y.Kids[i]] {
				return false
			}
		}
		return true
	})
}

func plainSub(g impl.Graph) [][]bool {
	return largest(g, func(r [][]bool, a int, b int) bool {
		x, y := g.Nodes[a], g.Nodes[b]
		switch {
		case x.Kind == impl.KAny || y.Kind == impl.KAny:
			return true
		case x.Kind != y.Kind:
			return false
		case x.Kind == impl.KFun:
			return r[y.Kids[0]][x.Kids[0]] && r[x.Kids[1]][y.Kids[1]]
		}
		for j, name := range y.Names {
			i := slices.Index(x.Names, name)
			if i < 0 || !r[x.Kids[i]][y.Kids[j]] {
				return false
			}
		}
		return true
	})
}

// reached are the nodes that can be come to from one, itself among them.
func reached(g impl.Graph, from int) []int {
	list := []int{from}
	for i := 0; i < len(list); i++ {
		for _, kid := range g.Nodes[list[i]].Kids {
			if !slices.Contains(list, kid) {
				list = append(list, kid)
			}
		}
	}
	return list
}

// plainMix makes Join and Meet by the words of the document, over nodes.
func plainMix(g impl.Graph, a int, b int, meet bool) (impl.Graph, int) {
	type question struct {
		x, y int
		meet bool
	}
	out := copyGraph(g)
	made := map[question]int{}
	var mix func(x int, y int, meet bool) int
	mix = func(x int, y int, meet bool) int {
		q := question{x, y, meet}
		if at, ok := made[q]; ok {
			return at
		}
		at := len(out.Nodes)
		made[q] = at
		out.Nodes = append(out.Nodes, impl.Node{})
		n, m := g.Nodes[x], g.Nodes[y]
		node := impl.Node{Kind: n.Kind}
		if n.Kind != m.Kind {
			node.Kind = impl.KAny
		} else if n.Kind == impl.KFun {
			node.Kids = []int{mix(n.Kids[0], m.Kids[0], !meet), mix(n.Kids[1], m.Kids[1], meet)}
		} else if n.Kind == impl.KRec {
			names := slices.Concat(n.Names, m.Names)
			slices.Sort(names)
			for _, name := range slices.Compact(names) {
				i, j := slices.Index(n.Names, name), slices.Index(m.Names, name)
				if i >= 0 && j >= 0 {
					node = rec(append(node.Names, name), append(node.Kids, mix(n.Kids[i], m.Kids[j], meet))...)
				} else if meet && i >= 0 {
					node = rec(append(node.Names, name), append(node.Kids, n.Kids[i])...)
				} else if meet {
					node = rec(append(node.Names, name), append(node.Kids, m.Kids[j])...)
				}
			}
		}
		out.Nodes[at] = node
		return at
	}
	return out, mix(a, b, meet)
}

// listsApart writes into every list of an answer and appends to it, and looks
// whether another list of the answer changed with it.
func listsApart(t *testing.T, g impl.Graph, roots []int) {
	t.Helper()
	for i := range g.Nodes {
		before := copyGraph(g)
		kept := slices.Clone(roots)
		spoil(g.Nodes[i].Kids, -7)
		spoil(g.Nodes[i].Names, "spoilt")
		before.Nodes[i] = g.Nodes[i]
		if !equalGraphs(g, before) || !slices.Equal(roots, kept) {
			t.Errorf("the lists of node %d are shared with others of the answer", i)
		}
	}
	before := copyGraph(g)
	spoil(roots, -9)
	if !equalGraphs(g, before) {
		t.Error("the list of the roots is shared with a node")
	}
}

func spoil[T any](list []T, with T) {
	for i := range list {
		list[i] = with
	}
	whole := list[:cap(list)]
	for i := range whole {
		whole[i] = with
	}
}

func sameAnswer(t *testing.T, what string, got any, want any) {
	t.Helper()
	if !reflect.DeepEqual(got, want) {
		t.Errorf("%s: got %v, want %v", what, got, want)
	}
}
