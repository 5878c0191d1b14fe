package impl

import (
	"cmp"
	"math"
	"slices"
	"strconv"
	"strings"
)

const MaxName = 12
const MaxNodes = 4000
const MaxRoots = 2000
const MaxPairs = 1000
const KAny = 0
const KInt = 1
const KBool = 2
const KRec = 3
const KFun = 4

type Node struct {
	Kind  int
	Names []string
	Kids  []int
}

type Graph struct {
	Nodes []Node
}

// noLimit is for a walk that ends only when nothing new is come to.
const noLimit = math.MaxInt

func ValidGraph(g Graph) bool {
	if len(g.Nodes) > MaxNodes {
		return false
	}
	for _, n := range g.Nodes {
		if !validShape(n) || !allNodes(g, n.Kids) {
			return false
		}
	}
	return true
}

func validShape(n Node) bool {
	switch n.Kind {
	case KAny, KInt, KBool:
		return len(n.Names) == 0 && len(n.Kids) == 0
	case KRec:
		return len(n.Names) == len(n.Kids) && goodInOrder(n.Names)
	case KFun:
		return len(n.Names) == 0 && len(n.Kids) == 2
	}
	return false
}

func goodInOrder(names []string) bool {
	for i, name := range names {
		if !goodName(name) || i > 0 && names[i-1] >= name {
			return false
		}
	}
	return true
}

func allNodes(g Graph, numbers []int) bool {
	for _, n := range numbers {
		if n < 0 || n >= len(g.Nodes) {
			return false
		}
	}
	return true
}

func goodName(text string) bool {
	if len(text) == 0 || len(text) > MaxName || !smallLetter(text[0]) {
		return false
	}
	for i := 1; i < len(text); i++ {
		if !wordByte(text[i]) {
			return false
		}
	}
	return !keptWord(text)
}

func smallLetter(c byte) bool {
	return 'a' <= c && c <= 'z'
}

func wordByte(c byte) bool {
	return smallLetter(c) || '0' <= c && c <= '9' || c == '_'
}

func keptWord(text string) bool {
	switch text {
	case "import", "type", "val", "fun", "if", "then", "else", "int", "bool", "true", "false":
		return true
	}
	return false
}

// known gives each thing that is come to a number, in the order of coming.
type known[K comparable] struct {
	numbers map[K]int
	order   []K
}

func newKnown[K comparable]() *known[K] {
	return &known[K]{numbers: map[K]int{}}
}

// number also says whether the thing is new, for what is new must still be gone through.
func (k *known[K]) number(thing K) (int, bool) {
	if at, ok := k.numbers[thing]; ok {
		return at, false
	}
	at := len(k.order)
	k.numbers[thing] = at
	k.order = append(k.order, thing)
	return at, true
}

// pair is a first and a second node.
type pair struct {
	first, second int
}

// walk takes up every question that the first one leads to, each of them once,
// since types that contain themselves lead back to questions that are known.
// It ends with false when a step does, or when there are more than limit questions.
func walk[Q comparable](first Q, limit int, step func(question Q, met *known[Q]) bool) bool {
	met := newKnown[Q]()
	met.number(first)
	for i := 0; i < len(met.order); i++ {
		if len(met.order) > limit || !step(met.order[i], met) {
			return false
		}
	}
	return true
}

func Same(g Graph, a int, b int) bool {
	if !ValidGraph(g) || !allNodes(g, []int{a, b}) {
		return false
	}
	m := merger{g: g, leader: countUp(len(g.Nodes))}
	return walk(pair{a, b}, noLimit, m.step)
}

func countUp(n int) []int {
	list := make([]int, n)
	for i := range list {
		list[i] = i
	}
	return list
}

// merger holds which nodes are taken for the same type so far. As that goes on
// from one to the next, a pair that follows from earlier ones needs no look at
// its kids; so there are never more merges than nodes.
type merger struct {
	g      Graph
	leader []int
}

func (m *merger) find(n int) int {
	for m.leader[n] != n {
		m.leader[n] = m.leader[m.leader[n]]
		n = m.leader[n]
	}
	return n
}

func (m *merger) step(p pair, met *known[pair]) bool {
	a, b := m.find(p.first), m.find(p.second)
	if a == b {
		return true
	}
	x, y := m.g.Nodes[p.first], m.g.Nodes[p.second]
	if x.Kind != y.Kind || !slices.Equal(x.Names, y.Names) {
		return false
	}
	m.leader[a] = b
	for i := range x.Kids {
		met.number(pair{x.Kids[i], y.Kids[i]})
	}
	return true
}

func Sub(g Graph, a int, b int) bool {
	if !ValidGraph(g) || !allNodes(g, []int{a, b}) {
		return false
	}
	types, at := smallest(g, []int{a, b})
	return willDo(types, at[0], at[1])
}

// willDo is Sub without limits. Where the graph has several nodes for one type,
// it may go through more pairs than it needs to.
func willDo(g Graph, a int, b int) bool {
	return walk(pair{a, b}, noLimit, func(p pair, met *known[pair]) bool {
		return subStep(g, p, met)
	})
}

func subStep(g Graph, p pair, met *known[pair]) bool {
	x, y := g.Nodes[p.first], g.Nodes[p.second]
	if p.first == p.second || x.Kind == KAny || y.Kind == KAny {
		return true
	}
	if x.Kind != y.Kind {
		return false
	}
	switch x.Kind {
	case KRec:
		return subFields(x, y, met)
	case KFun:
		met.number(pair{y.Kids[0], x.Kids[0]})
		met.number(pair{x.Kids[1], y.Kids[1]})
	}
	return true
}

func subFields(x Node, y Node, met *known[pair]) bool {
	i := 0
	for j, name := range y.Names {
		for i < len(x.Names) && x.Names[i] < name {
			i++
		}
		if i == len(x.Names) || x.Names[i] != name {
			return false
		}
		met.number(pair{x.Kids[i], y.Kids[j]})
	}
	return true
}

func Canon(g Graph, roots []int) (Graph, []int) {
	if !ValidGraph(g) || len(roots) > MaxRoots || !allNodes(g, roots) {
		return Graph{}, []int{}
	}
	return smallest(g, roots)
}

// smallest is Canon without limits. What no root reaches is left out first, so
// that the work hangs on the types that are asked for and not on the whole graph.
func smallest(g Graph, roots []int) (Graph, []int) {
	reached, at := numbered(g, roots, countUp(len(g.Nodes)))
	return numbered(reached, at, typesOf(reached))
}

// numbering gives numbers to the classes of nodes in the order of Canon, and
// keeps for each number a node that stands for it.
type numbering struct {
	g      Graph
	class  []int
	met    *known[int]
	stands []int
}

func (n *numbering) visit(node int) int {
	at, isNew := n.met.number(n.class[node])
	if isNew {
		n.stands = append(n.stands, node)
		for _, kid := range n.g.Nodes[node].Kids {
			n.visit(kid)
		}
	}
	return at
}

func (n *numbering) visitAll(nodes []int) []int {
	list := make([]int, 0, len(nodes))
	for _, node := range nodes {
		list = append(list, n.visit(node))
	}
	return list
}

func numbered(g Graph, roots []int, class []int) (Graph, []int) {
	n := numbering{g: g, class: class, met: newKnown[int]()}
	at := n.visitAll(roots)
	nodes := make([]Node, 0, len(n.stands))
	for _, node := range n.stands {
		old := g.Nodes[node]
		nodes = append(nodes, Node{Kind: old.Kind, Names: slices.Clone(old.Names), Kids: n.visitAll(old.Kids)})
	}
	return Graph{Nodes: nodes}, at
}

// edge says that the node from has some node as the kid at this place.
type edge struct {
	place, from int
}

// parts divides the nodes: those of different parts are known to be different
// types. A part waits while the edges into it may still tell nodes apart.
type parts struct {
	of      []int   // the part of each node
	rows    [][]int // the nodes of each part
	at      []int   // the place of each node in its row
	waits   []bool
	waiting []int
}

// typesOf gives the same number to two nodes exactly if they are the same type.
// It starts from kinds and names, and divides as long as the kids of one part
// lie in different ones.
func typesOf(g Graph) []int {
	p := startParts(g)
	into := edgesInto(g)
	for len(p.waiting) > 0 {
		last := len(p.waiting) - 1
		part := p.waiting[last]
		p.waiting = p.waiting[:last]
		p.waits[part] = false
		p.splitBy(p.edgesOf(part, into))
	}
	return p.of
}

func startParts(g Graph) *parts {
	p := &parts{of: make([]int, len(g.Nodes)), at: make([]int, len(g.Nodes))}
	looks := newKnown[string]()
	for i, n := range g.Nodes {
		part, isNew := looks.number(strconv.Itoa(n.Kind) + " " + strings.Join(n.Names, " "))
		if isNew {
			p.addPart()
			p.wait(part)
		}
		p.put(i, part)
	}
	return p
}

func edgesInto(g Graph) [][]edge {
	into := make([][]edge, len(g.Nodes))
	for i, n := range g.Nodes {
		for place, kid := range n.Kids {
			into[kid] = append(into[kid], edge{place, i})
		}
	}
	return into
}

func (p *parts) addPart() int {
	p.rows = append(p.rows, nil)
	p.waits = append(p.waits, false)
	return len(p.rows) - 1
}

func (p *parts) wait(part int) {
	if !p.waits[part] {
		p.waits[part] = true
		p.waiting = append(p.waiting, part)
	}
}

func (p *parts) put(node int, part int) {
	p.of[node] = part
	p.at[node] = len(p.rows[part])
	p.rows[part] = append(p.rows[part], node)
}

func (p *parts) take(node int) {
	row := p.rows[p.of[node]]
	last := row[len(row)-1]
	row[p.at[node]] = last
	p.at[last] = p.at[node]
	p.rows[p.of[node]] = row[:len(row)-1]
}

func (p *parts) edgesOf(part int, into [][]edge) []edge {
	var edges []edge
	for _, node := range p.rows[part] {
		edges = append(edges, into[node]...)
	}
	slices.SortFunc(edges, func(a, b edge) int { return cmp.Compare(a.place, b.place) })
	return edges
}

func (p *parts) splitBy(edges []edge) {
	for len(edges) > 0 {
		end := 0
		for end < len(edges) && edges[end].place == edges[0].place {
			end++
		}
		p.split(edges[:end])
		edges = edges[end:]
	}
}

// split takes the nodes from which the edges come out of their parts, where
// others stay behind. The smaller piece alone has to wait if the part did not:
// what leads into the part and not into the one piece leads into the other.
func (p *parts) split(edges []edge) {
	leave := map[int]int{}
	for _, e := range edges {
		leave[p.of[e.from]]++
	}
	newPart := map[int]int{}
	var divided []pair
	for _, e := range edges {
		old := p.of[e.from]
		to, ok := newPart[old]
		if !ok {
			to = old
			if leave[old] < len(p.rows[old]) {
				to = p.addPart()
				divided = append(divided, pair{old, to})
			}
			newPart[old] = to
		}
		if to != old {
			p.take(e.from)
			p.put(e.from, to)
		}
	}
	for _, d := range divided {
		if p.waits[d.first] || len(p.rows[d.second]) <= len(p.rows[d.first]) {
			p.wait(d.second)
		} else {
			p.wait(d.first)
		}
	}
}

func Join(g Graph, a int, b int) (Graph, int) {
	return mix(g, a, b, false)
}

func Meet(g Graph, a int, b int) (Graph, int) {
	return mix(g, a, b, true)
}

// mixed is a pair of types with what is made of it: their Meet or their Join.
type mixed struct {
	pair
	meet bool
}

func mix(g Graph, a int, b int, meet bool) (Graph, int) {
	if !ValidGraph(g) || !allNodes(g, []int{a, b}) {
		return Graph{}, -1
	}
	return mixture(g, a, b, meet)
}

// mixture is Join or Meet without a limit on the nodes of the graph.
func mixture(g Graph, a int, b int, meet bool) (Graph, int) {
	types, at := smallest(g, []int{a, b})
	m := mixer{types: types}
	if !walk(mixed{pair{at[0], at[1]}, meet}, MaxPairs, m.step) {
		return Graph{Nodes: []Node{{Kind: KAny}}}, 0
	}
	all := Graph{Nodes: slices.Concat(types.Nodes, m.made)}
	answer, roots := smallest(all, []int{len(types.Nodes)})
	return answer, roots[0]
}

// mixer makes one node for each question, in the order of their numbers. The
// made nodes stand behind the types, since a Meet may have a type as its kid.
type mixer struct {
	types Graph
	made  []Node
}

func (m *mixer) step(q mixed, met *known[mixed]) bool {
	m.made = append(m.made, m.node(q, met))
	return true
}

func (m *mixer) kid(met *known[mixed], x int, y int, meet bool) int {
	at, _ := met.number(mixed{pair{x, y}, meet})
	return len(m.types.Nodes) + at
}

func (m *mixer) node(q mixed, met *known[mixed]) Node {
	x, y := m.types.Nodes[q.first], m.types.Nodes[q.second]
	if x.Kind != y.Kind {
		return Node{Kind: KAny}
	}
	switch x.Kind {
	case KRec:
		return m.record(x, y, q.meet, met)
	case KFun:
		argument := m.kid(met, x.Kids[0], y.Kids[0], !q.meet)
		result := m.kid(met, x.Kids[1], y.Kids[1], q.meet)
		return Node{Kind: KFun, Kids: []int{argument, result}}
	}
	return Node{Kind: x.Kind}
}

func (m *mixer) record(x Node, y Node, meet bool, met *known[mixed]) Node {
	out := Node{Kind: KRec}
	i, j := 0, 0
	for i < len(x.Names) || j < len(y.Names) {
		switch {
		case j == len(y.Names) || i < len(x.Names) && x.Names[i] < y.Names[j]:
			if meet {
				out = withField(out, x.Names[i], x.Kids[i])
			}
			i++
		case i == len(x.Names) || y.Names[j] < x.Names[i]:
			if meet {
				out = withField(out, y.Names[j], y.Kids[j])
			}
			j++
		default:
			out = withField(out, x.Names[i], m.kid(met, x.Kids[i], y.Kids[j], meet))
			i++
			j++
		}
	}
	return out
}

func withField(n Node, name string, kid int) Node {
	n.Names = append(n.Names, name)
	n.Kids = append(n.Kids, kid)
	return n
}
