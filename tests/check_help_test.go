package tests

import (
	"fmt"
	"maps"
	"slices"
	"strings"
	"testing"

	"loop.example/s15618/impl"
)

// sources are given as a name, its text, a name, its text, and so on.
func sources(namesAndTexts ...string) []impl.Source {
	var out []impl.Source
	for i := 0; i < len(namesAndTexts); i += 2 {
		out = append(out, impl.Source{Name: namesAndTexts[i], Text: namesAndTexts[i+1]})
	}
	return out
}

// wantDiags has the wanted answers as "DECL:CODE", with spaces between them.
func wantDiags(t *testing.T, srcs []impl.Source, name string, want string) {
	t.Helper()
	if got := diagsText(impl.Diagnose(srcs, name)); got != want {
		t.Errorf("%q of %q: %q, want %q", name, srcs, got, want)
	}
}

func diagsText(diags []impl.Diag) string {
	var out []string
	for _, d := range diags {
		out = append(out, fmt.Sprintf("%d:%d", d.Decl, d.Code))
	}
	return strings.Join(out, " ")
}

func equalSigs(a impl.Sig, b impl.Sig) bool {
	return a.State == b.State && slices.Equal(a.Types, b.Types) && slices.Equal(a.Vals, b.Vals) && equalGraphs(a.Graph, b.Graph)
}

func wantSig(t *testing.T, srcs []impl.Source, name string, want impl.Sig) {
	t.Helper()
	if got := impl.Signature(srcs, name); !equalSigs(got, want) {
		t.Errorf("%q of %q: %v, want %v", name, srcs, got, want)
	}
}

// link is a node that is a type itself, or only leads on to another one.
type link struct {
	impl.Node
	leads bool
	to    int
}

// world is the document's chapter 3 at its plainest. All modules have one graph,
// in which the name of a type is a link; a link that never ends is the type ?.
type world struct {
	mods  map[string][]impl.Decl
	comes map[string]map[string]bool
	links []link
	named map[string]int
}

func newWorld(srcs []impl.Source) *world {
	w := &world{mods: map[string][]impl.Decl{}, comes: map[string]map[string]bool{}, named: map[string]int{}}
	w.links = []link{{Node: anyNode}, {Node: intNode}, {Node: boolNode}}
	for _, src := range srcs {
		w.mods[src.Name] = parse(src.Text)
		w.comes[src.Name] = map[string]bool{}
		for _, d := range w.mods[src.Name] {
			if d.Kind == impl.DImport {
				w.comes[src.Name][d.Name] = true
			}
		}
	}
	for by := range w.mods {
		for from := range w.mods {
			if w.comes[from][by] {
				maps.Copy(w.comes[from], w.comes[by])
			}
		}
	}
	return w
}

func (w *world) reach(m string) []string {
	return slices.Sorted(maps.Keys(w.comes[m]))
}

func (w *world) circular(m string) bool {
	return slices.ContainsFunc(append(w.reach(m), m), func(name string) bool { return w.comes[name][name] })
}

func (w *world) first(m string, kind int, name string) int {
	return slices.IndexFunc(w.mods[m], func(d impl.Decl) bool { return d.Kind == kind && d.Name == name })
}

func (w *world) put(n impl.Node) int {
	w.links = append(w.links, link{Node: n})
	return len(w.links) - 1
}

// graph has the nodes of all links, under their numbers.
func (w *world) graph() impl.Graph {
	var g impl.Graph
	for i := range w.links {
		at, left := i, len(w.links)
		for w.links[at].leads && left > 0 {
			at = w.links[at].to
			left--
		}
		g.Nodes = append(g.Nodes, w.links[at].Node)
	}
	return g
}

// meant looks a name up, and says whether it is known.
func (w *world) meant(m string, kind int, mod string, name string) (int, bool) {
	if mod != "" {
		if w.first(m, impl.DImport, mod) < 0 {
			return 0, false
		}
		if _, present := w.mods[mod]; !present || w.circular(mod) {
			return 0, true
		}
		m = mod
	}
	first := w.first(m, kind, name)
	if first < 0 {
		return 0, false
	}
	key := fmt.Sprint(m, kind, name)
	if _, ok := w.named[key]; !ok {
		w.named[key] = w.put(impl.Node{})
		to := w.typeOf(m, w.mods[m][first].Type)
		w.links[w.named[key]] = link{leads: true, to: to}
	}
	return w.named[key], true
}

func (w *world) typeOf(m string, items []impl.TItem) int {
	at, _ := w.typeAt(m, items, len(items))
	return at
}

// typeAt gives the type that ends ahead of end, and where that begins.
func (w *world) typeAt(m string, items []impl.TItem, end int) (int, int) {
	x, start := items[end-1], end-1
	part := func() int {
		at, from := w.typeAt(m, items, start)
		start = from
		return at
	}
	switch x.Op {
	case impl.TInt:
		return 1, start
	case impl.TBool:
		return 2, start
	case impl.TName:
		at, _ := w.meant(m, impl.DType, x.Mod, x.Name)
		return at, start
	case impl.TRec:
		kids := map[string]int{}
		for i := len(x.Names) - 1; i >= 0; i-- {
			kids[x.Names[i]] = part()
		}
		return w.record(kids), start
	case impl.TFun:
		result := part()
		return w.put(fun(part(), result)), start
	}
	return 0, start
}

func (w *world) record(kids map[string]int) int {
	n := rec(nil)
	for name := range kids {
		n.Names = append(n.Names, name)
	}
	slices.Sort(n.Names)
	for _, name := range n.Names {
		n.Kids = append(n.Kids, kids[name])
	}
	return w.put(n)
}

func (w *world) namesUnknown(m string, items []impl.TItem) bool {
	return slices.ContainsFunc(items, func(x impl.TItem) bool {
		_, ok := w.meant(m, impl.DType, x.Mod, x.Name)
		return x.Op == impl.TName && !ok
	})
}

func (w *world) goesNowhere(m string, d impl.Decl) bool {
	for range len(w.mods[m]) + 1 {
		if len(d.Type) != 1 || d.Type[0].Op != impl.TName || d.Type[0].Mod != "" {
			return false
		}
		next := w.first(m, impl.DType, d.Type[0].Name)
		if next < 0 {
			return false
		}
		d = w.mods[m][next]
	}
	return true
}

// sub follows every demand until one fails or all are known.
func (w *world) sub(a int, b int) bool {
	return holds(w.graph(), a, b, map[[2]int]bool{})
}

func holds(g impl.Graph, a int, b int, seen map[[2]int]bool) bool {
	if seen[[2]int{a, b}] {
		return true
	}
	seen[[2]int{a, b}] = true
	x, y := g.Nodes[a], g.Nodes[b]
	switch {
	case x.Kind == impl.KAny || y.Kind == impl.KAny:
		return true
	case x.Kind != y.Kind:
		return false
	case x.Kind == impl.KFun:
		return holds(g, y.Kids[0], x.Kids[0], seen) && holds(g, x.Kids[1], y.Kids[1], seen)
	}
	for j, name := range y.Names {
		i := slices.Index(x.Names, name)
		if i < 0 || !holds(g, x.Kids[i], y.Kids[j], seen) {
			return false
		}
	}
	return true
}

func (w *world) join(a int, b int) int {
	out, at := plainMix(w.graph(), a, b, false)
	for _, n := range out.Nodes[len(w.links):] {
		w.put(n)
	}
	return at
}

// term is an expression with its parts in order.
type term struct {
	impl.EItem
	parts []term
}

func termAt(items []impl.EItem, end int) (term, int) {
	x, start := term{EItem: items[end-1]}, end-1
	count := map[int]int{impl.ERec: len(x.Names), impl.EGet: 1, impl.EFun: 1, impl.ECall: 2, impl.EIf: 3, impl.EAdd: 2, impl.ELess: 2}[x.Op]
	for range count {
		part, from := termAt(items, start)
		x.parts = slices.Insert(x.parts, 0, part)
		start = from
	}
	return x, start
}

type local struct {
	name string
	node int
}

// check gives the type of a term, or the fault that is met first.
func (w *world) check(m string, x term, around []local) (int, int) {
	if x.Op == impl.EFun {
		if w.namesUnknown(m, x.Type) {
			return 0, 5
		}
		around = append(slices.Clone(around), local{x.Name, w.typeOf(m, x.Type)})
	}
	var parts []int
	for _, part := range x.parts {
		at, fault := w.check(m, part, around)
		if fault != 0 {
			return 0, fault
		}
		parts = append(parts, at)
	}
	misfit := func(bad bool, at int) (int, int) {
		if bad {
			return 0, 8
		}
		return at, 0
	}
	switch x.Op {
	case impl.EInt:
		return 1, 0
	case impl.EBool:
		return 2, 0
	case impl.EName:
		return w.checkName(m, x, around)
	case impl.ERec:
		kids := map[string]int{}
		for i, name := range x.Names {
			kids[name] = parts[i]
		}
		return w.record(kids), 0
	case impl.EGet:
		n := w.graph().Nodes[parts[0]]
		if i := slices.Index(n.Names, x.Name); i >= 0 {
			return n.Kids[i], 0
		}
		return misfit(n.Kind != impl.KAny, 0)
	case impl.EFun:
		return w.put(fun(around[len(around)-1].node, parts[0])), 0
	case impl.ECall:
		n := w.graph().Nodes[parts[0]]
		if n.Kind == impl.KFun {
			return misfit(!w.sub(parts[1], n.Kids[0]), n.Kids[1])
		}
		return misfit(n.Kind != impl.KAny, 0)
	case impl.EIf:
		if !w.sub(parts[0], 2) {
			return 0, 8
		}
		return w.join(parts[1], parts[2]), 0
	case impl.EAdd:
		return misfit(!w.sub(parts[0], 1) || !w.sub(parts[1], 1), 1)
	}
	return misfit(!w.sub(parts[0], 1) || !w.sub(parts[1], 1), 2)
}

func (w *world) checkName(m string, x term, around []local) (int, int) {
	for i := len(around) - 1; i >= 0; i-- {
		if x.Mod == "" && around[i].name == x.Name {
			return around[i].node, 0
		}
	}
	at, ok := w.meant(m, impl.DVal, x.Mod, x.Name)
	if !ok {
		return 0, 7
	}
	return at, 0
}

func (w *world) code(m string, i int) int {
	d := w.mods[m][i]
	if d.Kind == impl.DBad {
		return 1
	}
	if w.first(m, d.Kind, d.Name) < i {
		return 2
	}
	_, present := w.mods[d.Name]
	switch {
	case d.Kind == impl.DImport && !present:
		return 3
	case d.Kind == impl.DImport && w.circular(d.Name):
		return 4
	case d.Kind == impl.DImport:
		return 0
	case w.namesUnknown(m, d.Type):
		return 5
	case d.Kind == impl.DType && w.goesNowhere(m, d):
		return 6
	case d.Kind == impl.DType:
		return 0
	}
	x, _ := termAt(d.Expr, len(d.Expr))
	at, fault := w.check(m, x, nil)
	if declared, _ := w.meant(m, impl.DVal, "", d.Name); fault == 0 && !w.sub(at, declared) {
		return 8
	}
	return fault
}

func plainDiagnose(srcs []impl.Source, name string) []impl.Diag {
	w := newWorld(srcs)
	if _, present := w.mods[name]; !present {
		return []impl.Diag{{Decl: -1, Code: 3}}
	}
	var out []impl.Diag
	for i := range w.mods[name] {
		if code := w.code(name, i); code != 0 {
			out = append(out, impl.Diag{Decl: i, Code: code})
		}
	}
	return out
}

func plainSignature(srcs []impl.Source, name string) impl.Sig {
	w := newWorld(srcs)
	if _, present := w.mods[name]; !present {
		return impl.Sig{State: 1}
	}
	if w.circular(name) {
		return impl.Sig{State: 2}
	}
	var sig impl.Sig
	var roots []int
	for _, kind := range []int{impl.DType, impl.DVal} {
		var names []string
		for _, d := range w.mods[name] {
			if d.Kind == kind && !slices.Contains(names, d.Name) {
				names = append(names, d.Name)
			}
		}
		slices.Sort(names)
		for _, x := range names {
			at, _ := w.meant(name, kind, "", x)
			roots = append(roots, at)
			if kind == impl.DType {
				sig.Types = append(sig.Types, impl.Export{Name: x})
			} else {
				sig.Vals = append(sig.Vals, impl.Export{Name: x})
			}
		}
	}
	g, at := impl.Canon(w.graph(), roots)
	for i := range sig.Types {
		sig.Types[i].Node = at[i]
	}
	for i := range sig.Vals {
		sig.Vals[i].Node = at[len(sig.Types)+i]
	}
	sig.Graph = g
	return sig
}

// maker makes sources in which most names are known and most types fit.
type maker struct {
	*dice
	name    string
	imports []string
	types   []string
	vals    []string
	made    map[string]string // the types of this module that have been made
}

var (
	moduleNames = []string{"a", "b", "c", "d", "z"} // no source is called z
	typeNames   = []string{"t", "u", "v", "w"}
	valNames    = []string{"f", "g", "h", "x", "y"}
	fieldNames  = []string{"x", "y", "n"}
)

func (m *maker) one(of ...string) string {
	return of[m.roll(len(of))]
}

func (m *maker) typePath() string {
	if len(m.imports) > 0 && m.roll(3) == 0 {
		return m.one(m.imports...) + ":" + m.one("t", "t", "u", "v")
	}
	if m.roll(40) == 0 {
		return m.one("q", "z:t", "a:t", "b:u", "f")
	}
	return m.one(m.types...)
}

func (m *maker) valPath() string {
	if len(m.imports) > 0 && m.roll(3) == 0 {
		return m.one(m.imports...) + ":" + m.one("f", "f", "g", "h")
	}
	if m.roll(40) == 0 {
		return m.one("q", "z:f", "a:f", "b:f", "t")
	}
	return m.one(m.vals...)
}

func (m *maker) row() []string {
	var out []string
	for _, name := range fieldNames {
		if m.roll(2) == 0 {
			out = append(out, name)
		}
	}
	if m.roll(2) == 0 {
		slices.Reverse(out)
	}
	return out
}

func (m *maker) aType(depth int) string {
	kind := m.roll(10)
	if depth == 0 {
		kind = m.roll(7)
	}
	switch {
	case kind < 3:
		return "int"
	case kind == 3:
		return m.one("bool", "bool", "?")
	case kind < 7:
		return m.typePath()
	case kind < 9:
		var fields []string
		for _, name := range m.row() {
			fields = append(fields, name+": "+m.aType(depth-1))
		}
		return "{" + strings.Join(fields, ", ") + "}"
	}
	return "(" + m.aType(depth-1) + " -> " + m.aType(depth-1) + ")"
}

// expr makes an expression that is likely to have the type, which is a text.
func (m *maker) expr(of string, depth int) string {
	if depth == 0 || m.roll(12) == 0 {
		return m.one("1", "true", "{}", m.valPath(), m.valPath(), m.valPath())
	}
	if m.roll(15) == 0 {
		of = m.aType(1)
	}
	switch m.roll(10) {
	case 0:
		return "(if " + m.expr("bool", depth-1) + " then " + m.expr(of, depth-1) + " else " + m.expr(of, depth-1) + ")"
	case 1:
		takes := m.aType(1)
		return "(fun(" + m.one(valNames...) + ": " + takes + ") " + m.expr(of, depth-1) + ")(" + m.expr(takes, depth-1) + ")"
	case 2:
		name := m.one(fieldNames...)
		return "{" + name + " = " + m.expr(of, depth-1) + "}." + name
	case 3:
		return m.valPath() + m.one("."+m.one(fieldNames...), "("+m.expr("int", depth-1)+")", "")
	}
	return m.plainExpr(of, depth)
}

func (m *maker) plainExpr(of string, depth int) string {
	items := parse("type t = " + of + ";")[0].Type
	parts := partsOf(items)
	switch x := items[len(items)-1]; x.Op {
	case impl.TInt:
		return m.one("2", m.expr("int", depth-1)+" + "+m.valPath(), "("+m.expr("int", depth-1)+" + 1)")
	case impl.TBool:
		return m.one("false", "(1 < "+m.valPath()+")", "("+m.valPath()+" < 3)")
	case impl.TRec:
		var fields []string
		for i, part := range parts {
			fields = append(fields, x.Names[i]+" = "+m.expr(part, depth-1))
		}
		if m.roll(3) == 0 {
			fields = append(fields, "extra = 1")
		}
		return "{" + strings.Join(fields, ", ") + "}"
	case impl.TFun:
		return "(fun(" + m.one(valNames...) + ": " + parts[0] + ") " + m.expr(parts[1], depth-1) + ")"
	case impl.TName:
		if unfolded, ok := m.made[x.Name]; ok && x.Mod == "" {
			return m.expr(unfolded, depth-1)
		}
	}
	return m.valPath()
}

// partsOf are the parts of the type's last item, as texts.
func partsOf(items []impl.TItem) []string {
	var out []string
	end := len(items) - 1
	count := len(items[end].Names)
	if items[end].Op == impl.TFun {
		count = 2
	}
	for range count {
		text, level, start := plainPrint{asNeeded}.typeAt(items, end)
		out = slices.Insert(out, 0, plainPrint{asNeeded}.around(text, level, 1))
		end = start
	}
	return out
}

// text has a piece a line.
func (m *maker) text() string {
	var out []string
	for _, name := range moduleNames {
		likely := 2
		if name <= m.name {
			likely = 14
		}
		if m.roll(likely) == 0 {
			m.imports = append(m.imports, name)
			out = append(out, "import "+name)
		}
	}
	m.types, m.vals, m.made = typeNames[:1+m.roll(4)], valNames[:1+m.roll(5)], map[string]string{}
	for _, name := range m.types {
		m.made[name] = m.aType(m.roll(3))
		out = append(out, "type "+name+" = "+m.made[name])
	}
	for _, name := range m.vals {
		of := m.aType(m.roll(3))
		out = append(out, "val "+name+": "+of+" = "+m.expr(of, m.roll(4)))
	}
	for range m.roll(6) {
		i, j := m.roll(len(out)), m.roll(len(out))
		out[i], out[j] = out[j], out[i]
	}
	if m.roll(3) == 0 {
		out = append(out, m.one("type bad", "import a", "type t = bool", "type u = t", "val f: int = 1", "val g: {} = {}"))
	}
	return strings.Join(out, ";\n") + ";"
}

// manySources calls look with the modules a to d, of which some may be missing.
func manySources(seed dice, rounds int, look func(d *dice, srcs []impl.Source)) {
	d := seed
	for range rounds {
		var srcs []impl.Source
		for _, name := range []string{"d", "c", "b", "a"} {
			m := maker{dice: &d, name: name}
			if text := m.text(); len(text) <= impl.MaxText && d.roll(12) > 0 {
				srcs = append(srcs, impl.Source{Name: name, Text: text})
			}
		}
		look(&d, srcs)
	}
}
