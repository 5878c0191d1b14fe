package tests

import (
	"slices"
	"strings"
	"testing"

	"loop.example/s15618/impl"
)

func wantPrinted(t *testing.T, m impl.Module, want string) {
	t.Helper()
	if !impl.ValidModule(m) {
		t.Errorf("%v is not valid, want %q", m, want)
	}
	if got := impl.PrintModule(m); got != want {
		t.Errorf("%v prints as %q, want %q", m, got, want)
	}
}

func wantRefused(t *testing.T, m impl.Module) {
	t.Helper()
	if impl.ValidModule(m) {
		t.Errorf("%.300v is valid", m)
	}
	if got := impl.PrintModule(m); got != "" {
		t.Errorf("%.300v is not valid and prints as %q", m, got)
	}
}

func TestPrintDeclarations(t *testing.T) {
	wantPrinted(t, impl.Module{}, "")
	wantPrinted(t, impl.Module{Decls: []impl.Decl{}}, "")
	wantPrinted(t, module(impl.Decl{Kind: impl.DImport, Name: "a", Type: []impl.TItem{}, Expr: []impl.EItem{}}), "import a;\n")
	wantPrinted(t, module(typeDecl(impl.TItem{Op: impl.TInt, Names: []string{}})), "type t = int;\n")
	wantPrinted(t, module(valDecl(impl.EItem{Op: impl.EInt, Num: 1, Names: []string{}, Type: []impl.TItem{}})), "val v: ? = 1;\n")
	text := "import a;\ntype t = {x: int, next: t -> m:u};\nval f: int -> int = fun(n: int) if n < 1 then 0 else g(n + 1).x;\n"
	wantPrinted(t, impl.ParseModule(text), text)
}

// Each of these prints as itself: its brackets are all needed and no other.
var printedTypes = []string{
	"int", "bool", "?", "x", "m:x", "{}", "{x: int}", "{x: int, a: m:y}", "{x: {}}",
	"int -> int", "int -> bool -> ?", "(int -> bool) -> ?", "((int -> bool) -> x) -> {} -> ?", "{x: int -> int} -> {}", "{x: (a -> b) -> c}",
}

var printedExprs = []string{
	"0", "999999999", "true", "false", "x", "m:x", "{}", "{x = 1}", "{x = 1, a = m:y}", "{x = {}}",
	"{x = a < b, y = fun(x: ?) x, z = if a then b else c}", "a(a < b)", "a(fun(x: ?) x)", "a(if a then b else c)", "a(a + b)",
	"a.x", "a.x.y", "a(b).x", "a.x(b)", "a(b)(c)", "1.x", "true(1)", "{}.x", "m:x.y", "m:x(1)",
	"(a + b).x", "(a < b).x", "(fun(x: ?) x).x", "(if a then b else c).x",
	"(a + b)(c)", "(a < b)(c)", "(fun(x: ?) x)(c)", "(if a then b else c)(c)",
	"a + b", "a + b + c", "a + (b + c)", "a.x + a(b)", "a + a.x", "{} + {}", "a + b + (c + d) + e",
	"(a < b) + c", "a + (b < c)", "(fun(x: ?) x) + c", "c + (fun(x: ?) x)", "(if a then b else c) + d", "d + (if a then b else c)",
	"a < b", "a + b < c + d", "(a < b) < c", "a < (b < c)", "(fun(x: ?) x) < c", "c < (fun(x: ?) x)", "(if a then b else c) < d", "d < (if a then b else c)", "a.x < a(b)",
	"fun(x: ?) a < b", "fun(x: ?) fun(y: ?) x", "fun(x: ?) if a then b else c",
	"if a < b then a < b else a < b", "if fun(x: ?) x then fun(x: ?) x else fun(x: ?) x", "if if a then b else c then if a then b else c else if a then b else c",
}

func TestPrintBracketsThatAreNeeded(t *testing.T) {
	for _, of := range printedTypes {
		text := "type t = " + of + ";\n"
		wantPrinted(t, impl.ParseModule(text), text)
		text = "val v: " + of + " = fun(x: " + of + ") 1;\n"
		wantPrinted(t, impl.ParseModule(text), text)
	}
	for _, is := range printedExprs {
		text := "val v: ? = " + is + ";\n"
		wantPrinted(t, impl.ParseModule(text), text)
	}
}

// Promise 5, and the printed text itself.
func TestPrintAndParseBack(t *testing.T) {
	valid := 0
	manyModules(8, func(d *dice, m impl.Module) {
		text, ok := plainText(m)
		if !ok {
			wantRefused(t, m)
			return
		}
		valid++
		wantPrinted(t, m, text)
		wantModule(t, impl.PrintModule(m), m)
	})
	if valid < 300 {
		t.Errorf("%d valid modules are too few", valid)
	}
}

// Modules with a few items changed are valid exactly if the plain words say so.
func TestValidAgainstPlainWords(t *testing.T) {
	valid, other := 0, 0
	for round := range 8 {
		manyModules(dice(20+round), func(d *dice, m impl.Module) {
			if len(m.Decls) == 0 {
				return
			}
			for range round % 2 {
				changeDecl(d, &m.Decls[d.roll(len(m.Decls))])
			}
			if text, ok := plainText(m); ok {
				valid++
				wantPrinted(t, m, text)
				wantModule(t, text, m)
			} else {
				other++
				wantRefused(t, m)
			}
		})
	}
	if valid < 1000 || other < 1000 {
		t.Errorf("%d valid and %d other modules are too few", valid, other)
	}
}

var oddNames = []string{"", "a", "b", "int", "A", "9a", "a b", "_", twelve, thirteen, "a\n", "é"}

func changeDecl(d *dice, decl *impl.Decl) {
	odd := oddNames[d.roll(len(oddNames))]
	switch k := d.roll(12); {
	case k == 0:
		decl.Kind = d.roll(6) - 1
	case k == 1:
		decl.Name = odd
	case k < 6:
		decl.Type = changeList(d, decl.Type, func(x *impl.TItem) { changeTItem(d, x, odd) })
	default:
		decl.Expr = changeList(d, decl.Expr, func(x *impl.EItem) { changeEItem(d, x, odd) })
	}
}

func changeList[T any](d *dice, list []T, change func(*T)) []T {
	if len(list) == 0 {
		return append(list, *new(T))
	}
	at, to := d.roll(len(list)), d.roll(len(list))
	switch d.roll(5) {
	case 0:
		return slices.Delete(list, at, at+1)
	case 1:
		return slices.Insert(list, at, list[to])
	case 2:
		list[at], list[to] = list[to], list[at]
	default:
		change(&list[at])
	}
	return list
}

func changeNames(d *dice, names []string, odd string) []string {
	return changeList(d, names, func(s *string) { *s = odd })
}

func changeTItem(d *dice, x *impl.TItem, odd string) {
	switch d.roll(4) {
	case 0:
		x.Op = d.roll(9) - 1
	case 1:
		x.Mod = odd
	case 2:
		x.Name = odd
	case 3:
		x.Names = changeNames(d, x.Names, odd)
	}
}

func changeEItem(d *dice, x *impl.EItem, odd string) {
	switch d.roll(6) {
	case 0:
		x.Op = d.roll(13) - 1
	case 1:
		x.Num = []int{-1, 0, 1, 2, 999999999, 1000000000}[d.roll(6)]
	case 2:
		x.Mod = odd
	case 3:
		x.Name = odd
	case 4:
		x.Names = changeNames(d, x.Names, odd)
	case 5:
		x.Type = changeList(d, x.Type, func(y *impl.TItem) { changeTItem(d, y, odd) })
	}
}

func TestRefuseDeclarations(t *testing.T) {
	of, is := []impl.TItem{{Op: impl.TInt}}, []impl.EItem{{Op: impl.EInt}}
	good := impl.Decl{Kind: impl.DImport, Name: "a"}
	for _, bad := range []impl.Decl{
		{}, {Name: "a"}, {Kind: impl.DBad, Name: "a", Type: of, Expr: is}, {Kind: 4, Name: "a"}, {Kind: -1, Name: "a"}, {Kind: 4, Name: "a", Type: of, Expr: is}, {Kind: 1 << 40, Name: "a"},
		{Kind: impl.DImport}, {Kind: impl.DImport, Name: "a", Type: of}, {Kind: impl.DImport, Name: "a", Expr: is},
		{Kind: impl.DType, Name: "a"}, {Kind: impl.DType, Type: of}, {Kind: impl.DType, Name: "a", Type: of, Expr: is},
		{Kind: impl.DVal, Name: "a"}, {Kind: impl.DVal, Name: "a", Type: of}, {Kind: impl.DVal, Name: "a", Expr: is}, {Kind: impl.DVal, Type: of, Expr: is},
	} {
		wantRefused(t, module(bad))
		wantRefused(t, module(good, bad))
		wantRefused(t, module(bad, good))
	}
	for _, name := range append([]string{"", thirteen, "A", "a-b", "a b", "_a", "1", "a\n", "a;", "é", "a:b", strings.Repeat("a", 2000)}, elevenWords...) {
		wantRefused(t, module(impl.Decl{Kind: impl.DImport, Name: name}))
		wantRefused(t, module(impl.Decl{Kind: impl.DType, Name: name, Type: of}))
		wantRefused(t, module(impl.Decl{Kind: impl.DVal, Name: name, Type: of, Expr: is}))
		wantRefused(t, module(typeDecl(impl.TItem{Op: impl.TName, Name: name})))
		wantRefused(t, module(typeDecl(of[0], impl.TItem{Op: impl.TRec, Names: []string{name}})))
		wantRefused(t, module(valDecl(impl.EItem{Op: impl.EName, Name: name})))
		wantRefused(t, module(valDecl(is[0], impl.EItem{Op: impl.ERec, Names: []string{name}})))
		wantRefused(t, module(valDecl(is[0], impl.EItem{Op: impl.EGet, Name: name})))
		wantRefused(t, module(valDecl(is[0], impl.EItem{Op: impl.EFun, Name: name, Type: of})))
		if name != "" {
			wantRefused(t, module(typeDecl(impl.TItem{Op: impl.TName, Mod: name, Name: "a"})))
			wantRefused(t, module(valDecl(impl.EItem{Op: impl.EName, Mod: name, Name: "a"})))
		}
	}
}

// The fields that have a meaning in an item; every other must be zero.
var typeUses = map[int]string{impl.TName: "Mod Name", impl.TRec: "Names"}
var exprUses = map[int]string{impl.EInt: "Num", impl.EBool: "Num", impl.EName: "Mod Name", impl.ERec: "Names", impl.EGet: "Name", impl.EFun: "Name Type"}

func uses(fields string, field string) bool {
	return slices.Contains(strings.Fields(fields), field)
}

func TestRefuseFieldsWithoutMeaning(t *testing.T) {
	for op := impl.TInt; op <= impl.TFun; op++ {
		item := impl.TItem{Op: op}
		if uses(typeUses[op], "Name") {
			item.Name = "x"
		}
		parts := map[int]int{impl.TRec: 1, impl.TFun: 2}[op]
		ahead := slices.Repeat([]impl.TItem{{Op: impl.TAny}}, parts)
		if op == impl.TRec {
			item.Names = []string{"x"}
		}
		try := func(field string, item impl.TItem) {
			m := module(typeDecl(append(slices.Clone(ahead), item)...))
			if ok := field == "" || uses(typeUses[op], field); ok != impl.ValidModule(m) {
				t.Errorf("%v with a %q of its own: valid is %v", item, field, !ok)
			}
			inside := module(valDecl(impl.EItem{Op: impl.EInt}, impl.EItem{Op: impl.EFun, Name: "x", Type: m.Decls[0].Type}))
			if impl.ValidModule(m) != impl.ValidModule(inside) {
				t.Errorf("%v is not the same in a function and alone", item)
			}
		}
		try("", item)
		changed := item
		changed.Mod = "m"
		try("Mod", changed)
		changed = item
		changed.Name = "y"
		try("Name", changed)
		changed = item
		changed.Names = []string{"y"}
		try("Names", changed)
	}
}

func TestRefuseFieldsWithoutMeaningInExpressions(t *testing.T) {
	parts := map[int]int{impl.ERec: 1, impl.EGet: 1, impl.EFun: 1, impl.ECall: 2, impl.EIf: 3, impl.EAdd: 2, impl.ELess: 2}
	for op := impl.EInt; op <= impl.ELess; op++ {
		item := impl.EItem{Op: op}
		if uses(exprUses[op], "Name") {
			item.Name = "x"
		}
		if uses(exprUses[op], "Names") {
			item.Names = []string{"x"}
		}
		if uses(exprUses[op], "Type") {
			item.Type = []impl.TItem{{Op: impl.TInt}}
		}
		try := func(field string, change func(*impl.EItem)) {
			changed := item
			change(&changed)
			ahead := slices.Repeat([]impl.EItem{{Op: impl.EBool}}, parts[op])
			if ok := field == "" || uses(exprUses[op], field); ok != impl.ValidModule(module(valDecl(append(ahead, changed)...))) {
				t.Errorf("%v with a %q of its own: valid is %v", changed, field, !ok)
			}
		}
		try("", func(*impl.EItem) {})
		try("Num", func(x *impl.EItem) { x.Num = 1 })
		try("Mod", func(x *impl.EItem) { x.Mod = "m" })
		try("Name", func(x *impl.EItem) { x.Name = "y" })
		try("Names", func(x *impl.EItem) { x.Names = []string{"y"} })
		try("Type", func(x *impl.EItem) { x.Type = []impl.TItem{{Op: impl.TAny}} })
	}
}

func TestRefuseItems(t *testing.T) {
	one, fun := impl.TItem{Op: impl.TInt}, impl.TItem{Op: impl.TFun}
	for _, of := range [][]impl.TItem{
		{}, {{}}, {{Op: -1}}, {{Op: 7}}, {one, one}, {fun}, {one, fun}, {one, one, fun, fun}, {one, one, one, fun}, {one, fun, one}, {fun, one, one},
		{{Op: impl.TRec, Names: []string{"a"}}}, {one, {Op: impl.TRec}}, {one, {Op: impl.TRec, Names: []string{"a", "b"}}},
		{one, one, {Op: impl.TRec, Names: []string{"a", "a"}}}, {one, one, one, {Op: impl.TRec, Names: []string{"a", "b", "a"}}},
		{one, one, {Op: impl.TRec, Names: []string{"a", ""}}}, {one, one, {Op: impl.TRec, Names: []string{"a", "val"}}},
	} {
		wantRefused(t, module(typeDecl(of...)))
		wantRefused(t, module(impl.Decl{Kind: impl.DVal, Name: "v", Type: of, Expr: []impl.EItem{{Op: impl.EInt}}}))
		wantRefused(t, module(valDecl(impl.EItem{Op: impl.EInt}, impl.EItem{Op: impl.EFun, Name: "x", Type: of})))
	}
	a := impl.EItem{Op: impl.EName, Name: "a"}
	add := impl.EItem{Op: impl.EAdd}
	for _, is := range [][]impl.EItem{
		{}, {{}}, {{Op: -1}}, {{Op: 11}}, {a, a}, {add}, {a, add}, {a, a, add, add}, {a, a, a, add}, {a, add, a}, {add, a, a},
		{{Op: impl.EInt, Num: -1}}, {{Op: impl.EInt, Num: 1000000000}}, {{Op: impl.EInt, Num: -1 << 63}}, {{Op: impl.EInt, Num: 1<<63 - 1}}, {{Op: impl.EBool, Num: 2}}, {{Op: impl.EBool, Num: -1}},
		{{Op: impl.EGet, Name: "a"}}, {{Op: impl.EFun, Name: "a", Type: []impl.TItem{one}}}, {a, {Op: impl.EFun, Name: "a"}},
		{a, {Op: impl.ECall}}, {a, a, {Op: impl.EIf}}, {a, a, a, a, {Op: impl.EIf}}, {a, {Op: impl.ELess}}, {a, a, a, {Op: impl.ECall}},
		{{Op: impl.ERec, Names: []string{"a"}}}, {a, {Op: impl.ERec}}, {a, a, {Op: impl.ERec, Names: []string{"a", "a"}}}, {a, a, a, {Op: impl.ERec, Names: []string{"a", "b", "a"}}},
	} {
		wantRefused(t, module(valDecl(is...)))
	}
}

func TestPrintAtTheLimit(t *testing.T) {
	line := func(size int) impl.Decl { // a line of size bytes, from 10 to 21
		return impl.Decl{Kind: impl.DImport, Name: strings.Repeat("a", size-9)}
	}
	sum := func(n int) impl.Decl { // a line of 9+4n bytes
		items := []impl.EItem{{Op: impl.EName, Name: "a"}}
		for range n {
			items = append(items, impl.EItem{Op: impl.EName, Name: "a"}, impl.EItem{Op: impl.EAdd})
		}
		return valDecl(items...)
	}
	deep := func(n int) impl.Decl { // brackets around each argument but the first
		items := []impl.TItem{{Op: impl.TAny}}
		for range n {
			items = append(items, impl.TItem{Op: impl.TAny}, impl.TItem{Op: impl.TFun})
		}
		return typeDecl(items...)
	}
	for _, d := range []impl.Decl{line(20), sum(100), sum(240), deep(50), deep(139)} {
		text, ok := plainText(module(d))
		if !ok {
			t.Fatalf("%v is not valid", d)
		}
		m := module(d)
		for left := impl.MaxText - len(text); left > 0; {
			size := min(left, 10)
			if left < 20 {
				size = left
			}
			m.Decls = append(m.Decls, line(size))
			left -= size
		}
		full, _ := plainText(m)
		if len(full) != impl.MaxText {
			t.Fatalf("the text has %d bytes", len(full))
		}
		wantPrinted(t, m, full)
		wantModule(t, full, m)
		last := &m.Decls[len(m.Decls)-1]
		last.Name = last.Name[:len(last.Name)-1] + "b"
		wantPrinted(t, m, full[:len(full)-3]+"b;\n")
		m.Decls[0].Name += "b"
		wantRefused(t, m)
	}
}

// No size or depth of a module keeps the functions from answering soon.
func TestRefuseHugeModules(t *testing.T) {
	const n = 1 << 17
	var left, right []impl.TItem
	var calls, funs []impl.EItem
	for range n {
		left = append(left, impl.TItem{Op: impl.TAny}, impl.TItem{Op: impl.TFun})
		right = append(right, impl.TItem{Op: impl.TAny})
		calls = append(calls, impl.EItem{Op: impl.EInt}, impl.EItem{Op: impl.ECall})
		funs = append(funs, impl.EItem{Op: impl.EFun, Name: "x", Type: right[:1]})
	}
	wantRefused(t, module(typeDecl(append([]impl.TItem{{Op: impl.TAny}}, left...)...)))
	wantRefused(t, module(typeDecl(append(right, slices.Repeat([]impl.TItem{{Op: impl.TFun}}, n-1)...)...)))
	wantRefused(t, module(valDecl(append([]impl.EItem{{Op: impl.EInt}}, calls...)...)))
	wantRefused(t, module(valDecl(append([]impl.EItem{{Op: impl.EInt}}, funs...)...)))
	names := make([]string, n)
	for i := range names {
		names[i] = string([]byte{'a' + byte(i>>16&15), 'a' + byte(i>>12&15), 'a' + byte(i>>8&15), 'a' + byte(i>>4&15), 'a' + byte(i&15)})
	}
	wantRefused(t, module(typeDecl(append(slices.Clone(right[:n]), impl.TItem{Op: impl.TRec, Names: names})...)))
	wide := slices.Repeat([]impl.EItem{{Op: impl.EFun, Name: "x", Type: right}}, 1000)
	wantRefused(t, module(slices.Repeat([]impl.Decl{valDecl(wide...)}, 1000)...))
	wantRefused(t, module(slices.Repeat([]impl.Decl{{Kind: impl.DImport, Name: "a"}}, n)...))
}

func TestPrintWritesNothing(t *testing.T) {
	manyModules(8, func(d *dice, m impl.Module) {
		if d.roll(3) == 0 && len(m.Decls) > 0 {
			changeDecl(d, &m.Decls[0])
		}
		m = withRoom(m)
		before := wholeRoom(m)
		impl.ValidModule(m)
		impl.PrintModule(m)
		if !equalModules(wholeRoom(m), before) {
			t.Fatalf("%v was written into", before)
		}
	})
}

// withRoom gives every list of a module room behind it, which is not to be
// written into either.
func withRoom(m impl.Module) impl.Module {
	m.Decls = roomy(m.Decls)
	for i := range m.Decls {
		d := &m.Decls[i]
		d.Type, d.Expr = roomy(d.Type), roomy(d.Expr)
		for j := range d.Type {
			d.Type[j].Names = roomy(d.Type[j].Names)
		}
		for j := range d.Expr {
			d.Expr[j].Names, d.Expr[j].Type = roomy(d.Expr[j].Names), roomy(d.Expr[j].Type)
		}
	}
	return m
}

func roomy[T any](list []T) []T {
	out := make([]T, len(list), len(list)+4)
	copy(out, list)
	return out
}

// wholeRoom is a copy of the module with the room behind its lists.
func wholeRoom(m impl.Module) impl.Module {
	out := impl.Module{Decls: slices.Clone(m.Decls[:cap(m.Decls)])}
	for i := range out.Decls {
		d := &out.Decls[i]
		d.Type, d.Expr = slices.Clone(d.Type[:cap(d.Type)]), slices.Clone(d.Expr[:cap(d.Expr)])
		for j := range d.Type {
			d.Type[j].Names = slices.Clone(d.Type[j].Names[:cap(d.Type[j].Names)])
		}
		for j := range d.Expr {
			e := &d.Expr[j]
			e.Names, e.Type = slices.Clone(e.Names[:cap(e.Names)]), slices.Clone(e.Type[:cap(e.Type)])
		}
	}
	return out
}
