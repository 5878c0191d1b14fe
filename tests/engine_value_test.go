package tests

import (
	"fmt"
	"slices"
	"strings"
	"testing"

	"loop.example/s15618/impl"
)

func keysText(keys []impl.Key) string {
	var out []string
	for _, k := range keys {
		out = append(out, shortKey(k))
	}
	return strings.Join(out, ", ")
}

func wantNeeds(t *testing.T, srcs []impl.Source, k impl.Key, want string) {
	t.Helper()
	if got := keysText(impl.Needs(srcs, k)); got != want {
		t.Errorf("%v of %.300q needs %q, want %q", k, srcs, got, want)
	}
}

func wantValue(t *testing.T, srcs []impl.Source, k impl.Key, want string) {
	t.Helper()
	if got := impl.Value(srcs, k); got != want {
		t.Errorf("%v of %.300q is %q, want %q", k, srcs, got, want)
	}
}

func TestNeeds(t *testing.T) {
	srcs := sources(
		"a", "import c; type t = int; import b; import c; import a; import gone; import b; val import: int = 1; import if; # import d;\nimport e",
		"b", "",
		"c", "val x: d:t = d:y; oops import a;",
		twelve, "import "+twelve+"; import a;",
	)
	for _, c := range []struct{ mod, want string }{
		{"a", "parse a, sign c, sign b, sign a, sign gone"},
		{"b", "parse b"},
		{"c", "parse c"},
		{"gone", "parse gone"},
		{twelve, "parse " + twelve + ", sign " + twelve + ", sign a"},
	} {
		wantNeeds(t, srcs, parseKey(c.mod), "")
		wantNeeds(t, srcs, signKey(c.mod), c.want)
		wantNeeds(t, srcs, checkKey(c.mod), c.want)
		wantNeeds(t, nil, checkKey(c.mod), "parse "+c.mod)
		wantNeeds(t, nil, parseKey(c.mod), "")
	}
}

func TestNeedsOfManyImports(t *testing.T) {
	var text, want string
	want = "parse a"
	for i := range 90 {
		text += fmt.Sprintf("import m%d;", 10+i)
		want += fmt.Sprintf(", sign m%d", 10+i)
	}
	text += strings.Repeat(" ", impl.MaxText-len(text))
	wantNeeds(t, sources("a", text), signA, want)
	wantNeeds(t, sources("a", text+" "), signA, "")
}

func TestValueOfParse(t *testing.T) {
	srcs := sources(
		"a", "import b;val x:(int->b:t)->{}=fun(y:?)(1+(2+y)).z  ; ; oops; type t={b:int , a:(bool)} ;type t = t; import b;# the end\nimport c",
		"b", "",
		"c", " # nothing",
		"d", ";",
		"e", "val a: int = 007; val b: int = 0; val a: ? = {x = true, y = false};",
	)
	wantValue(t, srcs, parseKey("a"), "import b;\nval x: (int -> b:t) -> {} = fun(y: ?) (1 + (2 + y)).z;\nbad;\nbad;\ntype t = {b: int, a: bool};\ntype t = t;\nimport b;\nbad;\n")
	wantValue(t, srcs, parseKey("b"), "")
	wantValue(t, srcs, parseKey("c"), "")
	wantValue(t, srcs, parseKey("d"), "bad;\n")
	wantValue(t, srcs, parseKey("e"), "bad;\nval b: int = 0;\nval a: ? = {x = true, y = false};\n")
	wantValue(t, srcs, parseKey("f"), "missing")
	wantValue(t, nil, parseKey("a"), "missing")
}

// What is printed is longer than what was written, and may be longer than MaxText.
func TestValueOfParseHasNoLimit(t *testing.T) {
	fields := func(sign string, part string) string {
		var out []string
		for i := range 190 {
			out = append(out, fmt.Sprintf("%c%c%s%s", 'a'+i/26, 'a'+i%26, sign, part))
		}
		return "{" + strings.Join(out, ",") + "}"
	}
	for _, text := range []string{
		"type t=" + fields(":", "?") + ";",
		"val x:" + fields(":", "?") + "=1;",
		"val x:?=" + fields("=", "1") + ";",
		"val x:?=fun(y:" + fields(":", "?") + ")1;",
		"val x:?=1" + strings.Repeat("+1", 400) + ";",
		"type t=?" + strings.Repeat("->?", 300) + ";",
		strings.Repeat("val x:int=1+1+1;oops;", 45),
	} {
		if len(text) > impl.MaxText {
			t.Fatalf("%.100s is too long", text)
		}
		want := plainParseValue(text)
		if len(want) <= impl.MaxText {
			t.Fatalf("%.100s is printed as %d bytes", text, len(want))
		}
		wantValue(t, sources("a", text), parseA, want)
	}
}

func plainParseValue(text string) string {
	out := ""
	for _, decl := range parse(text) {
		line, ok := plainPrint{asNeeded}.module(module(decl))
		if !ok {
			line = "bad;\n"
		}
		out += line
	}
	return out
}

func TestValueOfSign(t *testing.T) {
	srcs := sources(
		"a", "val x: int = oops; val g: b:t -> b:none = 1; type u = {}; val g: int = 1; type t = {y: t, x: u}; type t = int; val f: ? = 2;",
		"b", "type t = bool; import c;",
		"c", "val f: {b: int, a: {x: int, y: int} -> bool} = 1;",
		"d", "import d; type t = int;",
		"e", "import d;",
		"f", "type t = t; type u = c:none; type v = gone:t; import c; import gone; val x: int = 1",
		"g", "",
		"h", "oops; import c;",
	)
	wantValue(t, srcs, signKey("a"), "type t 0\ntype u 1\nval f 2\nval g 3\nval x 4\n{x:1,y:0}\n{}\n?\n2->2\nint\n")
	wantValue(t, srcs, signKey("b"), "type t 0\nbool\n")
	wantValue(t, srcs, signKey("c"), "val f 0\n{a:1,b:3}\n2->4\n{x:3,y:3}\nint\nbool\n")
	wantValue(t, srcs, signKey("d"), "circular")
	wantValue(t, srcs, signKey("e"), "circular")
	wantValue(t, srcs, signKey("f"), "type t 0\ntype u 0\ntype v 0\n?\n")
	wantValue(t, srcs, signKey("g"), "")
	wantValue(t, srcs, signKey("h"), "")
	wantValue(t, srcs, signKey("i"), "missing")
	wantValue(t, nil, signKey("a"), "missing")
}

func TestValueOfCheck(t *testing.T) {
	srcs := sources(
		"a", "import b; import gone; import b; import d; val x: int = true; val y: q = 1; type t = t; val z: int = w; oops;",
		"b", "val x: int = 1;",
		"c", strings.Repeat(";", 12),
		"d", "import e;",
		"e", "import e;",
		"f", "",
	)
	wantValue(t, srcs, checkKey("a"), "1 3\n2 2\n3 4\n4 8\n5 5\n6 6\n7 7\n8 1\n")
	wantValue(t, srcs, checkKey("b"), "")
	wantValue(t, srcs, checkKey("c"), "0 1\n1 1\n2 1\n3 1\n4 1\n5 1\n6 1\n7 1\n8 1\n9 1\n10 1\n11 1\n")
	wantValue(t, srcs, checkKey("d"), "0 4\n")
	wantValue(t, srcs, checkKey("e"), "0 4\n")
	wantValue(t, srcs, checkKey("f"), "")
	wantValue(t, srcs, checkKey("gone"), "-1 3\n")
	wantValue(t, nil, checkKey("a"), "-1 3\n")
}

func plainSignValue(sig impl.Sig) string {
	if sig.State != 0 {
		return []string{"", "missing", "circular"}[sig.State]
	}
	out := ""
	for _, e := range sig.Types {
		out += fmt.Sprintf("type %s %d\n", e.Name, e.Node)
	}
	for _, e := range sig.Vals {
		out += fmt.Sprintf("val %s %d\n", e.Name, e.Node)
	}
	for _, n := range sig.Graph.Nodes {
		switch n.Kind {
		case impl.KAny, impl.KInt, impl.KBool:
			out += []string{"?", "int", "bool"}[n.Kind]
		case impl.KFun:
			out += fmt.Sprintf("%d->%d", n.Kids[0], n.Kids[1])
		case impl.KRec:
			var fields []string
			for i, name := range n.Names {
				fields = append(fields, fmt.Sprintf("%s:%d", name, n.Kids[i]))
			}
			out += "{" + strings.Join(fields, ",") + "}"
		}
		out += "\n"
	}
	return out
}

func plainNeeds(srcs []impl.Source, k impl.Key) string {
	if k.Kind == impl.KParse {
		return ""
	}
	needs := []impl.Key{parseKey(k.Mod)}
	for _, decl := range parse(textOf(srcs, k.Mod)) {
		if need := signKey(decl.Name); decl.Kind == impl.DImport && !slices.Contains(needs, need) {
			needs = append(needs, need)
		}
	}
	return keysText(needs)
}

func TestValuesAgainstPlainWords(t *testing.T) {
	manySources(41, 500, func(_ *dice, srcs []impl.Source) {
		for _, name := range moduleNames {
			want := plainParseValue(textOf(srcs, name))
			if !slices.ContainsFunc(srcs, func(s impl.Source) bool { return s.Name == name }) {
				want = "missing"
			}
			wantValue(t, srcs, parseKey(name), want)
			wantValue(t, srcs, signKey(name), plainSignValue(plainSignature(srcs, name)))
			diags := ""
			for _, diag := range plainDiagnose(srcs, name) {
				diags += fmt.Sprintf("%d %d\n", diag.Decl, diag.Code)
			}
			wantValue(t, srcs, checkKey(name), diags)
			for kind := impl.KParse; kind <= impl.KCheck; kind++ {
				k := impl.Key{Kind: kind, Mod: name}
				wantNeeds(t, srcs, k, plainNeeds(srcs, k))
			}
		}
	})
}

func eightSources() []impl.Source {
	var out []impl.Source
	for _, name := range []string{"a", "b", "c", "d", "e", "f", "g", twelve} {
		out = append(out, impl.Source{Name: name, Text: "import a; val x: int = 1;" + strings.Repeat(" ", impl.MaxText-25)})
	}
	return out
}

func TestSourcesThatAreNotValidHaveNoKeys(t *testing.T) {
	good := eightSources()
	wantNeeds(t, good, checkKey(twelve), "parse "+twelve+", sign a")
	wantValue(t, good, parseKey(twelve), "import a;\nval x: int = 1;\n")
	wantValue(t, good, signKey(twelve), "circular")
	wantValue(t, good, checkKey(twelve), "0 4\n")
	changed := func(change func(srcs []impl.Source)) []impl.Source {
		out := eightSources()
		change(out)
		return out
	}
	bad := [][]impl.Source{
		append(eightSources(), impl.Source{Name: "h"}),
		changed(func(srcs []impl.Source) { srcs[7].Name = "a" }),
		changed(func(srcs []impl.Source) { srcs[3].Text += " " }),
		changed(func(srcs []impl.Source) { srcs[7].Text = strings.Repeat("x", impl.MaxText+1) }),
	}
	for _, mod := range badMods() {
		bad = append(bad, changed(func(srcs []impl.Source) { srcs[7].Name = mod }))
	}
	for _, srcs := range bad {
		for _, mod := range []string{"a", "b", "h", "gone", twelve} {
			for kind := impl.KParse; kind <= impl.KCheck; kind++ {
				wantNeeds(t, srcs, impl.Key{Kind: kind, Mod: mod}, "")
				wantValue(t, srcs, impl.Key{Kind: kind, Mod: mod}, "")
			}
		}
	}
}

func TestKeysThatAreNotValidHaveNoValue(t *testing.T) {
	for _, srcs := range [][]impl.Source{nil, eightSources(), sources("a", "import b;")} {
		for _, k := range append(badKeys(), signKey("if"), signKey(thirteen), signKey("")) {
			if needs, value := impl.Needs(srcs, k), impl.Value(srcs, k); len(needs) != 0 || value != "" {
				t.Errorf("%v needs %v and is %q", k, needs, value)
			}
		}
	}
}

func TestMemoryOfValues(t *testing.T) {
	manySources(42, 100, func(_ *dice, srcs []impl.Source) {
		srcs = append(make([]impl.Source, 0, len(srcs)+3), srcs...)
		for i := range srcs {
			srcs[i] = impl.Source{Name: copyText(srcs[i].Name), Text: copyText(srcs[i].Text)}
		}
		before := slices.Clone(srcs[:cap(srcs)])
		for _, name := range moduleNames {
			for kind := impl.KParse; kind <= impl.KCheck; kind++ {
				k := impl.Key{Kind: kind, Mod: copyText(name)}
				needs, value := impl.Needs(srcs, k), impl.Value(srcs, k)
				wantApart(t, srcs, needs, impl.Needs(srcs, k))
				for _, src := range append(slices.Clone(srcs), impl.Source{Text: k.Mod}) {
					wantNewTexts(t, src.Text, needs)
					wantNewTexts(t, src.Name, needs)
					wantNewTexts(t, src.Text, value)
				}
				spoil(needs, impl.Key{Kind: 9, Mod: "spoilt"})
				wantNeeds(t, srcs, k, plainNeeds(srcs, k))
			}
		}
		if !slices.Equal(before, srcs[:cap(srcs)]) {
			t.Fatalf("%q has become %q", before, srcs)
		}
	})
}
