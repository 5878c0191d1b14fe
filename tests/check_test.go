package tests

import (
	"fmt"
	"slices"
	"strings"
	"testing"

	"loop.example/s15618/impl"
)

// padded is the text at the size, its end behind a comment and a newline.
func padded(size int, end string) string {
	return "#" + strings.Repeat("x", size-len(end)-2) + "\n" + end
}

func nModules(n int) []impl.Source {
	var out []impl.Source
	for i := range n {
		out = append(out, impl.Source{Name: fmt.Sprint("m", i), Text: fmt.Sprintf("import m%d; val v: int = 1;", i+1)})
	}
	return out
}

func TestSourcesThatAreValid(t *testing.T) {
	for _, srcs := range [][]impl.Source{
		nil,
		{},
		sources("a", ""),
		sources("a", "all of this is nonsense \xff\x00"),
		sources("a", "", "b", "", "ab", "", "a_", "", "a0", ""),
		sources(twelve, "import if;"),
		sources("a", padded(1000, "")),
		nModules(8),
	} {
		if !impl.ValidSources(srcs) {
			t.Errorf("%q is valid", srcs)
		}
	}
}

// badSources are wrong in every way that there is; a is among the names.
func badSources() [][]impl.Source {
	out := [][]impl.Source{
		append(nModules(8), sources("a", "import m0;")...),
		nModules(9),
		make([]impl.Source, 100000),
		sources("a", "import b;", "a", "import b;"),
		sources("a", "import b;", "b", "", "a", ""),
		sources("a", "import b;", "b", "", "c", "", "b", ""),
		sources("a", padded(1001, "")),
		sources("a", "import b;", "b", padded(1001, "val v: int = 1;")),
		sources("a", "import b;", "b", strings.Repeat("\n", 100000)),
	}
	for _, name := range slices.Concat(elevenWords, []string{"", thirteen, "A", "aB", "0a", "_a", "a b", "a:b", "é", "a\n", "a\x00", "a-"}) {
		out = append(out, sources("a", "import b; val v: int = 1;", name, ""), sources(name, "", "a", ""))
	}
	return out
}

func TestSourcesThatAreNotValid(t *testing.T) {
	for _, srcs := range badSources() {
		if impl.ValidSources(srcs) {
			t.Errorf("%.200q is not valid", srcs)
		}
		for _, name := range []string{"a", "b", "m0", "q", "", "if", thirteen, srcs[0].Name} {
			if reach := impl.Reach(srcs, name); len(reach) > 0 {
				t.Errorf("%.200q: %q reaches %q", srcs, name, reach)
			}
			if sig := impl.Signature(srcs, name); !equalSigs(sig, impl.Sig{State: 3}) {
				t.Errorf("%.200q: the signature of %q is %v", srcs, name, sig)
			}
			if diags := impl.Diagnose(srcs, name); diagsText(diags) != "-1:9" {
				t.Errorf("%.200q: %q has %v", srcs, name, diags)
			}
		}
	}
}

func TestModulesThatAreNotPresent(t *testing.T) {
	for _, srcs := range [][]impl.Source{nil, sources("a", "import b; import if; val v: int = b:v;"), nModules(7)} {
		for _, name := range []string{"b", "m7", "aa", "", "if", "A", "a ", thirteen, "\xff"} {
			if reach := impl.Reach(srcs, name); len(reach) > 0 {
				t.Errorf("%q reaches %q", name, reach)
			}
			wantSig(t, srcs, name, impl.Sig{State: 1})
			wantDiags(t, srcs, name, "-1:3")
		}
	}
}

func TestSourcesAtTheirLimits(t *testing.T) {
	eight := nModules(8)
	if got := impl.Reach(eight, "m0"); !slices.Equal(got, []string{"m1", "m2", "m3", "m4", "m5", "m6", "m7", "m8"}) {
		t.Errorf("m0 reaches %q", got)
	}
	wantDiags(t, eight, "m0", "")
	wantDiags(t, eight, "m7", "0:3")
	srcs := sources("a", padded(1000, "import b; val v: b:t = b:v;"), "b", padded(1000, "type t = int; val v: bool = 1;"))
	wantDiags(t, srcs, "a", "1:8")
	wantDiags(t, srcs, "b", "1:8")
	many := strings.Repeat("import b;", 110)
	wantDiags(t, sources("a", many), "a", "0:3"+laterTwice(110))
	many = strings.Repeat("type a=a;", 111)
	wantDiags(t, sources("a", many), "a", "0:6"+laterTwice(111))
}

// laterTwice has the code 2 for all of the first n declarations but the first.
func laterTwice(n int) string {
	out := ""
	for i := 1; i < n; i++ {
		out += fmt.Sprintf(" %d:2", i)
	}
	return out
}

func TestReach(t *testing.T) {
	srcs := sources(
		"a", "import e; import c; import c; import b;",
		"b", "import b_; import b0; import d",
		"c", "import a2; nonsense; type b = int; import d; val z: int = 1;",
		"d", "",
		"self", "import self;",
		"x", "import y; import a;", "y", "import x;")
	for name, want := range map[string]string{
		"a":    "a2 b b0 b_ c d e",
		"b":    "b0 b_",
		"c":    "a2 d",
		"d":    "",
		"e":    "",
		"q":    "",
		"self": "self",
		"x":    "a a2 b b0 b_ c d e x y",
		"y":    "a a2 b b0 b_ c d e x y",
	} {
		if got := impl.Reach(srcs, name); strings.Join(got, " ") != want {
			t.Errorf("%q reaches %q, want %q", name, got, want)
		}
	}
}

func TestStates(t *testing.T) {
	srcs := sources(
		"a", "import b; type t = int;",
		"b", "import c;",
		"c", "import d; import b;",
		"d", "import none;",
		"e", "import e;",
		"f", "import d; import e;",
		"g", "type bad; import d")
	for name, want := range map[string]int{"a": 2, "b": 2, "c": 2, "d": 0, "e": 2, "f": 2, "g": 0, "none": 1} {
		sig := impl.Signature(srcs, name)
		if sig.State != want || !equalSigs(sig, impl.Sig{State: want}) {
			t.Errorf("%q has %v, want state %d", name, sig, want)
		}
	}
}

func exportsOf(namesAndNodes ...any) []impl.Export {
	var out []impl.Export
	for i := 0; i < len(namesAndNodes); i += 2 {
		out = append(out, impl.Export{Name: namesAndNodes[i].(string), Node: namesAndNodes[i+1].(int)})
	}
	return out
}

func TestSignatureOrder(t *testing.T) {
	srcs := sources("a", "val b: t = q; val a_: int = q; type z = {}; val a0: z = q; type t = {y: bool, x: int}; type a = z; val z: ? -> t = q;")
	wantSig(t, srcs, "a", impl.Sig{
		Types: exportsOf("a", 0, "t", 1, "z", 0),
		Vals:  exportsOf("a0", 0, "a_", 2, "b", 1, "z", 4),
		Graph: graph(rec(nil), rec([]string{"x", "y"}, 2, 3), intNode, boolNode, fun(5, 1), anyNode),
	})
}

func TestSignatureOfFirstDeclarations(t *testing.T) {
	srcs := sources("a", "val t: bool = 1; type t = int; import t; type t = bool; val t: int = 1; val u: t = 1; type bad; import b; import b;")
	wantSig(t, srcs, "a", impl.Sig{
		Types: exportsOf("t", 0),
		Vals:  exportsOf("t", 1, "u", 0),
		Graph: graph(intNode, boolNode),
	})
	wantDiags(t, srcs, "a", "0:8 2:3 3:2 4:2 6:1 7:3 8:2")
}

func TestSignatureIsSmall(t *testing.T) {
	srcs := sources("a", "type t = {n: {n: t}}; type u = {n: u}; type v = t; val f: u -> {n: t} = 1;")
	wantSig(t, srcs, "a", impl.Sig{
		Types: exportsOf("t", 0, "u", 0, "v", 0),
		Vals:  exportsOf("f", 1),
		Graph: graph(rec([]string{"n"}, 0), fun(0, 0)),
	})
}

func TestSignatureAcrossModules(t *testing.T) {
	srcs := sources(
		"a", "import b; import c; import none; type t = {f: b:t -> c:t, x: none:t, y: b:none, z: c:b}; val v: c:t = 1; val w: d:t = 1;",
		"b", "import c; type t = {c: c:t, t: t};",
		"c", "type t = {c: t, x: int};")
	wantSig(t, srcs, "a", impl.Sig{
		Types: exportsOf("t", 0),
		Vals:  exportsOf("v", 3, "w", 5),
		Graph: graph(
			rec([]string{"f", "x", "y", "z"}, 1, 5, 5, 5),
			fun(2, 3),
			rec([]string{"c", "t"}, 3, 2),
			rec([]string{"c", "x"}, 3, 4),
			intNode, anyNode),
	})
	wantDiags(t, srcs, "a", "2:3 3:5 4:8 5:5")
}

// The modules' graphs have more than MaxNodes nodes together, but not so many
// types.
func TestSignatureOfManyModules(t *testing.T) {
	var srcs []impl.Source
	types := 1
	end, imports := "?", ""
	for i := range 8 {
		name := fmt.Sprint("m", i)
		arrows := (990 - len(imports) - len("type t=")) / 3
		types += arrows
		srcs = append(srcs, impl.Source{Name: name, Text: imports + "type t=" + strings.Repeat("?->", arrows) + end + ";"})
		imports += "import " + name + ";"
		end = name + ":t"
	}
	sig := impl.Signature(srcs, "m7")
	if sig.State != 0 || !slices.Equal(sig.Types, exportsOf("t", 0)) || len(sig.Graph.Nodes) != types {
		t.Errorf("%d nodes and not %d, types %v", len(sig.Graph.Nodes), types, sig.Types)
	}
	for i, n := range sig.Graph.Nodes {
		last := types - 1
		want := fun(1, i+1)
		switch {
		case i == 0:
			want = fun(1, 2)
		case i == 1:
			want = anyNode
		case i == last:
			want = fun(1, 1)
		}
		if n.Kind != want.Kind || !slices.Equal(n.Kids, want.Kids) {
			t.Fatalf("node %d is %v, want %v", i, n, want)
		}
	}
	wantDiags(t, srcs, "m7", "")
}

func TestTypesThatGoNowhere(t *testing.T) {
	for text, want := range map[string]string{
		"type t = t;":                           "0:6",
		"type t = (t);":                         "0:6",
		"type t = u; type u = t;":               "0:6 1:6",
		"type t = u; type u = v; type v = u;":   "0:6 1:6 2:6",
		"type v = u; type t = v; type u = v;":   "0:6 1:6 2:6",
		"type t = t; type t = int;":             "0:6 1:2",
		"type t = int; type t = t;":             "1:2",
		"type t = u; type u = int;":             "",
		"type t = u; type u = v; type v = w;":   "2:5",
		"type t = {t: t};":                      "",
		"type t = t -> t;":                      "",
		"type t = u; type u = {x: t};":          "",
		"type t = a:t;":                         "0:5",
		"import a; type t = a:t;":               "0:4",
		"import b; type t = b:u; type u = b:t;": "0:3",
		"import t; type t = t;":                 "0:3 1:6",
		"type t = {x: u}; type u = u;":          "1:6",
		"type t = t; val v: t = 1 + true;":      "0:6 1:8",
		"type t = t; val v: t = {}; val w: int = v; val x: bool = v.y(v);": "0:6",
	} {
		wantDiags(t, sources("a", text), "a", want)
	}
	chain := ""
	for i := range 50 {
		chain += fmt.Sprintf("type t%d=t%d;", i, i+1)
	}
	wantDiags(t, sources("a", chain+"type t50={};val v:t0=1;val w:t0={};"), "a", "51:8")
	wantDiags(t, sources("a", chain+"val v:t0=1;"), "a", "49:5")
	wantSig(t, sources("a", "type t = u; type u = t; type v = {x: t}; val w: u -> v = 1;"), "a", impl.Sig{
		Types: exportsOf("t", 0, "u", 0, "v", 1),
		Vals:  exportsOf("w", 2),
		Graph: graph(anyNode, rec([]string{"x"}, 0), fun(0, 1)),
	})
}

func TestUnknownTypes(t *testing.T) {
	for text, want := range map[string]string{
		"type t = q;":                                  "0:5",
		"type t = {x: int, y: {z: q}};":                "0:5",
		"type t = int -> q -> int;":                    "0:5",
		"val v: {x: q} = {x = 1};":                     "0:5",
		"val v: q = nothing;":                          "0:5",
		"val v: q = 1 + true;":                         "0:5",
		"val v: v = 1; val t: int = 1;":                "0:5",
		"type t = t2; type t3 = int;":                  "0:5",
		"val q: int = 1; import q; type t = q;":        "1:3 2:5",
		"type t = b:t; import c;":                      "0:5 1:3",
		"import b; type t = b:t; type u = c:t;":        "0:3 2:5",
		"type t = q; val v: t = 1 + t; val w: t = {};": "0:5 1:7",
		"type u = q; val x: {a: u} = {a = 1}; val y: bool = x.a; val z: {b: u} = x;": "0:5 3:8",
	} {
		wantDiags(t, sources("a", text), "a", want)
	}
}

func TestThreeKindsOfNames(t *testing.T) {
	srcs := sources(
		"a", "val b: b = b:b; type b = b:b; import b; val c: bool = b; val d: b:b = b;",
		"b", "type b = int; val b: int = 1;")
	wantDiags(t, srcs, "a", "3:8")
	srcs = sources("a", "import x; type x = int; val x: x = 1; import x; val x: bool = nothing; type x = nothing; val y: bool = x;")
	wantDiags(t, srcs, "a", "0:3 3:2 4:2 5:2 6:8")
}

func TestImportsThatAreNotClear(t *testing.T) {
	srcs := sources(
		"a", "import none; import loop; import way; import good; import a; import none;"+
			"type t = {a: none:t, b: loop:t, c: way:q, d: a:t};"+
			"val v: t = {a = 1, b = true, c = {}, d = none:x(1).y};"+
			"val w: int = loop:x + way:x; val x: bool = a:x; val y: int = good:x; val z: int = good:y;",
		"loop", "import way; type t = int; val x: bool = true;",
		"way", "import loop; import good; val x: bool = good:x; val y: good:t = 1;",
		"good", "import none; type t = none:t; val x: bool = none:x + 1;")
	wantDiags(t, srcs, "a", "0:3 1:4 2:4 4:4 5:2 10:8 11:7")
	wantDiags(t, srcs, "loop", "0:4")
	wantDiags(t, srcs, "way", "0:4")
	wantDiags(t, srcs, "good", "0:3 2:8")
	srcs = sources("a", "import b; val x: bool = b:x;", "b", "import c; val x: int = 1;", "c", "import c;")
	wantDiags(t, srcs, "a", "0:4")
	wantDiags(t, srcs[:2], "a", "1:8")
	wantDiags(t, srcs[:1], "a", "0:3")
}

// Only what a module has itself can be seen in it, and only by those that
// import it.
func TestImportsDoNotGoOn(t *testing.T) {
	srcs := sources(
		"a", "import b; val v: b:t = 1; val w: c:t = 1; val x: int = c:v; val y: int = b:c; val z: b:u = 1;",
		"b", "import c; type t = c:t; val v: int = c:v;",
		"c", "type t = bool; val v: int = 1; type u = int;")
	wantDiags(t, srcs, "a", "1:8 2:5 3:7 4:7 5:5")
	wantDiags(t, srcs, "b", "")
}

func TestBadDeclarations(t *testing.T) {
	wantDiags(t, sources("a", ";;;"), "a", "0:1 1:1 2:1")
	wantDiags(t, sources("a", "val v: int = 1"), "a", "0:1")
	wantDiags(t, sources("a", "val v: int = v2; val v2: int = 1"), "a", "0:7 1:1")
	wantDiags(t, sources("a", "type t = {x: int, x: int}; type t = int; val v: t = {};"), "a", "0:1 2:8")
	wantDiags(t, sources("a", "import b import c; import c"), "a", "0:1 1:1")
	if reach := impl.Reach(sources("a", "import b import c; import c"), "a"); len(reach) > 0 {
		t.Errorf("bad imports reach %q", reach)
	}
}
