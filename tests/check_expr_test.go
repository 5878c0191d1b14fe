package tests

import (
	"fmt"
	"strings"
	"testing"

	"loop.example/s15618/impl"
)

// preface has values of every kind of type; it is fifteen declarations.
const preface = `type list = {head: int, tail: list}; type loop = loop -> loop;
val any: ? = 0; val num: int = 0; val yes: bool = true; val none: {} = {};
val xy: {x: int, y: bool} = {x = 1, y = true}; val x: {x: int} = xy; val l: list = any;
val f: int -> bool = any; val g: {x: int} -> {y: int} = any; val h: (int -> bool) -> bool = any;
val r: loop = any; val b: ? -> bool = any; val c: int -> ? = any;
`

const prefaceSize = 15

// wantCodes asks for each text "TYPE = EXPR" which code a value of it has.
func wantCodes(t *testing.T, codes map[string]int) {
	t.Helper()
	for text, code := range codes {
		want := ""
		if code != 0 {
			want = fmt.Sprintf("%d:%d", prefaceSize, code)
		}
		wantDiags(t, sources("a", preface+"val last: "+text+";"), "a", want)
	}
}

func TestPlainExpressions(t *testing.T) {
	wantDiags(t, sources("a", preface), "a", "")
	wantCodes(t, map[string]int{
		"int = 1":                  0,
		"bool = 1":                 8,
		"{} = 1":                   8,
		"int -> int = 1":           8,
		"? = 1":                    0,
		"bool = true":              0,
		"bool = false":             0,
		"int = false":              8,
		"int = num":                0,
		"bool = num":               8,
		"int = any":                0,
		"{x: ?} = any":             0,
		"int -> bool = any":        0,
		"int = last":               0,
		"bool -> int = last":       0,
		"int = q":                  7,
		"? = list":                 7,
		"int = a:num":              7,
		"int = b:num":              7,
		"{} = none":                0,
		"{} = xy":                  0,
		"{x: int} = xy":            0,
		"{x: int, y: bool} = x":    8,
		"{x: bool} = xy":           8,
		"list = l":                 0,
		"{tail: {tail: {}}} = l":   0,
		"{tail: {tail: int}} = l":  8,
		"loop = r":                 0,
		"loop -> loop -> loop = r": 0,
		"int -> loop = r":          8,
		"int = none":               8,
		"{} = f":                   8,
	})
}

func TestRecords(t *testing.T) {
	wantCodes(t, map[string]int{
		"{} = {}":                                           0,
		"{x: int} = {}":                                     8,
		"{} = {x = 1}":                                      0,
		"{x: int} = {x = 1}":                                0,
		"{x: int} = {x = true}":                             8,
		"{a: int, z: bool} = {z = yes, a = num}":            0,
		"{a: int, z: bool} = {z = num, a = yes}":            8,
		"{b: int, a: bool} = {b = 1, c = {}, a = true}":     0,
		"{x: ?} = {x = f}":                                  0,
		"list = {head = 1, tail = l}":                       0,
		"list = {head = 1, tail = {head = 2, tail = any}}":  0,
		"list = {head = 1, tail = {head = 2, tail = none}}": 8,
		"list = {head = 1, tail = last}":                    0,
		"? = {x = 1, y = q}":                                7,
		"? = {x = 1 + true, y = q}":                         8,
		"? = {z = q, a = 1 + true}":                         7,
		"int = {}":                                          8,
		"int -> int = {}":                                   8,
	})
}

func TestFields(t *testing.T) {
	wantCodes(t, map[string]int{
		"int = xy.x":                0,
		"bool = xy.y":               0,
		"bool = xy.x":               8,
		"? = xy.z":                  8,
		"? = none.x":                8,
		"? = num.x":                 8,
		"? = yes.x":                 8,
		"? = f.x":                   8,
		"int = any.x":               0,
		"int = any.x.y.z":           0,
		"list = l.tail.tail":        0,
		"int = l.tail.tail.head":    0,
		"? = l.tail.head.tail":      8,
		"int = {z = true, a = 1}.a": 0,
		"int = {z = true, a = 1}.z": 8,
		"? = q.x":                   7,
		"? = (1 + yes).x":           8,
		"bool = any.x":              0,
	})
}

func TestFunctions(t *testing.T) {
	wantCodes(t, map[string]int{
		"int -> int = fun(n: int) n":                            0,
		"int -> int = fun(n: int) 1":                            0,
		"int -> int = fun(n: bool) 1":                           8,
		"int -> int = fun(n: int) yes":                          8,
		"int -> int = fun(n: ?) n":                              0,
		"int -> bool = fun(n: ?) n":                             0,
		"{x: int} -> int = fun(n: {}) 1":                        0,
		"{} -> int = fun(n: {x: int}) n.x":                      8,
		"int = fun(n: int) n":                                   8,
		"? = fun(n: q) 1":                                       5,
		"? = fun(n: q) nothing":                                 5,
		"? = fun(n: q) 1 + true":                                5,
		"? = fun(n: {x: b:t}) 1":                                5,
		"? = fun(n: int) fun(m: q) n":                           5,
		"? = fun(n: int) nothing + (fun(m: q) n)":               7,
		"? = fun(n: int) (fun(m: q) n)(nothing)":                5,
		"? = fun(n: num) 1":                                     5,
		"? = fun(n: int) n.x":                                   8,
		"? = fun(n: int) nothing":                               7,
		"int -> bool -> int = fun(n: int) fun(m: bool) n":       0,
		"int -> bool -> int = fun(n: int) fun(m: bool) m":       8,
		"int -> bool -> bool = fun(n: int) fun(n: bool) n":      0,
		"int -> bool -> int = fun(n: int) fun(n: bool) n":       8,
		"list -> list = fun(k: list) {head = 1, tail = k.tail}": 0,
		"loop = fun(k: loop) k":                                 0,
		"loop = fun(k: loop) k(k)(k)":                           0,
		"loop = fun(k: loop) 1":                                 8,
		"int = (fun(n: int) n + 1)(2)":                          0,
		"int -> int = fun(n: int) last(n)":                      0,
	})
}

func TestParametersHide(t *testing.T) {
	srcs := sources(
		"a", "import b; val x: int = 1;"+
			"val f: bool -> bool = fun(x: bool) x;"+
			"val g: bool -> int = fun(x: bool) b:x;"+
			"val h: bool -> int = fun(b: bool) b:x;"+
			"val i: int = {a = fun(x: bool) x, b = x}.b;"+
			"val j: int = (fun(x: bool) 1)(true) + x;"+
			"val k: int = (fun(y: bool) 1)(y);"+
			"val l: bool -> int -> bool = fun(x: bool) fun(y: int) (fun(x: int) y < x)(y);"+
			"val m: bool -> int = fun(x: bool) (fun(x: int) x)(x);"+
			"val n: bool -> bool = fun(x: bool) (fun(y: int) x)(1);"+
			"val o: t -> t = fun(t: t) t; type t = int;"+
			"val p: int = if x < 1 then x else (fun(x: bool) if x then 1 else 2)(true);",
		"b", "val x: int = 1;")
	wantDiags(t, srcs, "a", "7:7 9:8")
}

func TestCalls(t *testing.T) {
	wantCodes(t, map[string]int{
		"bool = f(1)":                0,
		"int = f(1)":                 8,
		"bool = f(true)":             8,
		"bool = f(any)":              0,
		"int = g({x = 1}).y":         0,
		"int = g(xy).y":              0,
		"? = g(none)":                8,
		"? = g({x = true})":          8,
		"bool = h(f)":                0,
		"bool = h(fun(n: int) yes)":  0,
		"bool = h(fun(n: ?) any)":    0,
		"bool = h(fun(n: bool) yes)": 8,
		"bool = h(fun(n: int) n)":    8,
		"? = h(1)":                   8,
		"int = any(1)":               0,
		"bool = any(any)(none).x(1)": 0,
		"? = num(1)":                 8,
		"? = yes(1)":                 8,
		"? = xy(1)":                  8,
		"? = none(any)":              8,
		"loop = r(r)(r(r))":          0,
		"? = r(1)":                   8,
		"bool = b(f)":                0,
		"int = b(f)":                 8,
		"{} = c(1)":                  0,
		"? = q(nothing)":             7,
		"? = 1(q)":                   7,
		"? = any(q)":                 7,
		"? = any(1 + yes)":           8,
		"? = (1 + yes)(q)":           8,
		"? = q(1 + yes)":             7,
		"? = xy.z(q)":                8,
	})
}

func TestConditions(t *testing.T) {
	wantCodes(t, map[string]int{
		"int = if yes then 1 else 2":                         0,
		"int = if any then 1 else 2":                         0,
		"int = if 1 then 1 else 2":                           8,
		"int = if none then 1 else 2":                        8,
		"int = if f then 1 else 2":                           8,
		"bool = if yes then 1 else 2":                        8,
		"int = if yes then 1 else true":                      0,
		"bool = if yes then 1 else none":                     0,
		"bool = if yes then any else 1":                      0,
		"bool = if yes then 1 else any":                      0,
		"{x: int} = if yes then xy else x":                   0,
		"{y: bool} = if yes then xy else x":                  8,
		"{y: bool} = if yes then x else xy":                  8,
		"{} = if yes then none else x":                       0,
		"int = if yes then none else x":                      8,
		"{x: bool} = if yes then x else {x = true}":          0,
		"list = if yes then l else l.tail":                   0,
		"list = if yes then l else {head = 1}":               8,
		"{head: int} = if yes then l else {head = 1}":        0,
		"int -> bool = if yes then f else fun(n: int) n < 1": 0,
		"int -> int = if yes then f else fun(n: int) n":      0,
		"bool -> bool = if yes then f else f":                8,
		"{a: int, b: int} -> int = if yes then fun(k: {a: int}) 1 else fun(k: {b: int}) 2": 0,
		"{a: int} -> int = if yes then fun(k: {a: int}) 1 else fun(k: {b: int}) 2":         8,
		"{b: int} -> int = if yes then fun(k: {a: int}) 1 else fun(k: {b: int}) 2":         8,
		"? = if 1 then q else 2":                          7,
		"? = if 1 then 2 else q":                          7,
		"? = if q then 1 + yes else 2":                    7,
		"? = if 1 + yes then q else 2":                    8,
		"? = if yes then 1 + yes else q":                  8,
		"? = if yes then q else 1 + yes":                  7,
		"? = if 1 then fun(n: q) 1 else 2":                5,
		"int = (if yes then xy else x).x":                 0,
		"int = (if yes then xy else x).y":                 8,
		"bool = (if yes then f else f)(1)":                0,
		"int = if if yes then yes else yes then 1 else 2": 0,
		"int = if if yes then 1 else 2 then 1 else 2":     8,
	})
}

func TestSums(t *testing.T) {
	wantCodes(t, map[string]int{
		"int = 1 + 2":             0,
		"bool = 1 + 2":            8,
		"bool = 1 < 2":            0,
		"int = 1 < 2":             8,
		"int = any + any":         0,
		"bool = any + any":        8,
		"bool = any < any":        0,
		"int = any < any":         8,
		"int = 1 + yes":           8,
		"int = yes + 1":           8,
		"int = none + 1":          8,
		"int = 1 + f":             8,
		"bool = 1 < yes":          8,
		"bool = yes < 1":          8,
		"bool = (1 < 2) < 3":      8,
		"bool = 1 < 2 + 3":        0,
		"int = 1 + (2 + 3) + num": 0,
		"? = yes + q":             7,
		"? = q + yes":             7,
		"? = 1 + yes + q":         8,
		"? = yes < q":             7,
		"? = q < (fun(n: t) 1)":   7,
		"? = (fun(n: t) 1) < q":   5,
	})
}

// The two loops of records have p and q kinds of records; what is made of both
// has p times q.
func loops(p int, q int) string {
	loop := func(name string, mark string, n int) string {
		return "type " + name + " = {" + mark + ": ?, n: " + strings.Repeat("{n: ", n-1) + name + strings.Repeat("}", n) + ";"
	}
	return loop("p", "a", p) + loop("q", "b", q)
}

func TestGreatJoinsAreAny(t *testing.T) {
	start := "val c: ? = 0; val f: p -> int = c; val g: q -> int = c; val v: {a: int} -> int = if c then f else g;"
	wantDiags(t, sources("a", loops(29, 31)+start), "a", "5:8")
	// 29 times 34 pairs for the Meet, and two for the Join, are not above MaxPairs
	wantDiags(t, sources("a", loops(29, 34)+start), "a", "5:8")
	wantDiags(t, sources("a", loops(29, 35)+start), "a", "")
	wantDiags(t, sources("a", loops(27, 37)+start), "a", "")
}

// The Join of a type with itself is ? too if the type is great. Here it has one
// pair for each arrow, one for int, and one for the Meet of ? and ?.
func TestGreatTypesJoinedWithThemselves(t *testing.T) {
	arrows := func(n int, end string) string { return strings.Repeat("?->", n) + end }
	srcs := sources(
		"b", "type t = "+arrows(320, "int;"),
		"c", "import b; type t = "+arrows(320, "b:t;"),
		"d", "import c; type t = "+arrows(320, "c:t;"))
	for more, want := range map[int]string{38: "2:8 3:8", 39: "3:8"} {
		text := "import d; val v: " + arrows(more, "d:t") + " = c; val w: int = if true then v else v; val x: int = v; val c: ? = 0;"
		wantDiags(t, append(srcs, impl.Source{Name: "a", Text: text}), "a", want)
	}
}

// The types of one expression come to far more than MaxNodes nodes.
func TestManyGreatJoins(t *testing.T) {
	var srcs []impl.Source
	imports, all := "", ""
	for i, name := range []string{"b", "c", "d", "e", "g", "h"} {
		fields := fmt.Sprintf("val f:{k%d:p}->int=0;val g:{k%d:q}->int=0;", i, i)
		srcs = append(srcs, impl.Source{Name: name, Text: strings.ReplaceAll(loops(30, 31), "n:", fmt.Sprintf("n%d:", i)) + fields})
		imports += "import " + name + ";"
		if all != "" {
			all += " else "
		}
		all += fmt.Sprintf("if c then %s:f else if c then %s:g", name, name)
	}
	text := imports + "val c: ? = 0; val v: %s -> int = " + all + " else b:f;"
	for wanted, want := range map[string]string{
		"?":       "",
		"{}":      "7:8",
		"{k0: ?}": "7:8",
		"{k0: ?, k1: ?, k2: ?, k3: ?, k4: ?, k5: ?}":         "",
		"{k0: ?, k1: ?, k2: ?, k3: ?, k4: ?, k5: {n5: ?}}":   "7:8",
		"{k0: ?, k1: ?, k2: ?, k3: ?, k4: ?, k5: {n5: int}}": "7:8",
		"{k0: ?, k1: ?, k2: ?, k3: ?, k4: ?}":                "7:8",
	} {
		got := append(srcs, impl.Source{Name: "a", Text: fmt.Sprintf(text, wanted)})
		wantDiags(t, got, "a", want)
	}
}

func TestDeepExpressions(t *testing.T) {
	for text, want := range map[string]string{
		"val v: int = " + strings.Repeat("(", 480) + "1" + strings.Repeat(")", 480) + ";":                               "",
		"val v: int = " + strings.Repeat("(", 480) + "{}" + strings.Repeat(")", 480) + ";":                              "0:8",
		"val v: int = v" + strings.Repeat(" + v", 240) + ";":                                                            "",
		"val v: int = v" + strings.Repeat(" + v", 240) + " + w;":                                                        "0:7",
		"val v: ? = v" + strings.Repeat("(v)", 320) + ";":                                                               "",
		"val v: int = " + strings.Repeat("{x=", 190) + "1" + strings.Repeat("}", 190) + strings.Repeat(".x", 100) + ";": "0:8",
		"val v: int = " + strings.Repeat("{x=", 160) + "1" + strings.Repeat("}", 160) + strings.Repeat(".x", 160) + ";": "",
		"val v: ? = " + strings.Repeat("fun(x:?)", 120) + "x;":                                                          "",
		"val v: ? = " + strings.Repeat("fun(x:?)", 120) + "y;":                                                          "0:7",
		"val v: int = " + strings.Repeat("if v < 1 then v else ", 45) + "v;":                                            "",
		"val v: int = " + strings.Repeat("if v < 1 then v else ", 45) + "v < 1;":                                        "",
		"val v: int = " + strings.Repeat("if ", 50) + "true" + strings.Repeat(" then 1 else 2", 50) + ";":               "0:8",
		"val v: {} = " + strings.Repeat("{x=", 240) + "v" + strings.Repeat("}", 240) + ";":                              "",
	} {
		if len(text) > impl.MaxText {
			t.Fatalf("%d bytes: %q", len(text), text)
		}
		wantDiags(t, sources("a", text), "a", want)
	}
}
