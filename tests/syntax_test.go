package tests

import (
	"fmt"
	"reflect"
	"slices"
	"strings"
	"testing"

	"loop.example/s15618/impl"
)

func wantClasses(t *testing.T, text string, want ...any) {
	t.Helper()
	var got []any
	for _, token := range impl.Tokens(text) {
		got = append(got, token.Class, token.Text, token.At)
	}
	if !reflect.DeepEqual(got, want) {
		t.Errorf("%q is cut into %q, want %q", text, got, want)
	}
}

func TestTokensOfEachClass(t *testing.T) {
	wantClasses(t, "")
	wantClasses(t, " \n \n")
	wantClasses(t, "ab_9 val", impl.CName, "ab_9", 0, impl.CWord, "val", 5)
	wantClasses(t, "12ab", impl.CNumber, "12", 0, impl.CName, "ab", 2)
	wantClasses(t, "ab12", impl.CName, "ab12", 0)
	wantClasses(t, "_a", impl.CBad, "_", 0, impl.CName, "a", 1)
	wantClasses(t, "1_2", impl.CNumber, "1", 0, impl.CBad, "_", 1, impl.CNumber, "2", 2)
	wantClasses(t, "aBc", impl.CName, "a", 0, impl.CBad, "B", 1, impl.CName, "c", 2)
	wantClasses(t, "a.b", impl.CName, "a", 0, impl.CSign, ".", 1, impl.CName, "b", 2)
	for i, sign := range strings.Split("; : = ? { } ( ) , . + <", " ") {
		text := strings.Repeat(" ", i) + sign + sign
		wantClasses(t, text, impl.CSign, sign, i, impl.CSign, sign, i+1)
	}
	for _, word := range elevenWords {
		wantClasses(t, word, impl.CWord, word, 0)
		wantClasses(t, word+"s", impl.CName, word+"s", 0)
		wantClasses(t, word[1:], impl.CName, word[1:], 0)
	}
}

func TestTokensOfNamesAndNumbersAtTheirLimits(t *testing.T) {
	wantClasses(t, twelve, impl.CName, twelve, 0)
	wantClasses(t, thirteen, impl.CBad, thirteen, 0)
	wantClasses(t, strings.Repeat("z", 1000), impl.CBad, strings.Repeat("z", 1000), 0)
	wantClasses(t, "0", impl.CNumber, "0", 0)
	for _, bad := range []string{"00", "01", "000000000", "0123456789", "1000000000", "12345678901234567890123"} {
		wantClasses(t, bad, impl.CBad, bad, 0)
	}
	wantClasses(t, "999999999", impl.CNumber, "999999999", 0)
	wantClasses(t, "100000000", impl.CNumber, "100000000", 0)
	wantClasses(t, "0 0", impl.CNumber, "0", 0, impl.CNumber, "0", 2)
}

func TestTokensOfArrows(t *testing.T) {
	wantClasses(t, "->", impl.CSign, "->", 0)
	wantClasses(t, "-", impl.CBad, "-", 0)
	wantClasses(t, ">", impl.CBad, ">", 0)
	wantClasses(t, "- >", impl.CBad, "-", 0, impl.CBad, ">", 2)
	wantClasses(t, "-->>", impl.CBad, "-", 0, impl.CSign, "->", 1, impl.CBad, ">", 3)
	wantClasses(t, "-#\n>", impl.CBad, "-", 0, impl.CBad, ">", 3)
	wantClasses(t, "->->", impl.CSign, "->", 0, impl.CSign, "->", 2)
	wantClasses(t, "-1", impl.CBad, "-", 0, impl.CNumber, "1", 1)
}

func TestTokensOfComments(t *testing.T) {
	wantClasses(t, "a#b;c\nd", impl.CName, "a", 0, impl.CName, "d", 6)
	wantClasses(t, "a # to the end", impl.CName, "a", 0)
	wantClasses(t, "#")
	wantClasses(t, "##\n#\n\n")
	wantClasses(t, "#\xff\x00\t\r\n;", impl.CSign, ";", 6)
	wantClasses(t, "#\ra", []any(nil)...)
}

func TestTokensOfBytesThatFitNowhere(t *testing.T) {
	for c := range 256 {
		text := string([]byte{byte(c)})
		if strings.Contains(" \n#;:=?{}(),.+<", text) || c >= '0' && c <= '9' || c >= 'a' && c <= 'z' {
			continue
		}
		wantClasses(t, "1"+text+text+"a", impl.CNumber, "1", 0, impl.CBad, text, 1, impl.CBad, text, 2, impl.CName, "a", 3)
	}
	wantClasses(t, "é", impl.CBad, "\xc3", 0, impl.CBad, "\xa9", 1)
}

func TestTokensOfLongTexts(t *testing.T) {
	full := strings.Repeat("a;", 500)
	if got := impl.Tokens(full); len(got) != 1000 || got[999] != (impl.Token{Class: impl.CSign, Text: ";", At: 999}) {
		t.Errorf("a text of MaxText bytes has %d tokens", len(got))
	}
	for _, text := range []string{full + " ", full + "a", full + "#", strings.Repeat(" ", 1001), strings.Repeat("a;", 1<<20)} {
		if got := impl.Tokens(text); len(got) != 0 {
			t.Errorf("a text of %d bytes has %d tokens", len(text), len(got))
		}
		if got := parse(text); len(got) != 0 {
			t.Errorf("a text of %d bytes has %d declarations", len(text), len(got))
		}
	}
	if got := parse(full); len(got) != 500 {
		t.Errorf("a text of MaxText bytes has %d declarations", len(got))
	}
	wantModule(t, "import a;"+strings.Repeat(" ", 991), module(impl.Decl{Kind: impl.DImport, Name: "a"}))
	wantModule(t, "import a;#"+strings.Repeat("x", 990), module(impl.Decl{Kind: impl.DImport, Name: "a"}))
}

func TestTokensAgainstPattern(t *testing.T) {
	d := dice(3)
	pieces := []string{" ", "\n", "#", "->", "-", ">", ";", ":", "=", "?", "{", "}", "(", ")", ",", ".", "+", "<", "0", "00", "7", "123", "a", "zz", "_", "val", "type", "A", "\t", "\x00", "\xc3", "é", "*", twelve, "99999999"}
	for range 3000 {
		text := ""
		for range d.roll(30) {
			text += pieces[d.roll(len(pieces))]
		}
		if got, want := impl.Tokens(text), plainTokens(text); !slices.Equal(got, want) {
			t.Fatalf("%q is cut into %v, want %v", text, got, want)
		}
	}
}

func TestParseDeclarations(t *testing.T) {
	number := []impl.TItem{{Op: impl.TInt}}
	wantModule(t, "", impl.Module{})
	wantModule(t, " # nothing\n", impl.Module{})
	wantModule(t, "import a;", module(impl.Decl{Kind: impl.DImport, Name: "a"}))
	wantModule(t, "type t = int;", module(impl.Decl{Kind: impl.DType, Name: "t", Type: number}))
	wantModule(t, "val v: int = 7;", module(impl.Decl{Kind: impl.DVal, Name: "v", Type: number, Expr: []impl.EItem{{Op: impl.EInt, Num: 7}}}))
	wantModule(t, "import a;import a;type a=int;", module(impl.Decl{Kind: impl.DImport, Name: "a"}, impl.Decl{Kind: impl.DImport, Name: "a"}, impl.Decl{Kind: impl.DType, Name: "a", Type: number}))
}

func TestParseTypes(t *testing.T) {
	a, b, c := impl.TItem{Op: impl.TName, Name: "a"}, impl.TItem{Op: impl.TName, Name: "b"}, impl.TItem{Op: impl.TName, Name: "c"}
	fun := impl.TItem{Op: impl.TFun}
	row := func(names ...string) impl.TItem { return impl.TItem{Op: impl.TRec, Names: names} }
	for text, want := range map[string][]impl.TItem{
		"int":                   {{Op: impl.TInt}},
		"bool":                  {{Op: impl.TBool}},
		"?":                     {{Op: impl.TAny}},
		"a":                     {a},
		"m:a":                   {{Op: impl.TName, Mod: "m", Name: "a"}},
		"(((a)))":               {a},
		"{}":                    {row()},
		"{y: a}":                {a, row("y")},
		"{y: a, x: b -> c}":     {a, b, c, fun, row("y", "x")},
		"{y: {x: a}, x: m:b}":   {a, row("x"), {Op: impl.TName, Mod: "m", Name: "b"}, row("y", "x")},
		"a -> b":                {a, b, fun},
		"a -> b -> c":           {a, b, c, fun, fun},
		"a -> (b -> c)":         {a, b, c, fun, fun},
		"(a -> b) -> c":         {a, b, fun, c, fun},
		"{} -> {a: ?} -> (a)":   {row(), {Op: impl.TAny}, row("a"), a, fun, fun},
		"{" + twelve + ": int}": {{Op: impl.TInt}, row(twelve)},
		"{a: {a: a}}":           {a, row("a"), row("a")},
	} {
		wantModule(t, "type t = "+text+";", module(typeDecl(want...)))
		wantModule(t, "val v: "+text+" = 1;", module(impl.Decl{Kind: impl.DVal, Name: "v", Type: want, Expr: []impl.EItem{{Op: impl.EInt, Num: 1}}}))
		wantModule(t, "val v: ? = fun(x: "+text+") 1;", module(valDecl(impl.EItem{Op: impl.EInt, Num: 1}, impl.EItem{Op: impl.EFun, Name: "x", Type: want})))
	}
}

func TestParseExpressions(t *testing.T) {
	name := func(s string) impl.EItem { return impl.EItem{Op: impl.EName, Name: s} }
	get := func(s string) impl.EItem { return impl.EItem{Op: impl.EGet, Name: s} }
	row := func(names ...string) impl.EItem { return impl.EItem{Op: impl.ERec, Names: names} }
	fun := impl.EItem{Op: impl.EFun, Name: "x", Type: []impl.TItem{{Op: impl.TInt}}}
	a, b, c, d := name("a"), name("b"), name("c"), name("d")
	call, choice, add, less := impl.EItem{Op: impl.ECall}, impl.EItem{Op: impl.EIf}, impl.EItem{Op: impl.EAdd}, impl.EItem{Op: impl.ELess}
	for text, want := range map[string][]impl.EItem{
		"0":                          {{Op: impl.EInt}},
		"999999999":                  {{Op: impl.EInt, Num: 999999999}},
		"true":                       {{Op: impl.EBool, Num: 1}},
		"false":                      {{Op: impl.EBool}},
		"a":                          {a},
		"m:a":                        {{Op: impl.EName, Mod: "m", Name: "a"}},
		"((a))":                      {a},
		"{}":                         {row()},
		"{y = a}":                    {a, row("y")},
		"{y = a, x = b < c}":         {a, b, c, less, row("y", "x")},
		"{a = {a = a}}":              {a, row("a"), row("a")},
		"a.b":                        {a, get("b")},
		"a.b.c":                      {a, get("b"), get("c")},
		"m:a.b":                      {{Op: impl.EName, Mod: "m", Name: "a"}, get("b")},
		"1.b":                        {{Op: impl.EInt, Num: 1}, get("b")},
		"{}.b":                       {row(), get("b")},
		"a(b)":                       {a, b, call},
		"a(b)(c)":                    {a, b, call, c, call},
		"a(b(c))":                    {a, b, c, call, call},
		"a(b).c(d)":                  {a, b, call, get("c"), d, call},
		"(a)(b)":                     {a, b, call},
		"true(1)":                    {{Op: impl.EBool, Num: 1}, {Op: impl.EInt, Num: 1}, call},
		"a + b":                      {a, b, add},
		"a + b + c":                  {a, b, add, c, add},
		"a + (b + c)":                {a, b, c, add, add},
		"a + b(c).d":                 {a, b, c, call, get("d"), add},
		"a < b":                      {a, b, less},
		"a + b < c + d":              {a, b, add, c, d, add, less},
		"(a < b) < c":                {a, b, less, c, less},
		"a < (b < c)":                {a, b, c, less, less},
		"a + (b < c)":                {a, b, c, less, add},
		"fun(x: int) a":              {a, fun},
		"fun(x: int) a + b < c":      {a, b, add, c, less, fun},
		"fun(x: int) fun(x: int) a":  {a, fun, fun},
		"(fun(x: int) a)(b)":         {a, fun, b, call},
		"if a then b else c":         {a, b, c, choice},
		"if a then b else c + d":     {a, b, c, d, add, choice},
		"(if a then b else c) + d":   {a, b, c, choice, d, add},
		"if a then b else c < d":     {a, b, c, d, less, choice},
		"a(if a then b else c)":      {a, a, b, c, choice, call},
		"{x = fun(x: int) a, y = b}": {a, fun, b, row("x", "y")},
		"if if a then b else c then d else fun(x: int) if a then b else c": {a, b, c, choice, d, a, b, c, choice, fun, choice},
		"if a then if b then c else d else a":                              {a, b, c, d, choice, a, choice},
	} {
		wantModule(t, "val v: ? = "+text+";", module(valDecl(want...)))
	}
}

// badPieces are of no form; those of them that could be so at another place or
// with one token more or less say which rule they break.
var badPieces = []string{
	"", "a", "1", "import", "import 1", "import a b", "import a:b", "import (a)", "importa", "imports a", "import a.b", "Import a",
	"import " + thirteen, "type " + thirteen + " = int", "val " + thirteen + ": int = 1",
	"type", "type t", "type t =", "type = int", "type t int", "type t: int", "type t == int", "type t = int int", "type t = int =", "type m:t = int",
	"type t = 1", "type t = true", "type t = ??", "type t = -> int", "type t = int ->", "type t = int -> -> int", "type t = int - > int", "type t = int > int", "type t = int - int",
	"type t = ()", "type t = (int", "type t = int)", "type t = (int))", "type t = (int)(int)", "type t = ((int)",
	"type t = a:", "type t = :a", "type t = a:b:c", "type t = (a):b", "type t = a:(b)", "type t = a:int", "type t = int:a", "type t = a.b",
	"type t = {", "type t = }", "type t = {a}", "type t = {a:}", "type t = {a: int", "type t = {a: int,}", "type t = {,a: int}", "type t = {,}", "type t = {a: int b: int}", "type t = {a: int,, b: int}",
	"type t = {a = int}", "type t = {1: int}", "type t = {int: int}", "type t = {m:a: int}", "type t = {a: int}}", "type t = {a: int, a: int}", "type t = {a: int, b: int, a: ?}", "type t = {b: {a: int, a: int}}", "type t = {(a: int)}",
	"type t = {" + thirteen + ": int}", "type t = " + thirteen, "type t = a:" + thirteen, "type t = " + thirteen + ":a",
	"val", "val v", "val v = 1", "val v: int", "val v: int =", "val v int = 1", "val v: = 1", "val: int = 1", "val v: int = 1 1", "val v: int = = 1", "val v:: int = 1", "val v: int == 1", "val m:v: int = 1", "val v: {a: int, a: int} = 1",
	"val v: int = int", "val v: int = ?", "val v: int = type", "val v: int = 01", "val v: int = 00", "val v: int = 1000000000", "val v: int = -1", "val v: int = 1 - 1", "val v: int = 1a", "val v: int = a b",
	"val v: int = a:", "val v: int = :a", "val v: int = a:b:c", "val v: int = a:1", "val v: int = (a):b", "val v: int = 1:a", "val v: int = a:" + thirteen,
	"val v: int = .a", "val v: int = a.", "val v: int = a.1", "val v: int = a.b:c", "val v: int = a..b", "val v: int = a.(b)", "val v: int = a.if", "val v: int = a." + thirteen,
	"val v: int = ()", "val v: int = a()", "val v: int = (a", "val v: int = a)", "val v: int = a(b", "val v: int = a(b))", "val v: int = a(b, c)", "val v: int = a{}",
	"val v: int = {", "val v: int = {a}", "val v: int = {a: 1}", "val v: int = {a =}", "val v: int = {a = 1,}", "val v: int = {,}", "val v: int = {a = 1 b = 1}", "val v: int = {a = 1, a = 1}", "val v: int = {a = 1, b = 1, a = 1}", "val v: int = {b = {a = 1, a = 1}}", "val v: int = {a = 1}}", "val v: int = {1 = 1}", "val v: int = {val = 1}", "val v: int = {m:a = 1}", "val v: int = {a == 1}", "val v: int = {" + thirteen + " = 1}",
	"val v: int = + 1", "val v: int = 1 +", "val v: int = 1 + + 1", "val v: int = < 1", "val v: int = 1 <", "val v: int = 1 < 1 < 1", "val v: int = 1 + 1 < 1 < 1", "val v: int = 1 < < 1",
	"val v: int = 1 + fun(x: int) 1", "val v: int = 1 + if a then b else c", "val v: int = 1 < fun(x: int) 1", "val v: int = 1 < if a then b else c",
	"val v: int = fun", "val v: int = fun(x: int)", "val v: int = fun(x) 1", "val v: int = fun() 1", "val v: int = fun x: int 1", "val v: int = fun(x: int 1", "val v: int = fun(x: int, y: int) 1", "val v: int = fun(x: ) 1", "val v: int = fun(1: int) 1", "val v: int = fun(m:x: int) 1", "val v: int = fun(x = int) 1", "val v: int = fun((x: int)) 1", "val v: int = fun(fun: int) 1", "val v: int = fun(" + thirteen + ": int) 1", "val v: int = fun(x: {a: int, a: int}) 1", "val v: int = fun(x: 1) 1",
	"val v: int = if", "val v: int = if a", "val v: int = if a then b else", "val v: int = if then b else c", "val v: int = if a else c", "val v: int = if a then else c", "val v: int = if a b else c", "val v: int = if a then b c", "val v: int = if a then b", "val v: int = if a then b else c else d", "val v: int = if a then if b then c else d", "val v: int = then", "val v: int = else",
	"val v: int = a\t", "val v: int = a\r", "val v: int = a\x00", "val v: int = é", "val v: int = a * b", "val v: int = a -> b", "val v: int = \"a\"", "val v: int = A", "val v: int = a > b", "val v: int = a = b",
}

func TestParseBadPieces(t *testing.T) {
	for _, bad := range badPieces {
		wantModule(t, bad+";", module(impl.Decl{}))
		wantModule(t, "import a;"+bad+";import b;", module(impl.Decl{Kind: impl.DImport, Name: "a"}, impl.Decl{}, impl.Decl{Kind: impl.DImport, Name: "b"}))
	}
	for _, word := range elevenWords {
		for _, form := range []string{"import %s", "type %s = a", "val %s: a = 1", "type t = {%s: a}", "type t = m:%s", "type t = %s:a", "val v: a = {%s = 1}", "val v: a = a.%s", "val v: a = m:%s", "val v: a = %s:a", "val v: a = fun(%s: a) a"} {
			text := fmt.Sprintf(form, word) + ";"
			wantModule(t, text, module(impl.Decl{}))
			if good := fmt.Sprintf(form, word+"_") + ";"; parse(good)[0].Kind == impl.DBad {
				t.Errorf("%q is bad", good)
			}
			if bad := fmt.Sprintf(form, thirteen) + ";"; parse(bad)[0].Kind != impl.DBad {
				t.Errorf("%q is not bad", bad)
			}
			if good := fmt.Sprintf(form, twelve) + ";"; parse(good)[0].Kind == impl.DBad {
				t.Errorf("%q is bad", good)
			}
		}
	}
}

func TestParseEmptyAndLastPieces(t *testing.T) {
	bad, good := impl.Decl{}, impl.Decl{Kind: impl.DImport, Name: "a"}
	wantModule(t, ";", module(bad))
	wantModule(t, ";;", module(bad, bad))
	wantModule(t, " ; # x\n ; ", module(bad, bad))
	wantModule(t, "import a", module(bad))
	wantModule(t, "import a;import a", module(good, bad))
	wantModule(t, "import a; -", module(good, bad))
	wantModule(t, "import a; # no more", module(good))
	wantModule(t, "import a #;", module(bad))
	wantModule(t, "import a #;\n;", module(good))
	wantModule(t, "import a;;", module(good, bad))
}

// Promise 6.
func TestSpacesAndCommentsSayNothing(t *testing.T) {
	d := dice(11)
	for round := range 1500 {
		var tokens []impl.Token
		for range d.roll(4) {
			tokens = append(tokens, someTokens(&d, round%3)...)
			tokens = append(tokens, impl.Token{Class: impl.CSign, Text: ";"})
		}
		first, second := spaced(&d, tokens), spaced(&d, tokens)
		if len(first) > impl.MaxText || len(second) > impl.MaxText {
			continue
		}
		if !slices.Equal(textsOf(impl.Tokens(first)), textsOf(tokens)) || !slices.Equal(textsOf(impl.Tokens(second)), textsOf(tokens)) {
			t.Fatalf("%q and %q have other tokens than %v", first, second, textsOf(tokens))
		}
		if !equalModules(impl.ParseModule(first), impl.ParseModule(second)) {
			t.Fatalf("%q and %q give different modules", first, second)
		}
	}
}

// Promise 7.
func TestBadPiecesHarmNoOther(t *testing.T) {
	d := dice(12)
	for range 1000 {
		text := ""
		var want impl.Module
		for range d.roll(6) {
			piece := badPieces[d.roll(len(badPieces))]
			if d.roll(2) > 0 {
				piece = spaced(&d, someTokens(&d, d.roll(2))) + "\n"
			}
			alone := parse(piece + ";")
			if len(alone) != 1 {
				t.Fatalf("%q has %d declarations", piece, len(alone))
			}
			text += piece + ";"
			want.Decls = append(want.Decls, alone[0])
		}
		if d.roll(2) > 0 {
			text += "import a"
			want.Decls = append(want.Decls, impl.Decl{})
		}
		if len(text) <= impl.MaxText {
			wantModule(t, text, want)
		}
	}
}

func TestParseAgainstGrammar(t *testing.T) {
	d := dice(13)
	good := 0
	for round := range 6000 {
		if wantByGrammar(t, &d, someTokens(&d, round%4)) {
			good++
		}
	}
	if good < 1000 || good > 5000 {
		t.Errorf("%d good pieces of 6000 are too few or too many", good)
	}
}

// Every piece that one token makes of a good one, by its lack, by coming twice
// or by standing elsewhere, is good exactly if the grammar can give it.
func TestParseNearTheGrammar(t *testing.T) {
	pieces := []string{"import a"}
	for _, of := range printedTypes {
		pieces = append(pieces, "type t = "+of)
	}
	for _, is := range printedExprs {
		pieces = append(pieces, "val v: ? = "+is)
	}
	d := dice(14)
	for _, piece := range pieces {
		tokens := plainTokens(piece)
		for at, token := range tokens {
			without := slices.Delete(slices.Clone(tokens), at, at+1)
			wantByGrammar(t, &d, without)
			for to := range tokens {
				wantByGrammar(t, &d, slices.Insert(slices.Clone(tokens), to, token))
				wantByGrammar(t, &d, slices.Insert(slices.Clone(without), min(to, len(without)), token))
			}
		}
	}
}

// wantByGrammar says whether the piece of these tokens is good, and looks
// whether it is so in the program.
func wantByGrammar(t *testing.T, d *dice, tokens []impl.Token) bool {
	t.Helper()
	text := spaced(d, tokens) + "\n;"
	if len(text) > impl.MaxText {
		return false
	}
	m, want := impl.ParseModule(text), fitsGrammar(tokens)
	if len(m.Decls) != 1 || want != (m.Decls[0].Kind != impl.DBad) {
		t.Fatalf("%q gives %v", text, m)
	}
	if !want {
		wantModule(t, text, module(impl.Decl{}))
		return false
	}
	printed, ok := plainPrint{asNeeded}.module(m)
	if !ok || !slices.Equal(withoutBrackets(plainTokens(printed)), withoutBrackets(plainTokens(text))) {
		t.Fatalf("%q gives what prints as %q", text, printed)
	}
	return true
}

// Brackets that are not needed leave no item.
func TestNeedlessBrackets(t *testing.T) {
	manyModules(7, func(d *dice, m impl.Module) {
		loose, ok := plainPrint{func(needed bool) bool { return needed || d.roll(4) == 0 }}.module(m)
		if ok && len(loose) <= impl.MaxText {
			wantModule(t, loose, m)
		}
	})
}

func TestParseDeepTexts(t *testing.T) {
	for _, c := range []struct {
		ahead, open, mid, shut, behind string
		kind                           int
	}{
		{"type t = ", "(", "int", ")", ";", impl.DType},
		{"type t = ", "{a:", "int", "}", ";", impl.DType},
		{"type t = ", "int->", "int", "", ";", impl.DType},
		{"type t = ", "(", "int", "->?)", ";", impl.DType},
		{"val v: ? = ", "(", "a", ")", ";", impl.DVal},
		{"val v: ? = ", "{a=", "a", "}", ";", impl.DVal},
		{"val v: ? = ", "a(", "a", ")", ";", impl.DVal},
		{"val v: ? = ", "", "a", ".a", ";", impl.DVal},
		{"val v: ? = ", "", "a", "(a)", ";", impl.DVal},
		{"val v: ? = ", "", "a", "+a", ";", impl.DVal},
		{"val v: ? = ", "a<(", "a", ")", ";", impl.DVal},
		{"val v: ? = ", "fun(a:?)", "a", "", ";", impl.DVal},
		{"val v: ? = ", "if a then b else ", "a", "", ";", impl.DVal},
		{"val v: ? = ", "if ", "a", " then a else a", ";", impl.DVal},
		{"type t = ", "(", "int", "", ";", impl.DBad},
		{"type t = ", "{a:", "", "", ";", impl.DBad},
		{"val v: ? = ", "(", "a", "", ";", impl.DBad},
		{"val v: ? = ", "if ", "a", "", ";", impl.DBad},
		{"val v: ? = ", "{a=", "", "", ";", impl.DBad},
		{"val v: ? = ", "", "a", ")", ";", impl.DBad},
	} {
		n := (impl.MaxText - len(c.ahead+c.mid+c.behind)) / len(c.open+c.shut)
		text := c.ahead + strings.Repeat(c.open, n) + c.mid + strings.Repeat(c.shut, n) + c.behind
		text += strings.Repeat(" ", impl.MaxText-len(text))
		m := impl.ParseModule(text)
		if len(m.Decls) != 1 || m.Decls[0].Kind != c.kind {
			t.Errorf("%.40q gives %v", text, m)
		}
		if c.kind == impl.DBad {
			wantModule(t, text, module(impl.Decl{}))
		} else if printed, ok := (plainPrint{asNeeded}).module(m); !ok || !slices.Equal(withoutBrackets(plainTokens(printed)), withoutBrackets(plainTokens(text))) {
			t.Errorf("%.40q gives what prints as %q", text, printed)
		}
	}
}

func TestParsedListsAreApart(t *testing.T) {
	text := "type t = {a: {b: int}, c: {d: ?}}; type u = {a: {b: int}, c: {d: ?}}; val v: {x: int} -> {} = fun(x: {a: {b: int}}) fun(y: {a: {b: int}}) {p = {q = x}, r = {q = y}}; val w: t = v({x = 1}).p; val"
	wantApart(t, impl.ParseModule(text), impl.ParseModule(text), impl.Tokens(text), impl.Tokens(text))
	manyModules(7, func(d *dice, m impl.Module) {
		if text, ok := plainText(m); ok {
			wantApart(t, m, impl.ParseModule(text))
			wantNewTexts(t, text, impl.ParseModule(text))
			wantNewTexts(t, text, impl.Tokens(text))
		}
	})
}
