package tests

import (
	"cmp"
	"fmt"
	"reflect"
	"regexp"
	"slices"
	"strings"
	"testing"
	"unsafe"

	"loop.example/s15618/impl"
)

var elevenWords = []string{"import", "type", "val", "fun", "if", "then", "else", "int", "bool", "true", "false"}

const (
	twelve   = "a23456789_bc"
	thirteen = "a23456789_bcd"
)

func parse(text string) []impl.Decl {
	return impl.ParseModule(text).Decls
}

func module(decls ...impl.Decl) impl.Module {
	return impl.Module{Decls: decls}
}

func typeDecl(items ...impl.TItem) impl.Decl {
	return impl.Decl{Kind: impl.DType, Name: "t", Type: items}
}

func valDecl(items ...impl.EItem) impl.Decl {
	return impl.Decl{Kind: impl.DVal, Name: "v", Type: []impl.TItem{{Op: impl.TAny}}, Expr: items}
}

// copyList makes the nil list of an empty one, so that copies can be held
// against each other.
func copyList[T any](list []T, one func(T) T) []T {
	var out []T
	for _, x := range list {
		out = append(out, one(x))
	}
	return out
}

func copyText(s string) string { return strings.Clone(s) }

func copyTItem(x impl.TItem) impl.TItem {
	x.Names = copyList(x.Names, copyText)
	return x
}

func copyEItem(x impl.EItem) impl.EItem {
	x.Names, x.Type = copyList(x.Names, copyText), copyList(x.Type, copyTItem)
	return x
}

func copyDecl(x impl.Decl) impl.Decl {
	x.Type, x.Expr = copyList(x.Type, copyTItem), copyList(x.Expr, copyEItem)
	return x
}

func copyModule(m impl.Module) impl.Module {
	return impl.Module{Decls: copyList(m.Decls, copyDecl)}
}

func equalModules(a impl.Module, b impl.Module) bool {
	return reflect.DeepEqual(copyModule(a), copyModule(b))
}

func wantModule(t *testing.T, text string, want impl.Module) {
	t.Helper()
	if got := impl.ParseModule(text); !equalModules(got, want) {
		t.Errorf("%q gives %v, want %v", text, got, want)
	}
}

// span is the memory of a list, with the room behind it.
type span struct{ from, to uintptr }

func spansOf(v reflect.Value) []span {
	var out []span
	switch v.Kind() {
	case reflect.Struct:
		for i := range v.NumField() {
			out = append(out, spansOf(v.Field(i))...)
		}
	case reflect.Slice:
		if v.Cap() > 0 {
			out = append(out, span{v.Pointer(), v.Pointer() + uintptr(v.Cap())*v.Type().Elem().Size()})
		}
		for i := range v.Len() {
			out = append(out, spansOf(v.Index(i))...)
		}
	}
	return out
}

// wantApart looks whether any two lists in the values share memory.
func wantApart(t *testing.T, values ...any) {
	t.Helper()
	var all []span
	for _, v := range values {
		all = append(all, spansOf(reflect.ValueOf(v))...)
	}
	slices.SortFunc(all, func(a, b span) int { return cmp.Compare(a.from, b.from) })
	for i := 1; i < len(all); i++ {
		if all[i].from < all[i-1].to {
			t.Fatalf("two lists share memory in %v", values)
		}
	}
}

var tokenPattern = regexp.MustCompile(`[ \n]|#[^\n]*|([a-z][a-z0-9_]*)|([0-9]+)|(->|[;:=?{}(),.+<])|(?s:.)`)

// textsIn are all texts in a value that are not empty.
func textsIn(v reflect.Value) []string {
	var out []string
	switch v.Kind() {
	case reflect.String:
		if v.Len() > 0 {
			out = append(out, v.String())
		}
	case reflect.Struct:
		for i := range v.NumField() {
			out = append(out, textsIn(v.Field(i))...)
		}
	case reflect.Slice:
		for i := range v.Len() {
			out = append(out, textsIn(v.Index(i))...)
		}
	}
	return out
}

// wantNewTexts looks whether a text in the answer is a piece of the argument.
func wantNewTexts(t *testing.T, argument string, answer any) {
	t.Helper()
	from := uintptr(unsafe.Pointer(unsafe.StringData(argument)))
	for _, text := range textsIn(reflect.ValueOf(answer)) {
		if at := uintptr(unsafe.Pointer(unsafe.StringData(text))); at >= from && at < from+uintptr(len(argument)) {
			t.Fatalf("the text %q shares memory with the argument", text)
		}
	}
}

// plainTokens cuts a text by a pattern that says what a token is.
func plainTokens(text string) []impl.Token {
	var wide []rune // a rune for each byte, since the pattern reads runes
	for _, c := range []byte(text) {
		wide = append(wide, rune(c))
	}
	var out []impl.Token
	at := 0
	for _, m := range tokenPattern.FindAllStringSubmatch(string(wide), -1) {
		size := len([]rune(m[0]))
		token := impl.Token{Text: text[at : at+size], At: at}
		at += size
		switch {
		case m[1] != "" && slices.Contains(elevenWords, m[1]):
			token.Class = impl.CWord
		case m[1] != "" && size <= 12:
			token.Class = impl.CName
		case m[2] == "0" || m[2] != "" && m[2][0] != '0' && size <= 9:
			token.Class = impl.CNumber
		case m[3] != "":
			token.Class = impl.CSign
		case m[0] == " " || m[0] == "\n" || m[0][0] == '#':
			continue
		}
		out = append(out, token)
	}
	return out
}

// fits says whether the tokens of a piece are of a form of the grammar, by
// following every way to read them.
type fits struct {
	tokens []impl.Token
	known  map[string][]int
}

func fitsGrammar(tokens []impl.Token) bool {
	f := &fits{tokens: tokens, known: map[string][]int{}}
	return slices.Contains(f.ends("decl", 0), len(tokens))
}

var grammar = map[string][]string{
	"decl": {"'import NAME", "'type NAME '= type", "'val NAME ': type '= expr"},
	"type": {"base", "base '-> type"},
	"base": {"'int", "'bool", "'?", "NAME", "NAME ': NAME", "'{ '}", "TFIELDS", "'( type ')"},
	"expr": {"'fun '( NAME ': type ') expr", "'if expr 'then expr 'else expr", "sum", "sum '< sum"},
	"sum":  {"post", "post '+ sum"},
	"post": {"atom", "atom tail"},
	"tail": {"'. NAME", "'( expr ')", "'. NAME tail", "'( expr ') tail"},
	"atom": {"NUMBER", "'true", "'false", "NAME", "NAME ': NAME", "'{ '}", "EFIELDS", "'( expr ')"},
}

// ends are the places at which what is asked for can end if it begins at at.
func (f *fits) ends(what string, at int) []int {
	switch {
	case what == "TFIELDS":
		return f.fields("type", ":", at+1, nil, f.is(at, "{"))
	case what == "EFIELDS":
		return f.fields("expr", "=", at+1, nil, f.is(at, "{"))
	case what[0] == '\'' && f.is(at, what[1:]),
		what == "NAME" && at < len(f.tokens) && f.tokens[at].Class == impl.CName,
		what == "NUMBER" && at < len(f.tokens) && f.tokens[at].Class == impl.CNumber:
		return []int{at + 1}
	}
	key := fmt.Sprint(what, at)
	if ends, ok := f.known[key]; ok {
		return ends
	}
	var out []int
	for _, row := range grammar[what] {
		places := []int{at}
		for _, part := range strings.Fields(row) {
			var next []int
			for _, place := range places {
				next = append(next, f.ends(part, place)...)
			}
			slices.Sort(next)
			places = slices.Compact(next)
		}
		out = append(out, places...)
	}
	slices.Sort(out)
	f.known[key] = slices.Compact(out)
	return f.known[key]
}

func (f *fits) is(at int, text string) bool {
	return at < len(f.tokens) && f.tokens[at].Text == text
}

func (f *fits) fields(part string, sign string, at int, names []string, ok bool) []int {
	if !ok || at >= len(f.tokens) || f.tokens[at].Class != impl.CName || !f.is(at+1, sign) || slices.Contains(names, f.tokens[at].Text) {
		return nil
	}
	var out []int
	names = append(slices.Clone(names), f.tokens[at].Text)
	for _, end := range f.ends(part, at+2) {
		if f.is(end, "}") {
			out = append(out, end+1)
		}
		out = append(out, f.fields(part, sign, end+1, names, f.is(end, ","))...)
	}
	return out
}

// plainPrint prints by the document's patterns, from the end of each list. It
// puts a part in brackets where bracket says so of whether they are needed.
type plainPrint struct {
	bracket func(needed bool) bool
}

func asNeeded(needed bool) bool { return needed }

// plainText is the printed text, and whether the module is valid.
func plainText(m impl.Module) (string, bool) {
	text, ok := plainPrint{asNeeded}.module(m)
	return text, ok && len(text) <= impl.MaxText
}

func (p plainPrint) module(m impl.Module) (text string, ok bool) {
	defer func() {
		if recover() != nil {
			text, ok = "", false
		}
	}()
	for _, d := range m.Decls {
		demand(plainName(d.Name))
		switch d.Kind {
		case impl.DImport:
			demand(len(d.Type) == 0 && len(d.Expr) == 0)
			text += "import " + d.Name + ";\n"
		case impl.DType:
			demand(len(d.Expr) == 0)
			text += "type " + d.Name + " = " + p.wholeType(d.Type) + ";\n"
		case impl.DVal:
			text += "val " + d.Name + ": " + p.wholeType(d.Type) + " = " + p.wholeExpr(d.Expr) + ";\n"
		default:
			demand(false)
		}
	}
	return text, true
}

func demand(ok bool) {
	if !ok {
		panic("not valid")
	}
}

var nameForm = regexp.MustCompile(`^[a-z][a-z0-9_]{0,11}\z`)

func plainName(s string) bool {
	return nameForm.MatchString(s) && !slices.Contains(elevenWords, s)
}

func plainNames(names []string, mod string, name string) {
	demand(mod == "" && name == "")
	for i, x := range names {
		demand(plainName(x) && !slices.Contains(names[:i], x))
	}
}

func plainPath(mod string, name string) string {
	demand(plainName(name))
	if mod == "" {
		return name
	}
	demand(plainName(mod))
	return mod + ":" + name
}

func (p plainPrint) around(text string, level int, need int) string {
	if p.bracket(level < need) {
		return "(" + text + ")"
	}
	return text
}

func (p plainPrint) wholeType(items []impl.TItem) string {
	text, level, start := p.typeAt(items, len(items))
	demand(start == 0)
	return p.around(text, level, 0)
}

// typeAt prints the type that ends ahead of end.
func (p plainPrint) typeAt(items []impl.TItem, end int) (text string, level int, start int) {
	demand(end > 0)
	x, at := items[end-1], end-1
	part := func(need int) string {
		text, level, start := p.typeAt(items, at)
		at = start
		return p.around(text, level, need)
	}
	if x.Op != impl.TName && x.Op != impl.TRec {
		demand(x.Mod == "" && x.Name == "" && len(x.Names) == 0)
	}
	switch x.Op {
	case impl.TInt:
		return "int", 1, at
	case impl.TBool:
		return "bool", 1, at
	case impl.TAny:
		return "?", 1, at
	case impl.TName:
		demand(len(x.Names) == 0)
		return plainPath(x.Mod, x.Name), 1, at
	case impl.TRec:
		plainNames(x.Names, x.Mod, x.Name)
		var fields []string
		for i := len(x.Names) - 1; i >= 0; i-- {
			fields = slices.Insert(fields, 0, x.Names[i]+": "+part(0))
		}
		return "{" + strings.Join(fields, ", ") + "}", 1, at
	case impl.TFun:
		result := part(0)
		argument := part(1)
		return argument + " -> " + result, 0, at
	}
	panic("no such type")
}

func (p plainPrint) wholeExpr(items []impl.EItem) string {
	text, level, start := p.exprAt(items, len(items))
	demand(start == 0)
	return p.around(text, level, 0)
}

func (p plainPrint) exprAt(items []impl.EItem, end int) (text string, level int, start int) {
	demand(end > 0)
	x, at := items[end-1], end-1
	part := func(need int) string {
		text, level, start := p.exprAt(items, at)
		at = start
		return p.around(text, level, need)
	}
	demand(x.Num == 0 || x.Op == impl.EInt || x.Op == impl.EBool)
	demand(x.Mod == "" || x.Op == impl.EName)
	demand(x.Name == "" || x.Op == impl.EName || x.Op == impl.EGet || x.Op == impl.EFun)
	demand(len(x.Names) == 0 || x.Op == impl.ERec)
	demand(len(x.Type) == 0 || x.Op == impl.EFun)
	switch x.Op {
	case impl.EInt:
		demand(x.Num >= 0 && x.Num <= 999999999)
		return fmt.Sprint(x.Num), 4, at
	case impl.EBool:
		demand(x.Num == 0 || x.Num == 1)
		return fmt.Sprint(x.Num == 1), 4, at
	case impl.EName:
		return plainPath(x.Mod, x.Name), 4, at
	case impl.ERec:
		plainNames(x.Names, x.Mod, x.Name)
		var fields []string
		for i := len(x.Names) - 1; i >= 0; i-- {
			fields = slices.Insert(fields, 0, x.Names[i]+" = "+part(0))
		}
		return "{" + strings.Join(fields, ", ") + "}", 4, at
	case impl.EGet:
		demand(plainName(x.Name))
		return part(3) + "." + x.Name, 3, at
	case impl.EFun:
		demand(plainName(x.Name))
		return "fun(" + x.Name + ": " + p.wholeType(x.Type) + ") " + part(0), 0, at
	case impl.ECall:
		argument := part(0)
		return part(3) + "(" + argument + ")", 3, at
	case impl.EIf:
		c, b := part(0), ""
		b = part(0)
		return "if " + part(0) + " then " + b + " else " + c, 0, at
	case impl.EAdd:
		right := part(3)
		return part(2) + " + " + right, 2, at
	case impl.ELess:
		right := part(2)
		return part(2) + " < " + right, 1, at
	}
	panic("no such expression")
}

var someNames = []string{"a", "b", "x", "y1", "m_", "next", "valx", twelve}

func someName(d *dice) string {
	return someNames[d.roll(len(someNames))]
}

func someMod(d *dice) string {
	if d.roll(3) > 0 {
		return ""
	}
	return someName(d)
}

func someRow(d *dice) []string {
	var names []string
	for range d.roll(4) {
		if name := someName(d); !slices.Contains(names, name) {
			names = append(names, name)
		}
	}
	return names
}

func someType(d *dice, depth int) []impl.TItem {
	kind := d.roll(9)
	if depth == 0 {
		kind = d.roll(5)
	}
	var items []impl.TItem
	switch {
	case kind < 3:
		return []impl.TItem{{Op: impl.TInt + kind}}
	case kind < 5:
		return []impl.TItem{{Op: impl.TName, Mod: someMod(d), Name: someName(d)}}
	case kind < 7:
		names := someRow(d)
		for range names {
			items = append(items, someType(d, depth-1)...)
		}
		return append(items, impl.TItem{Op: impl.TRec, Names: names})
	}
	return slices.Concat(someType(d, depth-1), someType(d, depth-1), []impl.TItem{{Op: impl.TFun}})
}

func someExpr(d *dice, depth int) []impl.EItem {
	op := impl.EInt + d.roll(10)
	if depth == 0 {
		op = impl.EInt + d.roll(3)
	}
	item := impl.EItem{Op: op}
	parts := 2
	switch op {
	case impl.EInt:
		item.Num, parts = []int{0, 1, 10, 42, 999999999}[d.roll(5)], 0
	case impl.EBool:
		item.Num, parts = d.roll(2), 0
	case impl.EName:
		item.Mod, item.Name, parts = someMod(d), someName(d), 0
	case impl.ERec:
		item.Names = someRow(d)
		parts = len(item.Names)
	case impl.EGet:
		item.Name, parts = someName(d), 1
	case impl.EFun:
		item.Name, item.Type, parts = someName(d), someType(d, 1), 1
	case impl.EIf:
		parts = 3
	}
	var items []impl.EItem
	for range parts {
		items = append(items, someExpr(d, depth-1)...)
	}
	return append(items, item)
}

func someDecl(d *dice) impl.Decl {
	decl := impl.Decl{Kind: impl.DImport + d.roll(3), Name: someName(d)}
	if decl.Kind != impl.DImport {
		decl.Type = someType(d, d.roll(4))
	}
	if decl.Kind == impl.DVal {
		decl.Expr = someExpr(d, d.roll(5))
	}
	return decl
}

// manyModules calls look with modules that are valid but for their size.
func manyModules(seed dice, look func(d *dice, m impl.Module)) {
	d := seed
	for round := range 600 {
		var m impl.Module
		for range round % 5 {
			m.Decls = append(m.Decls, someDecl(&d))
		}
		look(&d, m)
	}
}

// spaced writes the tokens with other bytes between them that say nothing.
func spaced(d *dice, tokens []impl.Token) string {
	gaps := []string{" ", "\n", "  \n", "#\n", " # type t = int; -> \xff\x00\n", "#a#b\n "}
	var out strings.Builder
	for i, t := range tokens {
		aside := i > 0 && (t.Class == impl.CSign || tokens[i-1].Class == impl.CSign)
		if !aside || d.roll(2) > 0 {
			out.WriteString(gaps[d.roll(len(gaps))])
		}
		out.WriteString(t.Text)
	}
	return out.String() + []string{"", " ", "\n", "#", "# ;"}[d.roll(5)]
}

func textsOf(tokens []impl.Token) []string {
	var out []string
	for _, t := range tokens {
		out = append(out, fmt.Sprint(t.Class, " ", t.Text))
	}
	return out
}

func withoutBrackets(tokens []impl.Token) []string {
	return slices.DeleteFunc(textsOf(tokens), func(s string) bool { return strings.HasSuffix(s, "(") || strings.HasSuffix(s, ")") })
}

// someTokens is a piece that is near to the grammar: a declaration's tokens
// with a few of them struck out, doubled, changed or set elsewhere.
func someTokens(d *dice, changes int) []impl.Token {
	text, _ := plainPrint{func(needed bool) bool { return needed || d.roll(8) == 0 }}.module(module(someDecl(d)))
	tokens := plainTokens(text)
	tokens = tokens[:len(tokens)-1]
	all := plainTokens("import type val fun if then else int bool true false a b x : = ? { } ( ) , . + < -> 0 12 01 1234567890 - A " + thirteen)
	for range changes {
		if len(tokens) == 0 {
			break
		}
		at := d.roll(len(tokens))
		switch d.roll(4) {
		case 0:
			tokens = slices.Delete(tokens, at, at+1)
		case 1:
			tokens = slices.Insert(tokens, at, tokens[d.roll(len(tokens))])
		case 2:
			tokens[at] = all[d.roll(len(all))]
		case 3:
			to := d.roll(len(tokens))
			tokens[at], tokens[to] = tokens[to], tokens[at]
		}
	}
	return tokens
}
