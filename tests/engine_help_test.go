package tests

import (
	"fmt"
	"slices"
	"strconv"
	"strings"
	"testing"

	"loop.example/s15618/impl"
)

func ask(name string) impl.Event { return impl.Event{Kind: impl.EvAsk, Name: name} }

func edit(name string, text string) impl.Event {
	return impl.Event{Kind: impl.EvEdit, Name: name, Text: text}
}

func drop(name string) impl.Event { return impl.Event{Kind: impl.EvDrop, Name: name} }

func pickOf(worker int) impl.Event { return impl.Event{Kind: impl.EvPick, Worker: worker} }

// events are written as "ask a", "edit a TEXT", "drop a" and "pick 1 9", which is
// nine picks of worker 1.
func events(lines ...string) []impl.Event {
	var out []impl.Event
	for _, line := range lines {
		word, rest, _ := strings.Cut(line, " ")
		name, text, _ := strings.Cut(rest, " ")
		switch word {
		case "ask":
			out = append(out, ask(name))
		case "edit":
			out = append(out, edit(name, text))
		case "drop":
			out = append(out, drop(name))
		case "pick":
			out = append(out, picks(number(name), number(text))...)
		default:
			panic(line)
		}
	}
	return out
}

func number(text string) int {
	n, err := strconv.Atoi(text)
	if err != nil {
		panic(text)
	}
	return n
}

func picks(worker int, times int) []impl.Event {
	return slices.Repeat([]impl.Event{pickOf(worker)}, times)
}

func answerText(a impl.Answer) string {
	out := fmt.Sprintf("answer %d %q %d", a.Call, a.Name, a.Rev)
	if a.Full {
		out += " full"
	}
	if len(a.Diags) > 0 {
		out += " " + diagsText(a.Diags)
	}
	return out
}

func ranText(r impl.Ran) string {
	return fmt.Sprintf("ran %s %d %d", shortKey(r.Key), r.Rev, r.Worker)
}

func shortKey(k impl.Key) string {
	return []string{"none", "parse", "sign", "check"}[k.Kind] + " " + k.Mod
}

func endText(o impl.Outcome) string {
	return fmt.Sprintf("code %d rev %d drops %d slots %d", o.Code, o.Rev, o.Drops, o.Slots)
}

func answerLines(o impl.Outcome) []string {
	var out []string
	for _, a := range o.Answers {
		out = append(out, answerText(a))
	}
	return out
}

func ranLines(o impl.Outcome) []string {
	var out []string
	for _, r := range o.Ran {
		out = append(out, ranText(r))
	}
	return out
}

// outcomeText hides nothing of an outcome.
func outcomeText(o impl.Outcome) string {
	lines := slices.Concat(answerLines(o), ranLines(o), []string{endText(o), tableText(o.Table)})
	return strings.Join(lines, "\n")
}

func wantLines(t *testing.T, what string, got []string, want ...string) {
	t.Helper()
	if !slices.Equal(got, want) {
		t.Errorf("%s:\n%s\nwant:\n%s", what, strings.Join(got, "\n"), strings.Join(want, "\n"))
	}
}

// ranIn are the keys that ran in a revision, in order.
func ranIn(o impl.Outcome, rev int) []string {
	var out []string
	for _, r := range o.Ran {
		if r.Rev == rev {
			out = append(out, shortKey(r.Key))
		}
	}
	return out
}

// What follows goes by the words of the document: a worker is what it has, and
// every move is looked up anew.

type plainFrame struct {
	key      impl.Key
	checking bool
	count    int
}

type plainWorker struct {
	hasCall bool
	call    int
	name    string
	rev     int
	stack   []plainFrame
	waits   bool
	waitKey impl.Key
}

type plainSession struct {
	capacity int
	srcs     []impl.Source
	rev      int
	changed  map[string]int
	table    impl.Table
	untaken  []int
	names    []string // by call
	workers  []*plainWorker
	out      impl.Outcome
	met      map[string]int // how often each turn of the words was come to
	greatest int            // how many slots there were at the most
}

func plainEvent(e impl.Event, workers int) bool {
	if e.Kind == impl.EvPick {
		return e.Name == "" && e.Text == "" && e.Worker >= 0 && e.Worker <= workers-1
	}
	if e.Kind != impl.EvAsk && e.Kind != impl.EvEdit && e.Kind != impl.EvDrop {
		return false
	}
	if e.Kind == impl.EvEdit && len(e.Text) > 1000 || e.Kind != impl.EvEdit && e.Text != "" {
		return false
	}
	return len(e.Name) <= 12 && e.Worker == 0
}

// plainDrive gives the session too, for what was met on the way.
func plainDrive(workers int, capacity int, events []impl.Event) (impl.Outcome, *plainSession) {
	p := &plainSession{capacity: capacity, rev: 1, changed: map[string]int{}, met: map[string]int{}}
	if workers < 1 || workers > 16 || capacity < 1 || capacity > 4096 || len(events) > 5000 {
		return impl.Outcome{Code: 9}, p
	}
	for _, e := range events {
		if !plainEvent(e, workers) {
			return impl.Outcome{Code: 9}, p
		}
	}
	for range workers {
		p.workers = append(p.workers, &plainWorker{})
	}
	for _, e := range events {
		p.event(e)
	}
	for round := 1; round <= 20000 && p.callIsLeft(); round++ {
		for n := range p.workers {
			p.move(n)
		}
	}
	if p.callIsLeft() {
		p.out.Code = 1
	}
	p.out.Rev, p.out.Table, p.out.Slots = p.rev, p.table, len(p.table.Slots)
	return p.out, p
}

func (p *plainSession) callIsLeft() bool {
	return len(p.untaken) > 0 || slices.ContainsFunc(p.workers, func(w *plainWorker) bool { return w.hasCall })
}

func (p *plainSession) event(e impl.Event) {
	at := slices.IndexFunc(p.srcs, func(s impl.Source) bool { return s.Name == e.Name })
	switch e.Kind {
	case impl.EvEdit:
		if !plainName(e.Name) || at < 0 && len(p.srcs) == 8 || at >= 0 && p.srcs[at].Text == e.Text {
			p.met["edit of nothing"]++
			return
		}
		p.srcs = slices.Clone(p.srcs)
		if at < 0 {
			p.srcs = append(p.srcs, impl.Source{Name: e.Name, Text: e.Text})
		} else {
			p.srcs[at].Text = e.Text
		}
		p.rev++
		p.changed[e.Name] = p.rev
	case impl.EvDrop:
		if at < 0 {
			p.met["drop of nothing"]++
			return
		}
		p.srcs = slices.Concat(p.srcs[:at], p.srcs[at+1:])
		p.rev++
		p.changed[e.Name] = p.rev
	case impl.EvAsk:
		p.names = append(p.names, e.Name)
		if plainName(e.Name) {
			p.untaken = append(p.untaken, len(p.names)-1)
		} else {
			p.answer(len(p.names)-1, false, []impl.Diag{{Decl: -1, Code: 3}})
		}
	case impl.EvPick:
		p.move(e.Worker)
	}
}

func (p *plainSession) answer(call int, full bool, diags []impl.Diag) {
	p.out.Answers = append(p.out.Answers, impl.Answer{Call: call, Name: p.names[call], Rev: p.rev, Full: full, Diags: diags})
}

// must is for steps that the document takes without a word on their codes.
func (p *plainSession) must(t impl.Table, code int) {
	if code != 0 {
		panic(fmt.Sprintf("code %d of %s", code, tableText(p.table)))
	}
	p.table = t
}

func (p *plainSession) move(n int) {
	w := p.workers[n]
	switch {
	case !w.hasCall:
		if len(p.untaken) > 0 {
			*w = plainWorker{hasCall: true, call: p.untaken[0], name: p.names[p.untaken[0]], rev: p.rev}
			p.untaken = p.untaken[1:]
		} else {
			p.met["idle"]++
		}
	case w.rev != p.rev:
		p.table = plainRelease(p.table, n)
		if len(w.stack) > 0 {
			p.out.Drops++
		} else {
			p.met["new revision with no stack"]++
		}
		w.stack, w.waits, w.rev = nil, false, p.rev
	case len(w.stack) == 0:
		k := impl.Key{Kind: impl.KCheck, Mod: w.name}
		if p.asks(n, k) == "gets" {
			w.hasCall = false
			p.answer(w.call, false, plainDiags(plainFind(p.table, k).Value))
		}
	case w.stack[len(w.stack)-1].checking:
		p.check(n)
	default:
		p.make(n)
	}
	p.greatest = max(p.greatest, len(p.table.Slots))
}

func plainDiags(value string) []impl.Diag {
	var out []impl.Diag
	for _, line := range strings.Split(value, "\n") {
		if parts := strings.Fields(line); len(parts) == 2 {
			out = append(out, impl.Diag{Decl: number(parts[0]), Code: number(parts[1])})
		}
	}
	return out
}

func (p *plainSession) check(n int) {
	w := p.workers[n]
	top := len(w.stack) - 1
	f := w.stack[top]
	s := plainFind(p.table, f.key)
	making := func(why string) {
		p.met[why]++
		w.stack[top].checking, w.stack[top].count = false, 0
	}
	confirm := func() {
		p.met["confirm "+shortKey(f.key)[:4]]++
		p.must(plainConfirm(p.table, f.key, n, p.rev))
		w.stack = w.stack[:top]
	}
	switch {
	case f.key.Kind == impl.KParse && p.changed[f.key.Mod] > s.Verified:
		making("source changed")
	case f.key.Kind == impl.KParse:
		confirm()
	case f.key.Kind == impl.KSign && s.Value == "circular":
		making("circular is never confirmed")
	case f.count < len(s.Deps):
		dep := s.Deps[f.count]
		switch p.asks(n, dep) {
		case "gets":
			if plainFind(p.table, dep).Changed > s.Verified {
				making("dep changed")
			} else {
				w.stack[top].count++
			}
		case "finds a circle":
			making("circle while checking")
		}
	default:
		confirm()
	}
}

func (p *plainSession) make(n int) {
	w := p.workers[n]
	top := len(w.stack) - 1
	f := w.stack[top]
	needs := impl.Needs(p.srcs, f.key)
	if f.count < len(needs) {
		if got := p.asks(n, needs[f.count]); got == "gets" || got == "finds a circle" {
			w.stack[top].count++
		}
		return
	}
	value := impl.Value(p.srcs, f.key)
	switch old := plainFind(p.table, f.key); {
	case !old.Has:
		p.met["made for the first time"]++
	case old.Value == value:
		p.met["made anew with the same answer"]++
	default:
		p.met["made anew with another answer"]++
	}
	p.must(plainFinish(p.table, f.key, n, p.rev, value, needs))
	p.out.Ran = append(p.out.Ran, impl.Ran{Key: f.key, Rev: p.rev, Worker: n})
	w.stack = w.stack[:top]
}

func (p *plainSession) asks(n int, k impl.Key) string {
	got := p.asked(n, k)
	p.met[got]++
	p.workers[n].waits = got == "waits"
	p.workers[n].waitKey = k
	return got
}

func (p *plainSession) asked(n int, k impl.Key) string {
	w, s := p.workers[n], plainFind(p.table, k)
	if s.Has && s.Verified == p.rev {
		return "gets"
	}
	if s.Owner > 0 && s.Since == p.rev {
		var waits []impl.Wait
		for i, other := range p.workers {
			if other.waits {
				waits = append(waits, impl.Wait{Worker: i, Key: other.waitKey})
			}
		}
		if !plainCircle(p.table, waits, n, k, p.rev) {
			return "waits"
		}
		if s.Owner != n+1 {
			p.met["circle across workers"]++
		}
		return "finds a circle"
	}
	if s.Owner > 0 {
		p.met["taken over"]++
	}
	t, code := plainClaim(p.table, k, n, p.rev, p.capacity)
	if code == 2 {
		p.table = plainRelease(p.table, n)
		w.stack, w.hasCall = nil, false
		p.answer(w.call, true, nil)
		return "is answered full"
	}
	p.must(t, code)
	w.stack = append(w.stack, plainFrame{key: k, checking: s.Has})
	return "claims"
}

// The modules are few and import each other often, so that circles come and go;
// no source is called z.
var (
	sessionMods  = []string{"a", "b", "c", "d", "z"}
	sessionDecls = []string{
		"type t = int;", "type t = bool;", "type t = {x: int, n: t};", "type u = b:t;", "type u = c:t -> int;", "type t = t;",
		"val f: int = 1;", "val f: int = 2;", "val f: bool = true;", "val f: t = true;", "val g: int = b:f;", "val g: a:t = c:f;",
		"val h: int = d:f + 1;", "val h: b:t = {x = 1};", "oops;",
	}
	sessionEnds = []string{"", "", "", " ", "\n", "# note", "oops", "import a"}
)

func sessionText(d *dice) string {
	var pieces []string
	for _, name := range sessionMods {
		if d.roll(4) == 0 {
			pieces = append(pieces, "import "+name+";")
		}
	}
	for range d.roll(4) {
		pieces = append(pieces, pick(d, sessionDecls))
	}
	if d.roll(4) == 0 {
		slices.Reverse(pieces)
	}
	return strings.Join(pieces, " ") + pick(d, sessionEnds)
}

func someEvents(d *dice, workers int) []impl.Event {
	var out []impl.Event
	for range d.roll(4) {
		out = append(out, edit(pick(d, sessionMods[:4]), sessionText(d)))
	}
	for range d.roll(40) {
		switch roll := d.roll(20); {
		case roll < 3:
			out = append(out, edit(pick(d, sessionMods[:4]), sessionText(d)))
		case roll < 4:
			out = append(out, drop(pick(d, sessionMods)))
		case roll < 8:
			out = append(out, ask(pick(d, sessionMods)))
		default:
			out = append(out, picks(d.roll(workers), 1+d.roll(9))...)
		}
		if d.roll(40) == 0 {
			out = append(out, pick(d, []impl.Event{ask(""), ask("A"), ask("if"), edit("B", "x"), drop("int"), edit("", "")}))
		}
	}
	return out
}

// importEvents go from one little web of imports to the next, by one import more
// or less, with calls that may be answered between: so circles close and open
// around answers that are kept.
func importEvents(d *dice, workers int) []impl.Event {
	var out []impl.Event
	imports := map[string]string{}
	for range 3 + d.roll(8) {
		from, to := pick(d, sessionMods[:4]), "import "+pick(d, sessionMods[:4])+";"
		if strings.Contains(imports[from], to) {
			imports[from] = strings.Replace(imports[from], to, "", 1)
		} else {
			imports[from] += to
		}
		out = append(out, edit(from, imports[from]))
		for range d.roll(4) {
			out = append(out, ask(pick(d, sessionMods[:4])))
		}
		for range d.roll(30) {
			out = append(out, picks(d.roll(workers), 1+d.roll(2))...)
		}
	}
	return out
}

// manySessions calls look with sessions of many shapes, most of them with room enough.
func manySessions(seed dice, rounds int, look func(d *dice, workers int, capacity int, events []impl.Event)) {
	d := &seed
	for round := range rounds {
		workers := pick(d, []int{1, 1, 2, 2, 3, 4, 16})
		capacity := pick(d, []int{impl.MaxSlots, impl.MaxSlots, impl.MaxSlots, 1 + d.roll(14)})
		if round%2 == 0 {
			look(d, workers, capacity, someEvents(d, workers))
		} else {
			look(d, workers, capacity, importEvents(d, workers))
		}
	}
}

// history is what the events say of the sources, without any worker.
type history struct {
	srcs  [][]impl.Source // by revision
	asked []int           // by call: the revision in which it was made
	names []string
}

func historyOf(events []impl.Event) history {
	h := history{srcs: make([][]impl.Source, 2)}
	for _, e := range events {
		now := slices.Clone(h.srcs[len(h.srcs)-1])
		at := slices.IndexFunc(now, func(s impl.Source) bool { return s.Name == e.Name })
		switch {
		case e.Kind == impl.EvAsk:
			h.asked, h.names = append(h.asked, len(h.srcs)-1), append(h.names, e.Name)
		case e.Kind == impl.EvDrop && at >= 0:
			h.srcs = append(h.srcs, slices.Delete(now, at, at+1))
		case e.Kind == impl.EvEdit && at >= 0 && now[at].Text != e.Text:
			now[at].Text = e.Text
			h.srcs = append(h.srcs, now)
		case e.Kind == impl.EvEdit && at < 0 && len(now) < 8 && plainName(e.Name):
			h.srcs = append(h.srcs, append(now, impl.Source{Name: e.Name, Text: e.Text}))
		}
	}
	return h
}

func (h history) last() int {
	return len(h.srcs) - 1
}

func eventsText(events []impl.Event) string {
	var out []string
	for _, e := range events {
		switch e.Kind {
		case impl.EvAsk:
			out = append(out, fmt.Sprintf("ask %q", e.Name))
		case impl.EvEdit:
			out = append(out, fmt.Sprintf("edit %q %q", e.Name, e.Text))
		case impl.EvDrop:
			out = append(out, fmt.Sprintf("drop %q", e.Name))
		case impl.EvPick:
			out = append(out, fmt.Sprintf("pick %d", e.Worker))
		default:
			out = append(out, fmt.Sprintf("%+v", e))
		}
	}
	return strings.Join(out, ", ")
}
