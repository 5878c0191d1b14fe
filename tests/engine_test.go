package tests

import (
	"fmt"
	"math"
	"slices"
	"strings"
	"testing"

	"loop.example/s15618/impl"
)

func TestSessionsOfNothing(t *testing.T) {
	for _, none := range [][]impl.Event{nil, {}} {
		for _, workers := range []int{1, impl.MaxWorkers} {
			for _, capacity := range []int{1, impl.MaxSlots} {
				o := impl.Drive(workers, capacity, none)
				wantLines(t, "no events", strings.Split(outcomeText(o), "\n"), "code 0 rev 1 drops 0 slots 0", "")
			}
		}
	}
	o := impl.Drive(2, 1, events("pick 0 3", "pick 1 2", "drop a", "edit a x", "drop a", "edit b ", "pick 0 1"))
	wantLines(t, "no calls", strings.Split(outcomeText(o), "\n"), "code 0 rev 4 drops 0 slots 0", "")
}

func TestCallsWithoutAnyEdit(t *testing.T) {
	o := impl.Drive(1, 100, events("ask a", "ask b", "ask a"))
	wantLines(t, "answers", answerLines(o), `answer 0 "a" 1 -1:3`, `answer 1 "b" 1 -1:3`, `answer 2 "a" 1 -1:3`)
	wantLines(t, "ran", ranLines(o), "ran parse a 1 0", "ran check a 1 0", "ran parse b 1 0", "ran check b 1 0")
	missing := func(k impl.Key, value string, deps ...impl.Key) impl.Slot {
		return impl.Slot{Key: k, Has: true, Value: value, Deps: deps, Verified: 1, Changed: 1}
	}
	wantTable(t, o.Table, table(
		missing(parseKey("a"), "missing"), missing(parseKey("b"), "missing"),
		missing(checkKey("a"), "-1 3\n", parseKey("a")), missing(checkKey("b"), "-1 3\n", parseKey("b"))))
	if endText(o) != "code 0 rev 1 drops 0 slots 4" {
		t.Error(endText(o))
	}
}

// movesToAnswer counts the moves of the only worker for the last call, by an
// edit behind them: a call that is answered by then has the revision before.
func movesToAnswer(t *testing.T, lines ...string) int {
	t.Helper()
	for n := range 100 {
		all := slices.Concat(events(lines...), picks(0, n), events("edit unrelated now"))
		o := impl.Drive(1, impl.MaxSlots, all)
		if last := o.Answers[len(o.Answers)-1]; last.Rev < o.Rev {
			return n
		}
	}
	t.Errorf("%q is not answered", lines)
	return -1
}

func TestMovesOfOneWorker(t *testing.T) {
	for _, c := range []struct {
		want  int
		lines []string
	}{
		// take, claim check and parse, finish parse, get it, finish check, get it
		{7, []string{"ask a"}},
		{7, []string{"edit a ", "ask a"}},
		{7, []string{"edit a val x: int = true; oops", "ask a"}},
		// and for the import: claim sign and parse, finish, get, finish, get
		{13, []string{"edit a import b;", "ask a"}},
		{13, []string{"edit a import b;", "edit b ", "ask a"}},
		// the second time it is only taken and got
		{2, []string{"edit a import b;", "ask a", "pick 0 13", "ask a"}},
		// an import of itself: claim sign, get parse, find the circle, finish, get
		{12, []string{"edit a import a;", "ask a"}},
		// all is confirmed, in as many moves
		{7, []string{"edit a ", "ask a", "pick 0 7", "edit q ", "ask a"}},
		{13, []string{"edit a import b;", "ask a", "pick 0 13", "edit q ", "ask a"}},
		// parse becomes making and comes out the same
		{8, []string{"edit a ", "ask a", "pick 0 7", "edit a # more", "ask a"}},
		// parse and check become making
		{9, []string{"edit a ", "ask a", "pick 0 7", "edit a oops", "ask a"}},
		{9, []string{"edit a ", "ask a", "pick 0 7", "drop a", "ask a"}},
		// parse b and sign b become making; check a does so where sign b has changed
		{14, []string{"edit a import b;", "edit b ", "ask a", "pick 0 13", "edit b # more", "ask a"}},
		{15, []string{"edit a import b;", "edit b val x: int = 1;", "ask a", "pick 0 13", "edit b val x: int = 2;", "ask a"}},
		{17, []string{"edit a import b;", "edit b val x: int = 1;", "ask a", "pick 0 13", "edit b val x: bool = true;", "ask a"}},
		{17, []string{"edit a import b;", "edit b val x: int = 1;", "ask a", "pick 0 13", "drop b", "ask a"}},
		// sign b, which is making, asks for sign c and parse c, which are confirmed
		{21, []string{"edit a import b;", "edit b import c;", "ask a", "pick 0 19", "edit b import c; oops", "ask a"}},
		// sign a is circular: it becomes making without a look at its deps
		{13, []string{"edit a import a;", "ask a", "pick 0 12", "edit q ", "ask a"}},
	} {
		if got := movesToAnswer(t, c.lines...); got != c.want {
			t.Errorf("%q: %d moves, want %d", c.lines, got, c.want)
		}
	}
}

// The stack has frames from the claim of check, the second move, until that is finished.
func TestDropsAfterEveryMove(t *testing.T) {
	for _, second := range []string{"edit q ", "edit a import c;", "drop a", "edit b oops"} {
		for n := range 16 {
			all := slices.Concat(events("edit a import b;", "ask a"), picks(0, n), events(second, "ask a"))
			o := impl.Drive(1, impl.MaxSlots, all)
			want := 0
			if 2 <= n && n <= 11 {
				want = 1
			}
			rev := 3
			if n >= 13 {
				rev = 2
			}
			if o.Drops != want || o.Answers[0].Rev != rev || o.Answers[1].Rev != 3 || o.Code != 0 {
				t.Errorf("%s after %d moves: %s", second, n, outcomeText(o))
			}
		}
	}
}

func TestEveryEditCancelsOnce(t *testing.T) {
	// two edits between two moves are one drop; an edit for nothing is none
	o := impl.Drive(1, 9, events("edit a import b;", "ask a", "pick 0 4", "edit b ", "edit c ", "pick 0 1", "edit c ", "drop q", "pick 0 4", "drop c", "pick 0 1", "edit c ", "pick 0 1"))
	if endText(o) != "code 0 rev 6 drops 2 slots 4" {
		t.Error(outcomeText(o))
	}
	// each of three workers drops its own; one that has only taken its call, and
	// one that waits for what another holds, have nothing to drop
	o = impl.Drive(5, 99, events("edit a import b;", "ask a", "ask b", "ask c", "ask d", "ask a",
		"pick 0 3", "pick 1 2", "pick 2 5", "pick 3 1", "pick 4 2", "edit d "))
	if o.Drops != 3 || o.Code != 0 || len(o.Answers) != 5 {
		t.Error(outcomeText(o))
	}
}

// What a cancelled worker has finished is kept; what it only held goes.
func TestCancelledWorkIsLetGo(t *testing.T) {
	o := impl.Drive(1, 99, events("edit a import b;", "ask a", "pick 0 9", "edit a val x: int = 1;", "pick 0 1"))
	wantLines(t, "ran", ranLines(o), "ran parse a 2 0", "ran parse b 2 0", "ran parse a 3 0", "ran check a 3 0")
	wantTable(t, o.Table, table(
		impl.Slot{Key: parseKey("a"), Has: true, Value: "val x: int = 1;\n", Verified: 3, Changed: 3},
		impl.Slot{Key: parseKey("b"), Has: true, Value: "missing", Verified: 2, Changed: 2},
		impl.Slot{Key: checkKey("a"), Has: true, Deps: []impl.Key{parseKey("a")}, Verified: 3, Changed: 3}))
}

func TestKeptAnswers(t *testing.T) {
	start := []string{"edit a import b; val y: int = b:x;", "edit b import c; val x: c:t = 1;", "edit c type t = int;", "ask a", "pick 0 30"}
	for _, c := range []struct {
		second string
		want   string
	}{
		{"edit q oops", ""},
		{"edit c type t = int; # one", "parse c"},
		{"edit c type t = int; val v: t = 1;", "parse c, sign c, sign b"},
		{"edit c type t = bool;", "parse c, sign c, sign b, check a"},
		{"edit c type t = int; oops", "parse c, sign c"},
		{"edit b import c; val x: c:t = true;", "parse b, sign b"},
		{"edit b val x: int = 1;", "parse b, sign b"},
		{"edit a import b; val y: bool = b:x;", "parse a, check a"},
		{"edit a ", "parse a, check a"},
		{"drop c", "parse c, sign c, sign b, check a"},
		{"drop b", "parse b, sign b, check a"},
		{"drop a", "parse a, check a"},
		{"edit c import c;", "parse c, sign c, sign b, check a"},
		{"edit c import a;", "parse c, sign a, sign c, sign b, check a"},
	} {
		for _, workers := range []int{1, 2} {
			o := impl.Drive(workers, 99, events(append(slices.Clone(start), c.second, "ask a")...))
			want := []string{"parse a", "parse b", "parse c", "sign c", "sign b", "check a"}
			wantLines(t, "at first", ranIn(o, 4), want...)
			if got := strings.Join(ranIn(o, 5), ", "); got != c.want {
				t.Errorf("%s: %q ran, want %q", c.second, got, c.want)
			}
			h := historyOf(events(append(slices.Clone(start), c.second)...))
			if got, want := diagsText(o.Answers[1].Diags), diagsText(plainDiagnose(h.srcs[5], "a")); got != want {
				t.Errorf("%s: %q, want %q", c.second, got, want)
			}
		}
	}
}

// The answer is another one, and then what it was at first: who has not looked
// between must look at when it changed, not at what it is.
func TestChangedAndChangedBack(t *testing.T) {
	o := impl.Drive(1, 99, events("edit a import b;", "edit b val x: int = 1;", "ask a", "pick 0 13",
		"edit b val x: bool = true;", "ask b", "pick 0 30", "edit b val x: int = 1;", "ask a"))
	wantLines(t, "ran", ranIn(o, 5), "parse b", "sign b")
	// sign b was not made between, so it has not changed since check a was made
	o = impl.Drive(1, 99, events("edit a import b;", "edit b val x: int = 1;", "edit d import b;", "ask a", "pick 0 13",
		"edit b val x: bool = true;", "ask d", "pick 0 30", "edit b val x: int = 1;", "ask a"))
	wantLines(t, "ran", ranIn(o, 6), "parse b", "sign b", "check a")
}

func TestVerifiedAndChanged(t *testing.T) {
	o := impl.Drive(1, 99, events("edit a import b;", "edit b val x: int = 1;", "ask a", "pick 0 13",
		"edit b val x: int = 2;", "edit q ", "ask a", "pick 0 30", "drop q"))
	slot := func(k impl.Key, value string, changed int, deps ...impl.Key) impl.Slot {
		return impl.Slot{Key: k, Has: true, Value: value, Deps: deps, Verified: 5, Changed: changed}
	}
	wantTable(t, o.Table, table(
		slot(parseKey("a"), "import b;\n", 3),
		slot(parseKey("b"), "val x: int = 2;\n", 5),
		slot(signKey("b"), "val x 0\nint\n", 3, parseKey("b")),
		slot(checkKey("a"), "", 3, parseKey("a"), signKey("b"))))
	if endText(o) != "code 0 rev 6 drops 0 slots 4" {
		t.Error(endText(o))
	}
}

func TestTwoWorkersMeetInACircle(t *testing.T) {
	start := events("edit a import b;", "edit b import a;", "ask a", "ask b")
	// worker 0 holds sign b, and worker 1 sign a and waits for sign b: when worker 0
	// asks for sign a, that is a circle
	o := impl.Drive(2, 99, append(start, events("pick 0 9", "pick 1 6", "pick 0 2", "pick 1 2")...))
	wantLines(t, "ran", ranLines(o), "ran parse a 3 0", "ran parse b 3 0", "ran sign b 3 0", "ran sign a 3 1", "ran check a 3 0", "ran check b 3 1")
	wantLines(t, "answers", answerLines(o), `answer 0 "a" 3 0:4`, `answer 1 "b" 3 0:4`)
	// the other way round worker 0 waits, and worker 1 finds the circle
	o = impl.Drive(2, 99, append(start, events("pick 0 9", "pick 1 5", "pick 0 2", "pick 1 2", "pick 0 3")...))
	wantLines(t, "ran", ranLines(o), "ran parse a 3 0", "ran parse b 3 0", "ran sign a 3 1", "ran sign b 3 0", "ran check a 3 0", "ran check b 3 1")
	wantLines(t, "answers", answerLines(o), `answer 0 "a" 3 0:4`, `answer 1 "b" 3 0:4`)
}

func TestThreeWorkersMeetInACircle(t *testing.T) {
	// each holds the sign of the next module and asks for the one behind that
	start := events("edit a import b;", "edit b import c;", "edit c import a;", "ask a", "ask b", "ask c", "pick 0 9", "pick 1 9", "pick 2 9")
	for _, order := range [][]int{{0, 1, 2}, {2, 1, 0}, {1, 2, 0}, {0, 2, 1}} {
		all := slices.Clone(start)
		for _, worker := range order {
			all = append(all, picks(worker, 2)...)
		}
		o, p := wantDrive(t, 3, 99, all)
		if p.met["circle across workers"] == 0 || len(o.Answers) != 3 || o.Code != 0 {
			t.Error(outcomeText(o))
		}
		for _, a := range o.Answers {
			if diagsText(a.Diags) != "0:4" {
				t.Error(outcomeText(o))
			}
		}
	}
}

// Sign b is kept from before there was a circle, and is looked at again from
// within it: it must be made anew.
func TestACircleFoundWhileChecking(t *testing.T) {
	o := impl.Drive(1, 99, events("edit a ", "edit b import a;", "edit c import b;", "edit d import a;", "ask c", "pick 0 40", "edit a import b;", "ask d", "pick 0 60"))
	wantLines(t, "ran", ranIn(o, 6), "parse d", "parse a", "sign b", "sign a", "check d")
	for _, name := range []string{"a", "b"} {
		if s := impl.Find(o.Table, signKey(name)); s.Value != "circular" || s.Verified != 6 || s.Changed != 6 {
			t.Error(tableText(table(s)))
		}
	}
	wantLines(t, "answers", answerLines(o), `answer 0 "c" 5`, `answer 1 "d" 6 0:4`)
}

// The circle is opened elsewhere: both answers circular are out of date, though
// each of them would find the other unchanged.
func TestACircleIsNeverConfirmed(t *testing.T) {
	start := []string{"edit a import b;", "edit b import a; import c;", "edit c import b;", "edit d import a; val x: int = a:v;", "ask d", "pick 0 60"}
	for second, ran := range map[string][]string{
		"edit q ":          {"sign c", "sign b", "sign a"},
		"edit c ":          {"parse c", "sign c", "sign b", "sign a"},
		"edit b import c;": {"parse b", "sign c", "sign b", "sign a"},
		"edit b import a;": {"parse b", "sign b", "sign a"},
	} {
		o := impl.Drive(1, 99, events(append(slices.Clone(start), second, "ask d")...))
		wantLines(t, second, ranIn(o, 6), ran...)
		wantLines(t, second, answerLines(o), `answer 0 "d" 5 0:4`, `answer 1 "d" 6 0:4`)
	}
	o := impl.Drive(1, 99, events(append(start, "edit b ", "ask d")...))
	wantLines(t, "ran", ranIn(o, 6), "parse b", "sign b", "sign a", "check d")
	wantLines(t, "answers", answerLines(o), `answer 0 "d" 5 0:4`, `answer 1 "d" 6 1:7`)
}

func TestASlotIsTakenOverInANewRevision(t *testing.T) {
	o := impl.Drive(2, 99, events("edit a val f: int = 1;", "ask a", "ask a", "pick 0 3", "edit a val f: int = true;", "pick 1 3", "pick 0 2", "pick 1 4"))
	wantLines(t, "ran", ranLines(o), "ran parse a 3 1", "ran check a 3 1")
	wantLines(t, "answers", answerLines(o), `answer 1 "a" 3 0:8`, `answer 0 "a" 3 0:8`)
	if endText(o) != "code 0 rev 3 drops 1 slots 2" {
		t.Error(endText(o))
	}
}

func TestCallsAreTakenInOrder(t *testing.T) {
	o := impl.Drive(3, 99, events("ask c", "ask b", "ask a", "pick 2 1", "pick 0 1", "pick 1 1", "pick 1 6", "pick 0 6", "pick 2 6"))
	wantLines(t, "ran", ranLines(o), "ran parse a 1 1", "ran check a 1 1", "ran parse b 1 0", "ran check b 1 0", "ran parse c 1 2", "ran check c 1 2")
	wantLines(t, "answers", answerLines(o), `answer 2 "a" 1 -1:3`, `answer 1 "b" 1 -1:3`, `answer 0 "c" 1 -1:3`)
}

func TestNamesThatAreNotGood(t *testing.T) {
	var all []impl.Event
	var want []string
	for i, name := range slices.DeleteFunc(badMods(), func(name string) bool { return len(name) > impl.MaxName }) {
		all = append(all, ask(name), edit(name, "import a;"), drop(name))
		want = append(want, fmt.Sprintf("answer %d %q 1 -1:3", i, name))
	}
	o := impl.Drive(2, 1, all)
	wantLines(t, "answers", answerLines(o), want...)
	if endText(o) != "code 0 rev 1 drops 0 slots 0" {
		t.Error(endText(o))
	}
	// such a call is answered ahead of those that came before it
	o = impl.Drive(1, 9, events("edit a ", "ask a", "pick 0 3", "ask A", "edit b ", "ask if", "edit a oops", "ask  "))
	wantLines(t, "answers", answerLines(o), `answer 1 "A" 2 -1:3`, `answer 2 "if" 3 -1:3`, `answer 3 "" 4 -1:3`, `answer 0 "a" 4 0:1`)
}

func TestNamesOfMaxName(t *testing.T) {
	o := impl.Drive(1, 9, []impl.Event{edit(twelve, "import "+twelve+";"), ask(twelve), drop(twelve), ask(twelve), ask("abcdefghijk\xff")})
	wantLines(t, "answers", answerLines(o), `answer 2 "abcdefghijk\xff" 3 -1:3`, `answer 0 "`+twelve+`" 3 -1:3`, `answer 1 "`+twelve+`" 3 -1:3`)
	for _, e := range []impl.Event{edit(thirteen, ""), ask(thirteen), drop(thirteen), ask(strings.Repeat("A", 13))} {
		wantWrong(t, 1, 9, e)
	}
}

func TestTextsOfMaxText(t *testing.T) {
	long := "import b;" + strings.Repeat("#", impl.MaxText-9)
	o := impl.Drive(1, 9, []impl.Event{edit("a", long), ask("a")})
	wantLines(t, "answers", answerLines(o), `answer 0 "a" 2 0:3`)
	wantWrong(t, 1, 9, edit("a", long+"#"))
	wantWrong(t, 1, 9, edit("A", long+"#"))
}

// What is printed is longer than MaxText, and differs at its end only.
func TestTextsThatArePrintedLonger(t *testing.T) {
	text := "val x:?=1" + strings.Repeat("+1", 400)
	o := impl.Drive(1, 9, append(append([]impl.Event{edit("a", text+"+1;"), ask("a")}, picks(0, 9)...), edit("a", text+"+2;"), ask("a")))
	wantLines(t, "ran", ranLines(o), "ran parse a 2 0", "ran check a 2 0", "ran parse a 3 0", "ran check a 3 0")
}

func TestNoMoreThanMaxModules(t *testing.T) {
	var all []impl.Event
	for i := range 10 {
		all = append(all, edit(fmt.Sprintf("m%d", i), "oops"))
	}
	all = append(all, events("ask m7", "ask m8", "edit m7 import m8;", "ask m7", "drop m9", "drop m0", "edit m8 ", "edit m0 ", "ask m8", "ask m7", "ask m0")...)
	o := impl.Drive(1, 99, all)
	wantLines(t, "answers", answerLines(o), `answer 0 "m7" 12`, `answer 1 "m8" 12`, `answer 2 "m7" 12`, `answer 3 "m8" 12`, `answer 4 "m7" 12`, `answer 5 "m0" 12 -1:3`)
	o = impl.Drive(1, 99, slices.Concat(all[:12], picks(0, 50), all[12:14], picks(0, 50), all[14:]))
	wantLines(t, "answers", answerLines(o), `answer 0 "m7" 9 0:1`, `answer 1 "m8" 9 -1:3`, `answer 2 "m7" 10 0:3`, `answer 3 "m8" 12`, `answer 4 "m7" 12`, `answer 5 "m0" 12 -1:3`)
}

func TestEditsAndDropsOfNothing(t *testing.T) {
	o := impl.Drive(1, 9, events("drop a", "edit a x", "edit a x", "edit a  x", "edit a x", "drop b", "drop a", "drop a", "edit a x"))
	if endText(o) != "code 0 rev 6 drops 0 slots 0" {
		t.Error(endText(o))
	}
	// the work goes on over them
	o = impl.Drive(1, 9, events("edit a ", "ask a", "pick 0 4", "edit a ", "drop b", "edit B x", "pick 0 3", "edit b "))
	wantLines(t, "answers", answerLines(o), `answer 0 "a" 2`)
	if o.Drops != 0 {
		t.Error(outcomeText(o))
	}
}

// Slots are held while they are worked on, so a chain of imports needs room for all of it.
func TestCapacities(t *testing.T) {
	chain := events("edit a import b;", "edit b import c;", "edit c val x: int = true;", "ask a", "ask c")
	for capacity, want := range map[int][]string{
		1:             {`answer 0 "a" 4 full`, `answer 1 "c" 4 full`},
		2:             {`answer 0 "a" 4 full`, `answer 1 "c" 4 full`},
		3:             {`answer 0 "a" 4 full`, `answer 1 "c" 4 0:8`},
		4:             {`answer 0 "a" 4 full`, `answer 1 "c" 4 0:8`},
		5:             {`answer 0 "a" 4 full`, `answer 1 "c" 4 0:8`},
		6:             {`answer 0 "a" 4`, `answer 1 "c" 4 full`},
		7:             {`answer 0 "a" 4`, `answer 1 "c" 4 0:8`},
		impl.MaxSlots: {`answer 0 "a" 4`, `answer 1 "c" 4 0:8`},
	} {
		o, p := wantDrive(t, 1, capacity, chain)
		if o.Code != 0 || o.Drops != 0 || o.Slots > capacity || p.greatest > capacity {
			t.Errorf("capacity %d: %s", capacity, outcomeText(o))
		}
		wantLines(t, fmt.Sprint("capacity ", capacity), answerLines(o), want...)
	}
}

func TestFullLetsGoOfAll(t *testing.T) {
	o := impl.Drive(1, 2, events("edit a ", "ask a", "pick 0 7", "edit a import b;", "ask a", "pick 0 40", "edit q "))
	wantLines(t, "answers", answerLines(o), `answer 0 "a" 2`, `answer 1 "a" 3 full`)
	wantTable(t, o.Table, table(
		impl.Slot{Key: parseKey("a"), Has: true, Value: "import b;\n", Verified: 3, Changed: 3},
		impl.Slot{Key: checkKey("a"), Has: true, Deps: []impl.Key{parseKey("a")}, Verified: 2, Changed: 2}))
	if endText(o) != "code 0 rev 4 drops 0 slots 2" {
		t.Error(endText(o))
	}
	// one that waits for what is let go of claims it, and has no more room
	o = impl.Drive(2, 1, events("ask a", "ask a", "pick 0 2", "pick 1 2", "pick 0 1", "pick 1 2"))
	wantLines(t, "answers", answerLines(o), `answer 0 "a" 1 full`, `answer 1 "a" 1 full`)
	if endText(o) != "code 0 rev 1 drops 0 slots 0" {
		t.Error(endText(o))
	}
}

// The one that is answered full has no call, and takes the next one.
func TestAWorkerGoesOnAfterFull(t *testing.T) {
	o := impl.Drive(1, 2, events("edit a import b;", "ask a", "ask b", "ask c", "ask b"))
	wantLines(t, "answers", answerLines(o), `answer 0 "a" 2 full`, `answer 1 "b" 2 full`, `answer 2 "c" 2 full`, `answer 3 "b" 2 full`)
	o = impl.Drive(1, 3, events("edit a import b;", "ask a", "ask b", "ask c", "ask b"))
	wantLines(t, "answers", answerLines(o), `answer 0 "a" 2 full`, `answer 1 "b" 2 -1:3`, `answer 2 "c" 2 full`, `answer 3 "b" 2 -1:3`)
}

func TestWorkersOneAndMaxWorkers(t *testing.T) {
	for _, workers := range []int{1, 2, impl.MaxWorkers} {
		all := events("edit a import b;", "edit b import a;", "ask a", "ask b", "ask c", "pick 0 3")
		all = append(all, picks(workers-1, 6)...)
		o, _ := wantDrive(t, workers, impl.MaxSlots, all)
		if len(o.Answers) != 3 || o.Code != 0 {
			t.Error(outcomeText(o))
		}
		wantWrong(t, workers, 9, pickOf(workers))
		wantWrong(t, workers, 9, pickOf(-1))
	}
	o := impl.Drive(impl.MaxWorkers, 9, events("ask a", "pick 15 7"))
	wantLines(t, "ran", ranLines(o), "ran parse a 1 15", "ran check a 1 15")
}

func isZeroButCode(o impl.Outcome) bool {
	return outcomeText(o) == outcomeText(impl.Outcome{Code: 9})
}

// wantWrong asks with the event alone, ahead of others and behind them.
func wantWrong(t *testing.T, workers int, capacity int, e impl.Event) {
	t.Helper()
	for _, all := range [][]impl.Event{{e}, {e, ask("a"), edit("a", "oops")}, {edit("a", "oops"), ask("a"), pickOf(0), e}} {
		if o := impl.Drive(workers, capacity, all); !isZeroButCode(o) {
			t.Errorf("%.300s gives\n%s", eventsText(all), outcomeText(o))
		}
	}
}

func TestEventsThatAreNone(t *testing.T) {
	for _, e := range []impl.Event{
		{}, {Name: "a"}, {Kind: 5}, {Kind: 5, Name: "a"}, {Kind: -1}, {Kind: math.MaxInt}, {Kind: math.MinInt, Name: "a"},
		{Kind: impl.EvAsk, Name: "a", Text: "x"}, {Kind: impl.EvAsk, Name: "A", Text: " "},
		{Kind: impl.EvAsk, Name: "a", Worker: 1}, {Kind: impl.EvAsk, Name: "a", Worker: -1}, {Kind: impl.EvAsk, Name: "if", Worker: 2},
		{Kind: impl.EvEdit, Name: "a", Text: "x", Worker: 1}, {Kind: impl.EvEdit, Name: "a", Worker: -1}, {Kind: impl.EvEdit, Worker: math.MaxInt},
		{Kind: impl.EvDrop, Name: "a", Text: "x"}, {Kind: impl.EvDrop, Name: "a", Worker: 1}, {Kind: impl.EvDrop, Name: "a", Worker: -1},
		{Kind: impl.EvPick, Name: "a"}, {Kind: impl.EvPick, Text: "x"}, {Kind: impl.EvPick, Name: "a", Text: "x", Worker: 2},
		{Kind: impl.EvPick, Worker: 3}, {Kind: impl.EvPick, Worker: -1}, {Kind: impl.EvPick, Worker: math.MaxInt}, {Kind: impl.EvPick, Worker: math.MinInt},
	} {
		wantWrong(t, 3, 9, e)
		if plainEvent(e, 3) {
			t.Errorf("%+v is an event by the second reading", e)
		}
	}
	for _, e := range []impl.Event{{Kind: impl.EvAsk}, {Kind: impl.EvEdit}, {Kind: impl.EvDrop}, {Kind: impl.EvPick}, {Kind: impl.EvPick, Worker: 2}, edit("A", "x"), ask("\x00")} {
		if o := impl.Drive(3, 9, []impl.Event{e}); o.Code != 0 || o.Rev != 1 {
			t.Errorf("%+v: %s", e, outcomeText(o))
		}
	}
}

func TestNumbersOfWorkersAndSlotsThatAreNone(t *testing.T) {
	some := events("edit a ", "ask a")
	for _, workers := range []int{0, -1, impl.MaxWorkers + 1, math.MaxInt, math.MinInt} {
		for _, all := range [][]impl.Event{nil, some} {
			if o := impl.Drive(workers, 9, all); !isZeroButCode(o) {
				t.Errorf("%d workers: %s", workers, outcomeText(o))
			}
		}
	}
	for _, capacity := range []int{0, -1, impl.MaxSlots + 1, math.MaxInt, math.MinInt} {
		for _, all := range [][]impl.Event{nil, some} {
			if o := impl.Drive(2, capacity, all); !isZeroButCode(o) {
				t.Errorf("capacity %d: %s", capacity, outcomeText(o))
			}
		}
	}
}

func TestMaxEvents(t *testing.T) {
	all := slices.Repeat([]impl.Event{ask("a")}, impl.MaxEvents)
	all[0] = edit("a", "oops")
	for _, workers := range []int{1, impl.MaxWorkers} {
		o := impl.Drive(workers, 2, all)
		if endText(o) != "code 0 rev 2 drops 0 slots 2" || len(o.Answers) != impl.MaxEvents-1 || len(o.Ran) != 2 {
			t.Errorf("%d workers: %s", workers, endText(o))
		}
		for i, a := range o.Answers {
			if workers == 1 && a.Call != i || a.Name != "a" || a.Rev != 2 || a.Full || diagsText(a.Diags) != "0:1" {
				t.Fatalf("answer %d: %s", i, answerText(a))
			}
		}
	}
	for _, more := range []impl.Event{ask("a"), pickOf(0), edit("a", "oops")} {
		if o := impl.Drive(1, 2, append(slices.Clip(all), more)); !isZeroButCode(o) {
			t.Errorf("%+v: %s", more, endText(o))
		}
	}
}

// Check a, parse a and sign b have room, and parse b has none: the first call
// takes 7 moves, and each behind it 5, so that 4000 of them take 20002.
func TestMaxRounds(t *testing.T) {
	const moves = 7 + 3999*5
	all := append(events("edit a import b;"), slices.Repeat([]impl.Event{ask("a")}, 4000)...)
	for _, c := range []struct {
		before int
		want   string
		calls  int
	}{
		{0, "code 1 rev 2 drops 0 slots 2", 3999},
		{moves - impl.MaxRounds - 1, "code 1 rev 2 drops 0 slots 3", 3999},
		{moves - impl.MaxRounds, "code 0 rev 2 drops 0 slots 1", 4000},
		{moves - impl.MaxRounds + 1, "code 0 rev 2 drops 0 slots 1", 4000},
	} {
		o := impl.Drive(1, 3, append(slices.Clip(all), picks(0, c.before)...))
		if endText(o) != c.want || len(o.Answers) != c.calls {
			t.Errorf("%d picks: %s, %d answers", c.before, endText(o), len(o.Answers))
		}
	}
	o := impl.Drive(1, 3, append(slices.Clip(all), picks(0, 1)...))
	wantTable(t, o.Table, table(
		impl.Slot{Key: parseKey("a"), Has: true, Value: "import b;\n", Verified: 2, Changed: 2},
		held(signKey("b"), 0, 2), held(checkKey("a"), 0, 2)))
}

// Rounds begin only while a call is left, so a kept answer is not looked at again.
func TestNoRoundWithoutACall(t *testing.T) {
	o := impl.Drive(1, 9, events("edit a ", "ask a", "pick 0 7", "edit q "))
	if s := impl.Find(o.Table, checkKey("a")); s.Verified != 2 || o.Rev != 3 {
		t.Error(outcomeText(o))
	}
}
