package tests

import (
	"fmt"
	"math"
	"strings"
	"testing"

	"loop.example/s15618/impl"
)

func wantShown(t *testing.T, o impl.Outcome, want string) {
	t.Helper()
	if got := impl.ShowOutcome(o); got != want {
		t.Errorf("%+v is shown as\n%q\nwant\n%q", o, got, want)
	}
}

// wantAnswerLine and wantRanLine look at one line ahead of the end of nothing.
func wantAnswerLine(t *testing.T, a impl.Answer, want string) {
	t.Helper()
	wantShown(t, impl.Outcome{Answers: []impl.Answer{a}}, want+"\nend 0 0 0 0\n")
}

func wantRanLine(t *testing.T, r impl.Ran, want string) {
	t.Helper()
	wantShown(t, impl.Outcome{Ran: []impl.Ran{r}}, want+"\nend 0 0 0 0\n")
}

func TestTheZeroOutcome(t *testing.T) {
	wantShown(t, impl.Outcome{}, "end 0 0 0 0\n")
	wantShown(t, impl.Outcome{Answers: []impl.Answer{}, Ran: []impl.Ran{}, Table: impl.Table{Slots: []impl.Slot{}}}, "end 0 0 0 0\n")
}

func TestLinesOfAnswers(t *testing.T) {
	wantAnswerLine(t, impl.Answer{}, "answer 0  0")
	wantAnswerLine(t, impl.Answer{Diags: []impl.Diag{}}, "answer 0  0")
	wantAnswerLine(t, impl.Answer{Call: 3, Name: "a", Rev: 7}, "answer 3 a 7")
	wantAnswerLine(t, impl.Answer{Call: 3, Name: "a", Rev: 7, Diags: []impl.Diag{{Decl: 0, Code: 8}}}, "answer 3 a 7 0:8")
	wantAnswerLine(t, impl.Answer{Call: 3, Name: "a", Rev: 7, Diags: []impl.Diag{{Decl: 10, Code: 8}, {Decl: -1, Code: 3}, {}}}, "answer 3 a 7 10:8 -1:3 0:0")
	wantAnswerLine(t, impl.Answer{Call: 3, Name: "a", Rev: 7, Full: true}, "answer 3 a 7 full")
	wantAnswerLine(t, impl.Answer{Full: true, Diags: []impl.Diag{{Decl: 1, Code: 2}, {Decl: 3, Code: 4}}}, "answer 0  0 full 1:2 3:4")
	wantAnswerLine(t, impl.Answer{Call: math.MinInt, Rev: math.MaxInt, Diags: []impl.Diag{{Decl: math.MaxInt, Code: math.MinInt}}},
		"answer -9223372036854775808  9223372036854775807 9223372036854775807:-9223372036854775808")
	wantAnswerLine(t, impl.Answer{Call: -1, Name: "full", Rev: -2}, "answer -1 full -2")
	for _, name := range []string{" ", "a b", "\n", "a\nend 1 2 3 4", "\x00", "\xff\xfe", "é", "|", "%d %s", `"`, `\n`, strings.Repeat("long", 5000)} {
		wantAnswerLine(t, impl.Answer{Call: 1, Name: name, Rev: 2}, "answer 1 "+name+" 2")
	}
}

func TestLinesOfRan(t *testing.T) {
	wantRanLine(t, impl.Ran{}, "ran key  0 0")
	wantRanLine(t, impl.Ran{Key: parseKey("a"), Rev: 5, Worker: 1}, "ran parse a 5 1")
	wantRanLine(t, impl.Ran{Key: signKey("b_2"), Rev: 10, Worker: 15}, "ran sign b_2 10 15")
	wantRanLine(t, impl.Ran{Key: checkKey("c"), Rev: -5, Worker: -1}, "ran check c -5 -1")
	for _, kind := range []int{0, 4, 5, -1, -2, -3, 257, math.MaxInt, math.MinInt} {
		wantRanLine(t, impl.Ran{Key: impl.Key{Kind: kind, Mod: "a"}, Rev: 1, Worker: 2}, "ran key a 1 2")
	}
	wantRanLine(t, impl.Ran{Key: parseKey(""), Rev: math.MinInt, Worker: math.MaxInt}, "ran parse  -9223372036854775808 9223372036854775807")
	for _, mod := range []string{" ", "x y", "\n", "\x00", "\xff", "é", "%v", thirteen} {
		wantRanLine(t, impl.Ran{Key: signKey(mod)}, "ran sign "+mod+" 0 0")
	}
}

func TestLinesOfEnds(t *testing.T) {
	wantShown(t, impl.Outcome{Code: 1, Rev: 2, Drops: 3, Slots: 4}, "end 1 2 3 4\n")
	wantShown(t, impl.Outcome{Code: 9}, "end 9 0 0 0\n")
	wantShown(t, impl.Outcome{Code: -1, Rev: -20, Drops: -300, Slots: -4000}, "end -1 -20 -300 -4000\n")
	wantShown(t, impl.Outcome{Code: math.MinInt, Rev: math.MaxInt, Drops: math.MaxInt, Slots: math.MinInt},
		"end -9223372036854775808 9223372036854775807 9223372036854775807 -9223372036854775808\n")
	// the slots are those that are told, not those of the table
	wantShown(t, impl.Outcome{Slots: 7, Table: table(kept(parseKey("a"), 1, 2), held(signKey("b"), 3, 9))}, "end 0 0 0 7\n")
	wantShown(t, impl.Outcome{Table: table(impl.Slot{}, impl.Slot{Key: impl.Key{Kind: -1, Mod: "\n"}, Owner: -1, Since: math.MinInt})}, "end 0 0 0 0\n")
}

// The answers come ahead of what ran, each in its own order, whatever their numbers.
func TestTheOrderOfLines(t *testing.T) {
	wantShown(t, impl.Outcome{
		Answers: []impl.Answer{{Call: 2, Name: "b", Rev: 9}, {Call: 0, Name: "a", Rev: 3}, {Call: 2, Name: "b", Rev: 9}},
		Ran:     []impl.Ran{{Key: checkKey("b"), Rev: 4}, {Key: parseKey("z"), Rev: 2}, {Key: parseKey("a"), Rev: 2, Worker: 3}},
		Code:    1, Rev: 2, Drops: 3, Slots: 4,
	}, "answer 2 b 9\nanswer 0 a 3\nanswer 2 b 9\nran check b 4 0\nran parse z 2 0\nran parse a 2 3\nend 1 2 3 4\n")
}

var oddNumbers = []int{0, 1, 2, 3, 4, 9, 10, 12345678901234, -1, -2, -10, math.MaxInt, math.MinInt, math.MinInt + 1}

func oddName(d *dice) string {
	return pick(d, []string{"", "a", "if", "A", "x y", "\n", "\xff\x00", "é", "full", "-1:3", strings.Repeat("a", 100)})
}

func oddOutcome(d *dice) impl.Outcome {
	n := func() int { return pick(d, oddNumbers) }
	o := impl.Outcome{Code: n(), Drops: n(), Rev: n(), Slots: n(), Table: someTable(d, 5)}
	for range d.roll(4) {
		a := impl.Answer{Call: n(), Name: oddName(d), Rev: n(), Full: d.roll(2) == 0}
		for range d.roll(4) {
			a.Diags = append(a.Diags, impl.Diag{Decl: n(), Code: n()})
		}
		o.Answers = append(o.Answers, a)
	}
	for range d.roll(4) {
		o.Ran = append(o.Ran, impl.Ran{Key: impl.Key{Kind: n(), Mod: oddName(d)}, Rev: n(), Worker: n()})
	}
	return o
}

func TestShowOutcomeAgainstPlainWords(t *testing.T) {
	d := dice(64)
	for range 3000 {
		o := oddOutcome(&d)
		wantShown(t, o, plainShow(o))
	}
	manySessions(65, 300, func(_ *dice, workers int, capacity int, events []impl.Event) {
		o := impl.Drive(workers, capacity, events)
		wantShown(t, o, plainShow(o))
	})
}

func roomyOutcome(o impl.Outcome) impl.Outcome {
	o.Ran, o.Answers = roomy(o.Ran), roomy(o.Answers)
	for i, a := range o.Answers {
		o.Answers[i].Diags = roomy(a.Diags)
	}
	return o
}

// allOf tells the room of the lists too.
func allOf(o impl.Outcome) string {
	out := fmt.Sprintf("%+v %+v %+v", o, o.Ran[:cap(o.Ran)], o.Answers[:cap(o.Answers)])
	for _, a := range o.Answers {
		out += fmt.Sprintf(" %+v", a.Diags[:cap(a.Diags)])
	}
	return out
}

func TestShowOutcomeWritesNothing(t *testing.T) {
	d := dice(66)
	for range 300 {
		o := roomyOutcome(oddOutcome(&d))
		before := allOf(o)
		first := impl.ShowOutcome(o)
		wantOwnTexts(t, o, first)
		if allOf(o) != before {
			t.Fatalf("%s has become %s", before, allOf(o))
		}
		if second := impl.ShowOutcome(o); second != first {
			t.Fatalf("%q and then %q", first, second)
		}
	}
}
