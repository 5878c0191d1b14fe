package tests

import (
	"fmt"
	"slices"
	"strings"
	"testing"

	"loop.example/s15618/impl"
)

func importsIn(events []impl.Event) int {
	count := 0
	for _, e := range events {
		for _, decl := range parse(e.Text) {
			if decl.Kind == impl.DImport {
				count++
			}
		}
	}
	return count
}

// wantRightAnswers is promise 13.
func wantRightAnswers(t *testing.T, events []impl.Event, o impl.Outcome) {
	t.Helper()
	h := historyOf(events)
	before := 1
	for _, a := range o.Answers {
		switch {
		case a.Rev < before || a.Rev < h.asked[a.Call] || a.Rev > h.last() || a.Name != h.names[a.Call]:
			t.Fatalf("%s\n%s", eventsText(events), outcomeText(o))
		case a.Full && len(a.Diags) > 0, !plainName(a.Name) && (a.Full || a.Rev != h.asked[a.Call] || diagsText(a.Diags) != "-1:3"):
			t.Fatalf("%s\n%s", eventsText(events), outcomeText(o))
		case plainName(a.Name) && !a.Full && diagsText(a.Diags) != diagsText(impl.Diagnose(h.srcs[a.Rev], a.Name)):
			t.Fatalf("%s\n%s: should have %q", eventsText(events), answerText(a), diagsText(impl.Diagnose(h.srcs[a.Rev], a.Name)))
		}
		before = a.Rev
	}
}

// wantAllAnswered is promise 14.
func wantAllAnswered(t *testing.T, capacity int, events []impl.Event, o impl.Outcome) {
	t.Helper()
	calls := len(historyOf(events).asked)
	answered := make([]int, calls)
	for _, a := range o.Answers {
		answered[a.Call]++
	}
	if o.Code == 0 && slices.ContainsFunc(answered, func(times int) bool { return times != 1 }) {
		t.Fatalf("%s\n%s", eventsText(events), outcomeText(o))
	}
	if calls <= 16 && importsIn(events) <= 200 && o.Code != 0 {
		t.Fatalf("%s\n%s", eventsText(events), outcomeText(o))
	}
	if o.Slots > capacity || o.Slots != len(o.Table.Slots) || !impl.ValidTable(o.Table) {
		t.Fatalf("%s\n%s", eventsText(events), outcomeText(o))
	}
}

// wantRightSlots is promise 19.
func wantRightSlots(t *testing.T, events []impl.Event, o impl.Outcome) int {
	t.Helper()
	h := historyOf(events)
	if o.Rev != h.last() {
		t.Fatalf("%s\n%s", eventsText(events), outcomeText(o))
	}
	verified := 0
	for _, s := range o.Table.Slots {
		if !s.Has || s.Verified != o.Rev {
			continue
		}
		verified++
		if want := impl.Value(h.srcs[o.Rev], s.Key); s.Value != want {
			t.Fatalf("%s\n%s: should be %q", eventsText(events), tableText(table(s)), want)
		}
	}
	return verified
}

// Promises 13, 14 and 19.
func TestAnswersAndSlotsAreRight(t *testing.T) {
	verified, answers := 0, 0
	manySessions(61, 5000, func(_ *dice, workers int, capacity int, events []impl.Event) {
		o := impl.Drive(workers, capacity, events)
		wantRightAnswers(t, events, o)
		wantAllAnswered(t, capacity, events, o)
		verified += wantRightSlots(t, events, o)
		answers += len(o.Answers)
	})
	if verified < 10000 || answers < 10000 {
		t.Errorf("only %d slots and %d answers", verified, answers)
	}
}

// Promises 13 and 19, by the second reading of what is right.
func TestAnswersAndSlotsByPlainWords(t *testing.T) {
	d := dice(62)
	manySources(63, 150, func(_ *dice, srcs []impl.Source) {
		var all []impl.Event
		for _, src := range srcs {
			all = append(all, edit(src.Name, src.Text), ask(pick(&d, moduleNames)))
			all = append(all, picks(d.roll(2), d.roll(40))...)
		}
		o := impl.Drive(2, impl.MaxSlots, all)
		h := historyOf(all)
		for _, a := range o.Answers {
			if want := diagsText(plainDiagnose(h.srcs[a.Rev], a.Name)); diagsText(a.Diags) != want {
				t.Errorf("%s\n%s: should have %q", eventsText(all), answerText(a), want)
			}
		}
		for _, s := range o.Table.Slots {
			if s.Key.Kind == impl.KSign && s.Verified == o.Rev && s.Value != plainSignValue(plainSignature(h.srcs[o.Rev], s.Key.Mod)) {
				t.Errorf("%s\n%s", eventsText(all), tableText(table(s)))
			}
		}
	})
}

// Promises 13 and 19 where a circle is gone before all answers around it are made:
// sign b may be circular then, and sign a as it was before there was a circle.
func TestACircleThatIsCancelled(t *testing.T) {
	start := events("edit a ", "edit b import a;", "edit c import b;", "edit d import a;", "ask c", "pick 0 40", "edit a import b;", "ask d")
	half := 0
	for n := range 40 {
		all := slices.Concat(start, picks(0, n), events("edit a ", "ask c", "ask d"))
		o := impl.Drive(1, impl.MaxSlots, all)
		wantRightAnswers(t, all, o)
		wantRightSlots(t, all, o)
		if ran := ranIn(o, 6); slices.Contains(ran, "sign b") && !slices.Contains(ran, "sign a") {
			half++
		}
	}
	if half == 0 {
		t.Error("no circle is left half made")
	}
}

// greatEvents have 16 calls and 200 imports, in eight modules that import each
// other and others; the imports are in rows of one text each, or all anew in every edit.
func greatEvents(d *dice, workers int) []impl.Event {
	var out []impl.Event
	left := 200
	for i := 0; left > 0; i++ {
		var text strings.Builder
		for range min(left, 1+d.roll(50)) {
			name := fmt.Sprintf("m%d", d.roll(9))
			if d.roll(3) > 0 {
				name = fmt.Sprintf("q%d", d.roll(200))
			}
			text.WriteString("import " + name + ";")
			left--
		}
		out = append(out, edit(fmt.Sprintf("m%d", i%8), text.String()))
	}
	for range 16 {
		at := len(out)
		if d.roll(2) == 0 {
			at = d.roll(at + 1)
		}
		out = slices.Insert(out, at, ask(fmt.Sprintf("m%d", d.roll(9))))
		out = append(out, picks(d.roll(workers), d.roll(30))...)
	}
	return out
}

// Promise 14 at its limits, with little room and with enough.
func TestGreatSessionsAreAnswered(t *testing.T) {
	d := dice(64)
	for range 150 {
		workers := pick(&d, []int{1, 1, 2, 5, 16})
		capacity := pick(&d, []int{1, 2, 5, 20, 100, 400, impl.MaxSlots})
		all := greatEvents(&d, workers)
		o := impl.Drive(workers, capacity, all)
		if o.Code != 0 || importsIn(all) != 200 {
			t.Fatalf("%s with %d imports", endText(o), importsIn(all))
		}
		wantRightAnswers(t, all, o)
		wantAllAnswered(t, capacity, all, o)
		wantRightSlots(t, all, o)
	}
}

// byCall has the answers in the order of the calls, without what may differ.
func byCall(o impl.Outcome) string {
	out := make([]string, len(o.Answers))
	for _, a := range o.Answers {
		out[a.Call] = fmt.Sprintf("%q %d %t %s", a.Name, a.Rev, a.Full, diagsText(a.Diags))
	}
	return strings.Join(out, "\n")
}

// Promise 15.
func TestAnswersHangOnNoWorkerAndNoPick(t *testing.T) {
	d := dice(65)
	for range 300 {
		var start []impl.Event
		for range d.roll(9) {
			start = append(start, edit(pick(&d, sessionMods[:4]), sessionText(&d)))
		}
		if d.roll(3) == 0 {
			start = append(start, drop(pick(&d, sessionMods)))
		}
		var calls []impl.Event
		for range 1 + d.roll(16) {
			calls = append(calls, ask(pick(&d, sessionMods)))
		}
		want := byCall(impl.Drive(1, impl.MaxSlots, slices.Concat(start, calls)))
		for _, workers := range []int{1, 2, 3, 7, 16} {
			all := slices.Clone(start)
			for _, call := range calls {
				all = append(all, call)
				for range d.roll(30) {
					all = append(all, pickOf(d.roll(workers)))
				}
			}
			o := impl.Drive(workers, impl.MaxSlots, all)
			if o.Code != 0 || len(o.Answers) != len(calls) || byCall(o) != want {
				t.Fatalf("%d workers: %s\ngives\n%s\nwant\n%s", workers, eventsText(all), byCall(o), want)
			}
		}
	}
}

// editSession is one call of a present module, one edit, and the call again, by
// one worker. It gives the outcome and the last revision.
func editSession(t *testing.T, srcs []impl.Source, name string, edited string, text string) (impl.Outcome, int) {
	t.Helper()
	var all []impl.Event
	for _, src := range srcs {
		all = append(all, edit(src.Name, src.Text))
	}
	all = slices.Concat(all, []impl.Event{ask(name)}, picks(0, 200), []impl.Event{edit(edited, text), ask(name)}, picks(0, 200))
	o := impl.Drive(1, impl.MaxSlots, all)
	if o.Code != 0 || len(o.Answers) != 2 || o.Answers[0].Rev != len(srcs)+1 || o.Answers[1].Rev != len(srcs)+2 || o.Rev != len(srcs)+2 {
		t.Fatalf("%s\n%s", eventsText(all), outcomeText(o))
	}
	return o, o.Rev
}

// sessionSources import each other more often than those of manySources.
func sessionSources(d *dice) []impl.Source {
	var out []impl.Source
	for _, name := range sessionMods[:2+d.roll(3)] {
		out = append(out, impl.Source{Name: name, Text: sessionText(d)})
	}
	return out
}

func circularIn(srcs []impl.Source, name string) bool {
	return impl.Signature(srcs, name).State == 2
}

// Promise 16.
func TestSpacesAndCommentsRunParseAlone(t *testing.T) {
	withCircles, without := 0, 0
	look := func(d *dice, srcs []impl.Source) {
		if len(srcs) == 0 {
			return
		}
		src := pick(d, srcs)
		text := spaced(d, plainTokens(src.Text))
		if text == src.Text || len(text) > impl.MaxText || !slices.Equal(textsOf(impl.Tokens(text)), textsOf(impl.Tokens(src.Text))) {
			return
		}
		o, last := editSession(t, srcs, src.Name, src.Name, text)
		ran := ranIn(o, last)
		if slices.Index(ran, "parse "+src.Name) < 0 {
			t.Errorf("%q of %q: %q ran", src.Name, srcs, ran)
		}
		for _, k := range ran {
			mod, isSign := strings.CutPrefix(k, "sign ")
			if k != "parse "+src.Name && !(isSign && circularIn(srcs, mod)) {
				t.Errorf("%q of %q: %q ran", src.Name, srcs, ran)
			}
		}
		if len(ran) > 1 {
			withCircles++
		} else {
			without++
		}
	}
	d := dice(66)
	for range 600 {
		look(&d, sessionSources(&d))
	}
	manySources(67, 200, look)
	if withCircles < 50 || without < 200 {
		t.Errorf("only %d and %d", withCircles, without)
	}
}

// Promise 17.
func TestWhatRunsAgain(t *testing.T) {
	again, not := 0, 0
	look := func(d *dice, srcs []impl.Source) {
		if len(srcs) == 0 {
			return
		}
		name, edited := pick(d, srcs).Name, d.roll(len(srcs))
		other := slices.Clone(srcs)
		other[edited].Text = pick(d, []string{sessionText(d), srcs[edited].Text + "val new: int = 1;", srcs[edited].Text + "oops;", otherExpr(d, srcs[edited].Text)})
		if other[edited].Text == srcs[edited].Text || len(other[edited].Text) > impl.MaxText {
			return
		}
		o, last := editSession(t, srcs, name, other[edited].Name, other[edited].Text)
		for _, r := range o.Ran {
			if r.Rev == last {
				break
			}
			if !slices.Contains(ranIn(o, last), shortKey(r.Key)) {
				not++
				continue
			}
			again++
			mod := r.Key.Mod
			isCircle := r.Key.Kind == impl.KSign && (circularIn(srcs, mod) || circularIn(other, mod))
			if mod != other[edited].Name && !slices.Contains(impl.Reach(other, mod), other[edited].Name) && !isCircle {
				t.Errorf("%q of %q with %q in %q: %s ran again", name, srcs, other[edited].Text, other[edited].Name, shortKey(r.Key))
			}
		}
	}
	d := dice(68)
	for range 1000 {
		look(&d, sessionSources(&d))
	}
	manySources(69, 300, look)
	if again < 500 || not < 500 {
		t.Errorf("only %d and %d", again, not)
	}
}
