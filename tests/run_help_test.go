package tests

import (
	"fmt"
	"regexp"
	"slices"
	"strings"
	"testing"

	"loop.example/s15618/impl"
)

// head is that of most scripts here, for two workers.
const head = "workers 2\ncapacity 50\n"

func scriptLine(e impl.Event) string {
	switch e.Kind {
	case impl.EvAsk:
		return "ask " + e.Name
	case impl.EvEdit:
		return "edit " + e.Name + " " + strings.ReplaceAll(e.Text, "\n", "|")
	case impl.EvDrop:
		return "drop " + e.Name
	}
	return fmt.Sprint("pick ", e.Worker)
}

func scriptText(workers int, capacity int, events []impl.Event) string {
	text := fmt.Sprintf("workers %d\ncapacity %d\n", workers, capacity)
	for _, e := range events {
		text += scriptLine(e) + "\n"
	}
	return text
}

func scriptShown(s impl.Script) string {
	return fmt.Sprintf("%d workers, capacity %d: %s", s.Workers, s.Capacity, eventsText(s.Events))
}

func wantScript(t *testing.T, text string, workers int, capacity int, want ...impl.Event) {
	t.Helper()
	s, code := impl.ParseScript(text)
	if code != 0 || s.Workers != workers || s.Capacity != capacity || !slices.Equal(s.Events, want) {
		t.Errorf("%.300q gives code %d, %.300s, want %.300s", text, code, scriptShown(s), scriptShown(impl.Script{Workers: workers, Capacity: capacity, Events: want}))
	}
}

func wantBadLine(t *testing.T, text string, want int) {
	t.Helper()
	s, code := impl.ParseScript(text)
	if code != want || s.Workers != 0 || s.Capacity != 0 || len(s.Events) != 0 {
		t.Errorf("%.300q gives code %d, %.300s, want %d and nothing else", text, code, scriptShown(s), want)
	}
	if got := impl.Run(text); got != fmt.Sprintf("bad line %d\n", want) {
		t.Errorf("the run of %.300q gives %.300q, want the bad line %d", text, got, want)
	}
}

// What follows goes by the words of the document: every line is held against a
// pattern, and all that is wrong is gathered before the first is told.

const numberForm = `(0|[1-9][0-9]{0,5})`

var (
	workersForm  = regexp.MustCompile(`\Aworkers ` + numberForm + `\z`)
	capacityForm = regexp.MustCompile(`\Acapacity ` + numberForm + `\z`)
	askForm      = regexp.MustCompile(`\Aask ([^ ]*)\z`)
	editForm     = regexp.MustCompile(`(?s)\Aedit ([^ ]*) (.*)\z`)
	dropForm     = regexp.MustCompile(`\Adrop ([^ ]*)\z`)
	pickForm     = regexp.MustCompile(`\Apick ` + numberForm + `\z`)
)

func plainHead(lines []string, index int, form *regexp.Regexp, most int) int {
	if index < len(lines) {
		if m := form.FindStringSubmatch(lines[index]); m != nil && number(m[1]) >= 1 && number(m[1]) <= most {
			return number(m[1])
		}
	}
	return 0
}

func plainLine(line string, workers int) (impl.Event, bool) {
	if m := askForm.FindStringSubmatch(line); m != nil {
		return ask(m[1]), len(m[1]) <= 12
	}
	if m := dropForm.FindStringSubmatch(line); m != nil {
		return drop(m[1]), len(m[1]) <= 12
	}
	if m := editForm.FindStringSubmatch(line); m != nil {
		return edit(m[1], strings.Join(strings.Split(m[2], "|"), "\n")), len(m[1]) <= 12 && len(m[2]) <= 1000
	}
	if m := pickForm.FindStringSubmatch(line); m != nil {
		return pickOf(number(m[1])), number(m[1]) < workers
	}
	return impl.Event{}, false
}

func plainScript(text string) (impl.Script, int) {
	if len(text) > 40000 {
		return impl.Script{}, 1
	}
	lines := strings.Split(text, "\n")
	if lines[len(lines)-1] == "" {
		lines = lines[:len(lines)-1]
	}
	s := impl.Script{Workers: plainHead(lines, 0, workersForm, 16), Capacity: plainHead(lines, 1, capacityForm, 4096)}
	var wrong []int
	if s.Workers == 0 {
		wrong = append(wrong, 1)
	}
	if s.Capacity == 0 {
		wrong = append(wrong, 2)
	}
	if len(lines) > 5002 {
		wrong = append(wrong, 5003)
	}
	for i := 2; i < len(lines); i++ {
		e, ok := plainLine(lines[i], s.Workers)
		s.Events = append(s.Events, e)
		if !ok {
			wrong = append(wrong, 1+i)
		}
	}
	if len(wrong) > 0 {
		return impl.Script{}, slices.Min(wrong)
	}
	return s, 0
}

func plainShow(o impl.Outcome) string {
	var out strings.Builder
	for _, a := range o.Answers {
		fmt.Fprintf(&out, "answer %d %s %d", a.Call, a.Name, a.Rev)
		if a.Full {
			out.WriteString(" full")
		}
		for _, d := range a.Diags {
			fmt.Fprintf(&out, " %d:%d", d.Decl, d.Code)
		}
		out.WriteByte('\n')
	}
	words := map[int]string{1: "parse", 2: "sign", 3: "check"}
	for _, r := range o.Ran {
		word := words[r.Key.Kind]
		if word == "" {
			word = "key"
		}
		fmt.Fprintf(&out, "ran %s %s %d %d\n", word, r.Key.Mod, r.Rev, r.Worker)
	}
	fmt.Fprintf(&out, "end %d %d %d %d\n", o.Code, o.Rev, o.Drops, o.Slots)
	return out.String()
}

// plainRun uses nothing of the program but what a session's worker reads.
func plainRun(text string) string {
	s, code := plainScript(text)
	if code != 0 {
		return fmt.Sprintf("bad line %d\n", code)
	}
	o, _ := plainDrive(s.Workers, s.Capacity, s.Events)
	return plainShow(o)
}

// spoiltScript has one to three bytes or lines changed, so that most lines are
// as they were; some changes do no harm.
func spoiltScript(d *dice, text string) string {
	for range 1 + d.roll(3) {
		lines := strings.Split(text, "\n")
		at, to := d.roll(len(lines)), d.roll(len(lines))
		if d.roll(3) == 0 {
			at = d.roll(min(4, len(lines)))
		}
		line := lines[at]
		place := d.roll(len(line) + 1)
		switch d.roll(8) {
		case 0, 1:
			lines[at] = line[:place] + pick(d, []string{" ", "|", "0", "1", "-", "a", "\n", "\xff", "\x00", "\r", "k"}) + line[place:]
		case 2, 3:
			lines[at] = line[:place] + line[min(place+1, len(line)):]
		case 4:
			lines[at] = line[:place]
		case 5:
			lines[at], lines[to] = lines[to], line
		case 6:
			lines = slices.Insert(lines, to, line)
		case 7:
			lines = slices.Delete(lines, at, at+1)
		}
		text = strings.Join(lines, "\n")
	}
	return text
}

// manyScripts calls look with scripts of which about half are bad.
func manyScripts(seed dice, rounds int, look func(d *dice, text string)) {
	manySessions(seed, rounds, func(d *dice, workers int, capacity int, events []impl.Event) {
		text := scriptText(workers, capacity, events)
		look(d, text)
		look(d, spoiltScript(d, text))
	})
}
