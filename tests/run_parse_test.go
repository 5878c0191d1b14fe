package tests

import (
	"fmt"
	"slices"
	"strings"
	"testing"

	"loop.example/s15618/impl"
)

func TestEveryKindOfLine(t *testing.T) {
	text := head + "edit a import b;|val x: int = 1;\nask a\npick 1\ndrop a\npick 0\nask b\nedit a "
	want := []impl.Event{edit("a", "import b;\nval x: int = 1;"), ask("a"), pickOf(1), drop("a"), pickOf(0), ask("b"), edit("a", "")}
	wantScript(t, text, 2, 50, want...)
	wantScript(t, text+"\n", 2, 50, want...)
	wantBadLine(t, text+"\n\n", 10)
}

func TestScriptsOfFewLines(t *testing.T) {
	wantScript(t, "workers 2\ncapacity 50", 2, 50)
	wantScript(t, "workers 2\ncapacity 50\n", 2, 50)
	wantScript(t, "workers 1\ncapacity 1\nask a", 1, 1, ask("a"))
	for text, code := range map[string]int{
		"": 1, "\n": 1, "\n\n": 1, " ": 1, "x": 1, "\x00": 1,
		"workers 2": 2, "workers 2\n": 2, "workers 2\n\n": 2, "workers 2\n\n\n": 2, "workers 2\n ": 2,
		"workers": 1, "workers\n": 1, "workers ": 1, "capacity 50": 1, "ask a": 1, "workers 0": 1, "workers 17\n": 1,
		"workers 2\ncapacity 50\n\n": 3, "workers 2\ncapacity 50\n\n\n": 3, "workers 2\ncapacity 50\n ": 3,
		"\nworkers 2\ncapacity 50": 1, "workers 2\n\ncapacity 50": 2,
	} {
		wantBadLine(t, text, code)
	}
}

func TestEmptyLines(t *testing.T) {
	wantScript(t, head+"ask a\nask b\n", 2, 50, ask("a"), ask("b"))
	wantBadLine(t, head+"ask a\n\nask b\n", 4)
	wantBadLine(t, head+"ask a\nask b\n\n", 5)
	wantBadLine(t, head+"\nask a\nask b", 3)
	wantBadLine(t, head+"ask a\n\n\n\n", 4)
}

func TestTextsWithBarsAndSpaces(t *testing.T) {
	for rest, text := range map[string]string{
		"": "", " ": " ", "   ": "   ", "|": "\n", "||": "\n\n", "| |": "\n \n",
		"x": "x", " x": " x", "x ": "x ", "  x  y  ": "  x  y  ",
		"|x": "\nx", "x|": "x\n", "x||y": "x\n\ny", " | x | ": " \n x \n ",
		"ask a": "ask a", "edit a x|pick 0": "edit a x\npick 0", "a b c d": "a b c d",
		"\\|": "\\\n", "\\n": "\\n", "\r": "\r", "\t|\xff\x00": "\t\n\xff\x00", "é|ü": "é\nü", "workers 2|capacity 1": "workers 2\ncapacity 1",
	} {
		wantScript(t, head+"edit a "+rest, 2, 50, edit("a", text))
		wantScript(t, head+"edit a "+rest+"\npick 1\n", 2, 50, edit("a", text), pickOf(1))
		wantScript(t, head+"edit  "+rest, 2, 50, edit("", text))
		wantScript(t, head+"ask b\nedit | "+rest, 2, 50, ask("b"), edit("|", text))
	}
}

// A bar means a newline in a text alone; what a name may be is the engine's business.
func TestNamesOfScripts(t *testing.T) {
	for _, name := range []string{"", "a", "|", "a|b", "A", "if", "import", "0", "-1", "ask", "a\tb", "\r", "\x00", "\xff\xfe", "é", "éééééé", strings.Repeat("|", 12), twelve, strings.Repeat("\xff", 12)} {
		wantScript(t, head+"ask "+name+"\ndrop "+name+"\nedit "+name+" x y\nedit "+name+" ", 2, 50, ask(name), drop(name), edit(name, "x y"), edit(name, ""))
	}
	for _, name := range []string{thirteen, strings.Repeat("|", 13), "ééééééa", "ééééééé", strings.Repeat("a", 1000), " ", "a b", " a", "a ", "  ", "a  b"} {
		wantBadLine(t, head+"ask "+name, 3)
		wantBadLine(t, head+"drop "+name, 3)
		wantBadLine(t, head+"ask a\nedit b \ndrop "+name+"\nask a\n", 5)
	}
	for _, name := range []string{thirteen, strings.Repeat("|", 13), "ééééééa", "ééééééé", strings.Repeat("a", 1000)} {
		wantBadLine(t, head+"edit "+name+" x", 3)
		wantBadLine(t, head+"edit "+name+" ", 3)
		wantBadLine(t, head+"edit "+name, 3)
	}
}

func TestTextsOfScriptsAtMaxText(t *testing.T) {
	for _, unit := range []string{"x", "|", " ", "x|", "|| ", "é", "\xff", "import a;|"} {
		long := strings.Repeat(unit, 1000)[:impl.MaxText]
		want := edit("a", strings.ReplaceAll(long, "|", "\n"))
		wantScript(t, head+"edit a "+long, 2, 50, want)
		wantScript(t, head+"edit a "+long+"\nask a\n", 2, 50, want, ask("a"))
		for _, more := range []string{"x", "|", " ", "é"} {
			wantBadLine(t, head+"edit a "+long+more, 3)
			wantBadLine(t, head+"edit a "+more+long, 3)
			wantBadLine(t, head+"pick 0\nedit  "+more+long+"\npick 2", 4)
		}
	}
	// the name and the word are no part of the text
	wantScript(t, head+"edit "+twelve+" "+strings.Repeat("x", 1000), 2, 50, edit(twelve, strings.Repeat("x", 1000)))
}

func TestWorkersOfScripts(t *testing.T) {
	for _, workers := range []int{1, 2, 9, 10, impl.MaxWorkers} {
		text := fmt.Sprintf("workers %d\ncapacity 7\n", workers)
		wantScript(t, text, workers, 7)
		wantScript(t, text+fmt.Sprint("pick ", workers-1), workers, 7, pickOf(workers-1))
		wantScript(t, text+"pick 0", workers, 7, pickOf(0))
		for _, worker := range []int{workers, workers + 1, 99, 999999, 1000000} {
			wantBadLine(t, text+fmt.Sprint("pick ", worker), 3)
			wantBadLine(t, text+fmt.Sprint("pick 0\nask a\npick ", worker, "\npick 0\n"), 5)
		}
	}
	for _, workers := range []int{0, impl.MaxWorkers + 1, 100, 999999, 1000000} {
		wantBadLine(t, fmt.Sprintf("workers %d\ncapacity 7\n", workers), 1)
		wantBadLine(t, fmt.Sprintf("workers %d\ncapacity 7\npick 0\n", workers), 1)
	}
}

func TestCapacitiesOfScripts(t *testing.T) {
	for _, capacity := range []int{1, 2, 10, 4095, impl.MaxSlots} {
		wantScript(t, fmt.Sprintf("workers 3\ncapacity %d", capacity), 3, capacity)
	}
	for _, capacity := range []int{0, impl.MaxSlots + 1, 10000, 999999, 1000000} {
		wantBadLine(t, fmt.Sprintf("workers 3\ncapacity %d", capacity), 2)
		wantBadLine(t, fmt.Sprintf("workers 3\ncapacity %d\nlook\n", capacity), 2)
	}
}

// notNumbers would be 0 or 1, or near it, to a reader that is less strict.
var notNumbers = []string{
	"", " ", "00", "01", "000001", "+0", "+1", "-0", "-1", "--1", "1-", " 1", "1 ", "0 ", "1  ", "1 1", "1\r", "\t1", "1\x00", "1|", "1;",
	"0x1", "0b1", "0o1", "1_0", "1_", "_1", "1.0", "1.", ".1", "1e0", "1,0", "one", "a", "x1", "1x", "true", "N", "١", "１", "½", "\xff", "\xb1",
	"1000000", "9999999999", "9223372036854775807", "9223372036854775808", "18446744073709551617", "4294967297", strings.Repeat("0", 99) + "1", strings.Repeat("1", 900),
}

func TestNumbersThatAreNone(t *testing.T) {
	for _, n := range notNumbers {
		wantBadLine(t, "workers "+n+"\ncapacity 1\n", 1)
		wantBadLine(t, "workers 2\ncapacity "+n+"\n", 2)
		wantBadLine(t, "workers 2\ncapacity "+n+"\nask a\n", 2)
		wantBadLine(t, head+"pick "+n, 3)
		wantBadLine(t, head+"ask a\npick "+n+"\nask a", 4)
	}
}

// badEvents are wrong each in one way, whatever the number of workers.
var badEvents = []string{
	"", " ", "  ", "|", "\x00", "\r", "#",
	"look", "look a", "ASK a", "Ask a", "aska", "asks a", "as a", "a", "ask\ta", "ask|a", "ask\xffa", "\xffask a",
	"edits a x", "edi a x", "dropa", "drops a", "picks 0", "pick0", "workers 2", "capacity 50", "end", "key a",
	"ask", "drop", "edit", "pick",
	"edit ", "edit a", "edit ab", "pick ",
	" ask a", " edit a x", " drop a", " pick 0",
	"ask a ", "ask  a", "ask  ", "ask   ", "ask a b", "ask a  ", "drop a ", "drop  a", "drop  ", "drop a b", "ask a\x20\x20b",
	"pick 0 ", "pick  0", "pick 0 0", "pick 0 1", "pick  ", "pick a", "pick -1", "pick 00", "pick 01", "pick +0", "pick 16",
	"ask a\r\r\r\r\r\r\r\r\r\r\r\r", "ask " + thirteen, "drop " + thirteen, "edit " + thirteen + " ", "edit a " + strings.Repeat("|", 1001),
}

func TestLinesThatAreNone(t *testing.T) {
	good := []string{"ask a", "edit a  x |", "drop ", "pick 1", "edit  ", "ask "}
	for _, line := range badEvents {
		for at := range good {
			lines := slices.Insert(slices.Clone(good), at, line)
			wantBadLine(t, head+strings.Join(lines, "\n"), 3+at)
			wantBadLine(t, head+strings.Join(lines, "\n")+"\n", 3+at)
		}
		if line != "" {
			wantBadLine(t, head+strings.Join(good, "\n")+"\n"+line, 9)
		}
		wantBadLine(t, head+strings.Join(good, "\n")+"\n"+line+"\n", 9)
	}
}

func TestHeadLinesThatAreNone(t *testing.T) {
	for _, line := range []string{
		"workers", "workers ", "workers  2", "workers 2 ", "workers 2 2", " workers 2", "Workers 2", "worker 2", "workers2", "workers|2", "workers a", "workers -2", "workers\t2",
		"capacity 50", "ask a", "edit a x", "drop a", "pick 0", "",
	} {
		wantBadLine(t, line+"\ncapacity 50\n", 1)
		wantBadLine(t, line+"\ncapacity 50\nask a\n", 1)
		wantBadLine(t, line+"\nlook\nlook", 1)
	}
	for _, line := range []string{
		"capacity", "capacity ", "capacity  50", "capacity 50 ", "capacity 50 50", " capacity 50", "Capacity 50", "capacit 50", "capacity50", "capacity a", "capacity -50", "capacity\t50",
		"workers 2", "ask a", "edit a x", "drop a", "pick 0", "",
	} {
		wantBadLine(t, "workers 2\n"+line+"\n", 2)
		wantBadLine(t, "workers 2\n"+line+"\nask a\n", 2)
		wantBadLine(t, "workers 2\n"+line+"\nlook\nlook", 2)
	}
}

func TestLinesInTheWrongOrder(t *testing.T) {
	wantBadLine(t, "capacity 50\nworkers 2\n", 1)
	wantBadLine(t, "ask a\nworkers 2\ncapacity 50\n", 1)
	wantBadLine(t, "workers 2\nask a\ncapacity 50\n", 2)
	wantBadLine(t, "workers 2\nworkers 2\ncapacity 50\n", 2)
	wantBadLine(t, "workers 2\ncapacity 50\nworkers 2\n", 3)
	wantBadLine(t, "workers 2\ncapacity 50\ncapacity 50\n", 3)
	wantBadLine(t, "workers 2\ncapacity 50\nask a\nworkers 3\n", 4)
}

func TestTheFirstOfSeveralBadLines(t *testing.T) {
	wantBadLine(t, "workers 0\ncapacity 0\nlook\n", 1)
	wantBadLine(t, "workers 2\ncapacity 0\nlook\n", 2)
	wantBadLine(t, head+"ask a\nlook\npick 2\n\n", 4)
	wantBadLine(t, head+"pick 2\nlook\n", 3)
	wantBadLine(t, head+"\nask", 3)
	// a pick that only a bad number of workers would allow
	wantBadLine(t, "workers 17\ncapacity 50\npick 16", 1)
}

func TestMaxEventsOfScripts(t *testing.T) {
	most := strings.Repeat("pick 0\n", impl.MaxEvents)
	wantScript(t, head+most, 2, 50, picks(0, impl.MaxEvents)...)
	wantScript(t, head+strings.TrimSuffix(most, "\n"), 2, 50, picks(0, impl.MaxEvents)...)
	for _, more := range []string{"pick 0", "pick 0\n", "\n", "pick 2", "look\n", "pick 0\nlook", "pick 0\npick 0\n", "\n\n\n", "ask"} {
		wantBadLine(t, head+most+more, impl.MaxEvents+3)
	}
	// a bad line besides
	for at, code := range map[int]int{0: 3, 1: 4, 2500: 2503, impl.MaxEvents - 1: impl.MaxEvents + 2, impl.MaxEvents: impl.MaxEvents + 3, impl.MaxEvents + 1: impl.MaxEvents + 3} {
		lines := slices.Repeat([]string{"ask "}, impl.MaxEvents+2)
		lines[at] = "pick 2"
		wantBadLine(t, head+strings.Join(lines, "\n"), code)
	}
	wantBadLine(t, "workers 17\ncapacity 50\n"+most+"pick 0\n", 1)
	wantBadLine(t, "workers 2\ncapacity 4097\n"+most+"pick 0\n", 2)
}

// fullScript has so many bytes, and its last line no newline.
func fullScript(size int) (string, []impl.Event) {
	text := head
	var all []impl.Event
	for len(text) < size {
		long := min(impl.MaxText, size-len(text)-len("edit a \n")+1)
		if left := size - len(text) - len("edit a \n") - long; 0 < left && left < 20 {
			long -= 20
		}
		e := edit("a", strings.Repeat("x", long))
		all = append(all, e)
		text += scriptLine(e)
		if len(text) < size {
			text += "\n"
		}
	}
	return text, all
}

func TestMaxScript(t *testing.T) {
	for _, size := range []int{100, 1500, impl.MaxScript - 1, impl.MaxScript} {
		text, all := fullScript(size)
		if len(text) != size {
			t.Fatalf("%d bytes, there should be %d", len(text), size)
		}
		wantScript(t, text, 2, 50, all...)
		if size < impl.MaxScript {
			wantScript(t, text+"\n", 2, 50, all...)
		}
	}
	text, _ := fullScript(impl.MaxScript)
	wantBadLine(t, text+"\n", 1)
	wantBadLine(t, text+"x", 1)
	wantBadLine(t, text+text, 1)
	wantBadLine(t, head+strings.Repeat("look\n", 9000), 1)
	wantBadLine(t, strings.Repeat("\n", impl.MaxScript+1), 1)
	// no more than MaxScript bytes: the first line that is wrong is told
	wantBadLine(t, text[:impl.MaxScript-20]+"\nlook\n", strings.Count(text, "\n")+2)
	wantBadLine(t, head+strings.Repeat("\n", impl.MaxScript-len(head)), 3)
}

func TestParseScriptAgainstPlainWords(t *testing.T) {
	codes := map[int]int{}
	manyScripts(61, 3000, func(_ *dice, text string) {
		want, wantCode := plainScript(text)
		got, code := impl.ParseScript(text)
		if code != wantCode || scriptShown(got) != scriptShown(want) || !slices.Equal(got.Events, want.Events) {
			t.Fatalf("%q\ngives %d, %s\nit should give %d, %s", text, code, scriptShown(got), wantCode, scriptShown(want))
		}
		codes[min(code, 5)]++
	})
	for code := range 6 {
		if codes[code] < 50 {
			t.Errorf("code %d came only %d times", code, codes[code])
		}
	}
}

// The events come back from the script that was written of them.
func TestScriptsAndBack(t *testing.T) {
	manySessions(62, 500, func(_ *dice, workers int, capacity int, events []impl.Event) {
		text := scriptText(workers, capacity, events)
		wantScript(t, text, workers, capacity, events...)
		wantScript(t, strings.TrimSuffix(text, "\n"), workers, capacity, events...)
	})
}

func TestMemoryOfScripts(t *testing.T) {
	wantScriptApart(t, head)
	wantScriptApart(t, head+"edit a no bar\nedit a a|bar\nask bcd\ndrop efg\nedit name \nedit  text")
	wantScriptApart(t, head+"edit long "+strings.Repeat("x", 1000)+"\nedit long "+strings.Repeat("|", 1000))
	wantScriptApart(t, head+"edit a no bar\nask bcd\nlook")
	manyScripts(63, 200, func(_ *dice, text string) { wantScriptApart(t, text) })
}

func wantScriptApart(t *testing.T, text string) {
	t.Helper()
	before := copyText(text)
	first, code := impl.ParseScript(text)
	want := scriptShown(first)
	wantNewTexts(t, text, first)
	spoil(first.Events, impl.Event{Kind: -7})
	second, again := impl.ParseScript(text)
	wantApart(t, first, second)
	if again != code || scriptShown(second) != want || text != before {
		t.Fatalf("%q, which was %q, gives %s, it gave %s", text, before, scriptShown(second), want)
	}
}
