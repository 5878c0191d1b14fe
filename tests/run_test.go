package tests

import (
	"runtime"
	"strings"
	"sync"
	"testing"

	"loop.example/s15618/impl"
)

// wantRun takes the lines of a script and those of its run.
func wantRun(t *testing.T, script []string, want ...string) {
	t.Helper()
	lines := strings.Join(want, "\n") + "\n"
	for _, text := range []string{strings.Join(script, "\n"), strings.Join(script, "\n") + "\n"} {
		if got := impl.Run(text); got != lines {
			t.Errorf("%q gives\n%s\nwant\n%s", text, got, lines)
		}
	}
	if got := plainRun(strings.Join(script, "\n")); got != lines {
		t.Errorf("%q gives by the second reading\n%s\nwant\n%s", script, got, lines)
	}
}

func TestARunOfEveryKindOfLine(t *testing.T) {
	wantRun(t, []string{
		"workers 2", "capacity 99",
		"edit b val x: int = 1;|type t = bool;", "edit a import b;|val y: b:t = b:x;|oops",
		"ask a", "pick 1", "pick 1", "edit c ", "drop c", "ask c",
	},
		"answer 1 c 5 -1:3", "answer 0 a 5 1:8 2:1",
		"ran parse c 5 0", "ran parse a 5 1", "ran check c 5 0", "ran parse b 5 1", "ran sign b 5 1", "ran check a 5 1",
		"end 0 5 1 6")
}

func TestRunsOfNothing(t *testing.T) {
	wantRun(t, []string{"workers 1", "capacity 1"}, "end 0 1 0 0")
	wantRun(t, []string{"workers 16", "capacity 4096"}, "end 0 1 0 0")
	wantRun(t, []string{"workers 2", "capacity 9", "pick 0", "pick 1", "edit a x", "drop b", "edit A x", "drop a"}, "end 0 3 0 0")
}

func TestRunsWithoutDiags(t *testing.T) {
	wantRun(t, []string{"workers 1", "capacity 9", "edit a import b;|val y: int = b:x;", "edit b val x: int = 1;", "ask a"},
		"answer 0 a 3", "ran parse a 3 0", "ran parse b 3 0", "ran sign b 3 0", "ran check a 3 0", "end 0 3 0 4")
	wantRun(t, []string{"workers 1", "capacity 9", "edit a ", "ask a"}, "answer 0 a 2", "ran parse a 2 0", "ran check a 2 0", "end 0 2 0 2")
}

// A bar ends a comment as a newline does, and a space is no part of the name.
func TestRunsOfTextsWithBarsAndSpaces(t *testing.T) {
	wantRun(t, []string{"workers 1", "capacity 9", "edit a   # import b;|val x: int = true; # |oops", "ask a"},
		"answer 0 a 2 0:8 1:1", "ran parse a 2 0", "ran check a 2 0", "end 0 2 0 2")
	wantRun(t, []string{"workers 1", "capacity 9", "edit a # import b; val x: int = true; # oops", "ask a"},
		"answer 0 a 2", "ran parse a 2 0", "ran check a 2 0", "end 0 2 0 2")
}

func TestRunsThatAreFull(t *testing.T) {
	wantRun(t, []string{"workers 1", "capacity 1", "ask a", "ask "}, "answer 1  1 -1:3", "answer 0 a 1 full", "end 0 1 0 0")
	wantRun(t, []string{"workers 1", "capacity 3", "edit a import b;", "ask a", "ask b", "ask c"},
		"answer 0 a 2 full", "answer 1 b 2 -1:3", "answer 2 c 2 full",
		"ran parse a 2 0", "ran parse b 2 0", "ran check b 2 0", "end 0 2 0 3")
}

func TestRunsWithDrops(t *testing.T) {
	wantRun(t, []string{
		"workers 1", "capacity 50", "edit a import a;", "ask a", "pick 0", "pick 0", "pick 0",
		"edit a val x: int = true;", "ask a", "ask A", "edit a ",
	},
		"answer 2 A 3 -1:3", "answer 0 a 4", "answer 1 a 4", "ran parse a 4 0", "ran check a 4 0", "end 0 4 1 2")
}

func TestRunsOfNamesThatAreNotGood(t *testing.T) {
	wantRun(t, []string{"workers 1", "capacity 1", "ask ", "ask if", "ask |", "ask \xff", "edit  x", "drop ", "ask 0"},
		"answer 0  1 -1:3", "answer 1 if 1 -1:3", "answer 2 | 1 -1:3", "answer 3 \xff 1 -1:3", "answer 4 0 1 -1:3", "end 0 1 0 0")
}

func TestARunWithCallsLeft(t *testing.T) {
	got := impl.Run(scriptText(1, 3, leftHolding()))
	if !strings.HasPrefix(got, "answer 0 a 2 full\nanswer 1 a 2 full\n") || !strings.HasSuffix(got, "\nend 1 2 0 2\n") {
		t.Errorf("%.100s .. %s", got, got[max(0, len(got)-100):])
	}
}

// Promise 18, with the program's own functions and with the second readings.
func TestPromise18(t *testing.T) {
	good, bad := 0, 0
	manyScripts(67, 1500, func(_ *dice, text string) {
		got := impl.Run(text)
		s, code := impl.ParseScript(text)
		if code == 0 {
			good++
			if want := impl.ShowOutcome(impl.Drive(s.Workers, s.Capacity, s.Events)); got != want {
				t.Fatalf("%q gives\n%s\nits outcome is\n%s", text, got, want)
			}
		} else {
			bad++
			wantBadLine(t, text, code)
		}
		if want := plainRun(text); got != want {
			t.Fatalf("%q gives\n%s\nit should give\n%s", text, got, want)
		}
	})
	if good < 500 || bad < 500 {
		t.Errorf("%d scripts were good and %d bad", good, bad)
	}
}

func TestTheSameTextAtEveryRun(t *testing.T) {
	before := runtime.NumGoroutine()
	manyScripts(68, 60, func(_ *dice, text string) {
		want := impl.Run(text)
		for range 5 {
			if got := impl.Run(text); got != want {
				t.Fatalf("%q gives\n%s\nit gave\n%s", text, got, want)
			}
		}
		wantNewTexts(t, text, want)
	})
	wantGoroutines(t, before)
}

func TestRunsAtTheSameTime(t *testing.T) {
	var running sync.WaitGroup
	manyScripts(69, 100, func(_ *dice, text string) {
		want := impl.Run(text)
		running.Go(func() {
			if got := impl.Run(text); got != want {
				t.Errorf("%q gives\n%s\nit gave\n%s", text, got, want)
			}
		})
	})
	running.Wait()
}
