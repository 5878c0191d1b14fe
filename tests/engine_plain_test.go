package tests

import (
	"slices"
	"testing"

	"loop.example/s15618/impl"
)

func wantDrive(t *testing.T, workers int, capacity int, events []impl.Event) (impl.Outcome, *plainSession) {
	t.Helper()
	want, p := plainDrive(workers, capacity, events)
	got := impl.Drive(workers, capacity, events)
	if outcomeText(got) != outcomeText(want) {
		t.Fatalf("%d workers, capacity %d: %s\ngives\n%s\nit should give\n%s", workers, capacity, eventsText(events), outcomeText(got), outcomeText(want))
	}
	return got, p
}

func TestDriveAgainstPlainWords(t *testing.T) {
	met := map[string]int{}
	manySessions(51, 4000, func(_ *dice, workers int, capacity int, events []impl.Event) {
		o, p := wantDrive(t, workers, capacity, events)
		for what, times := range p.met {
			met[what] += times
		}
		met["drops"] += o.Drops
		met["answers"] += len(o.Answers)
	})
	for _, what := range []string{
		"idle", "edit of nothing", "drop of nothing", "drops", "answers", "new revision with no stack",
		"gets", "waits", "claims", "finds a circle", "is answered full", "circle across workers", "taken over",
		"source changed", "dep changed", "circle while checking", "circular is never confirmed",
		"confirm pars", "confirm sign", "confirm chec",
		"made for the first time", "made anew with the same answer", "made anew with another answer",
	} {
		if met[what] < 10 {
			t.Errorf("%q came only %d times", what, met[what])
		}
	}
}

// A session that ends after any of its events is as the document has it too.
func TestDriveAfterEveryEvent(t *testing.T) {
	manySessions(52, 16, func(_ *dice, workers int, capacity int, events []impl.Event) {
		for n := range events {
			wantDrive(t, workers, capacity, events[:n])
		}
	})
}

// The workers go through one circle of modules in every order of turns that begins alike.
func TestDriveInEveryOrderOfTurns(t *testing.T) {
	start := events("edit a import b;", "edit b import c;", "edit c import a;", "ask a", "ask b", "pick 0 3", "pick 1 3")
	for order := range 1 << 10 {
		all := slices.Clone(start)
		for bit := range 10 {
			all = append(all, pickOf(order>>bit&1))
		}
		o, _ := wantDrive(t, 2, impl.MaxSlots, all)
		if len(o.Answers) != 2 || diagsText(o.Answers[0].Diags) != "0:4" || diagsText(o.Answers[1].Diags) != "0:4" {
			t.Fatalf("%s", outcomeText(o))
		}
	}
}
