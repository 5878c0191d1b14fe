package tests

import (
	"runtime"
	"slices"
	"sync"
	"testing"
	"time"

	"loop.example/s15618/impl"
)

// leftHolding has, with one worker and room for three slots, a call in the midst
// of its frames when the rounds are over.
func leftHolding() []impl.Event {
	return append(events("edit a import b;"), slices.Repeat([]impl.Event{ask("a")}, 4400)...)
}

func TestTheSameOutcomeAtEveryRun(t *testing.T) {
	manySessions(71, 60, func(_ *dice, workers int, capacity int, events []impl.Event) {
		want := outcomeText(impl.Drive(workers, capacity, events))
		for range 10 {
			if got := outcomeText(impl.Drive(workers, capacity, events)); got != want {
				t.Fatalf("%s\n%s\n%s", eventsText(events), got, want)
			}
		}
	})
}

// Sessions beside each other, on one processor and on several, do not disturb each other.
func TestSessionsAtTheSameTime(t *testing.T) {
	type one struct {
		workers, capacity int
		events            []impl.Event
		want              string
	}
	var all []one
	manySessions(72, 200, func(_ *dice, workers int, capacity int, events []impl.Event) {
		all = append(all, one{workers, capacity, events, outcomeText(impl.Drive(workers, capacity, events))})
	})
	for _, processors := range []int{1, 2, runtime.NumCPU()} {
		before := runtime.GOMAXPROCS(processors)
		var running sync.WaitGroup
		for _, s := range all {
			running.Go(func() {
				if got := outcomeText(impl.Drive(s.workers, s.capacity, s.events)); got != s.want {
					t.Errorf("%s\n%s\n%s", eventsText(s.events), got, s.want)
				}
			})
		}
		running.Wait()
		runtime.GOMAXPROCS(before)
	}
}

// A goroutine that has ended may still be counted for a moment.
func wantGoroutines(t *testing.T, want int) {
	t.Helper()
	for range 3000 {
		if runtime.NumGoroutine() <= want {
			return
		}
		time.Sleep(time.Millisecond)
	}
	t.Fatalf("%d goroutines, there were %d", runtime.NumGoroutine(), want)
}

func TestAllGoroutinesHaveEnded(t *testing.T) {
	before := runtime.NumGoroutine()
	for range 20 {
		impl.Drive(impl.MaxWorkers, impl.MaxSlots, nil)
		impl.Drive(0, 1, nil)
		impl.Drive(2, 1, []impl.Event{{}})
	}
	wantGoroutines(t, before)
	for _, workers := range []int{1, 2, impl.MaxWorkers} {
		o := impl.Drive(workers, 3, leftHolding())
		if workers == 1 && o.Code != 1 {
			t.Errorf("%d workers: %s", workers, endText(o))
		}
		wantGoroutines(t, before)
	}
	manySessions(73, 200, func(_ *dice, workers int, capacity int, events []impl.Event) {
		impl.Drive(workers, capacity, events)
		wantGoroutines(t, before)
	})
}

func copyEvents(all []impl.Event) []impl.Event {
	return copyList(all, func(e impl.Event) impl.Event {
		e.Name, e.Text = copyText(e.Name), copyText(e.Text)
		return e
	})
}

func TestMemoryOfOutcomes(t *testing.T) {
	manySessions(74, 500, func(_ *dice, workers int, capacity int, all []impl.Event) {
		wantOutcomeApart(t, workers, capacity, all)
	})
	wantOutcomeApart(t, 1, 3, leftHolding()[:100])
	wantOutcomeApart(t, 1, 9, events("ask A", "ask ", "ask if"))
}

func wantOutcomeApart(t *testing.T, workers int, capacity int, all []impl.Event) {
	t.Helper()
	all = append(make([]impl.Event, 0, len(all)+5), copyEvents(all)...)
	before := copyEvents(all[:cap(all)])
	o := impl.Drive(workers, capacity, all)
	want := outcomeText(o)
	wantApart(t, all, o)
	wantOwnTexts(t, all, o)
	for _, e := range all {
		wantNewTexts(t, e.Text, o)
	}
	spoilTable(o.Table)
	spoil(o.Ran, impl.Ran{Worker: -7})
	for _, a := range o.Answers {
		spoil(a.Diags, impl.Diag{Decl: -7})
	}
	spoil(o.Answers, impl.Answer{Call: -7})
	if !slices.Equal(all[:cap(all)], before) {
		t.Fatalf("%s has become %s", eventsText(before), eventsText(all))
	}
	if got := outcomeText(impl.Drive(workers, capacity, all)); got != want {
		t.Fatalf("%s\n%s\n%s", eventsText(all), got, want)
	}
}
