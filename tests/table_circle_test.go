package tests

import (
	"fmt"
	"math"
	"slices"
	"testing"

	"loop.example/s15618/impl"
)

const circleRev = 7

func nthKey(i int) impl.Key { return signKey(fmt.Sprintf("k%02d", i)) }

// each of the first n workers holds the key of its number.
func eachHolds(n int) impl.Table {
	var out impl.Table
	for i := range n {
		out.Slots = append(out.Slots, held(nthKey(i), i, circleRev))
	}
	return out
}

func waitFor(worker int, key int) impl.Wait {
	return impl.Wait{Worker: worker, Key: nthKey(key)}
}

func wantCircle(t *testing.T, tab impl.Table, waits []impl.Wait, worker int, key int, want bool) {
	t.Helper()
	if got := impl.Circle(tab, waits, worker, nthKey(key), circleRev); got != want {
		t.Errorf("worker %d for %d with %v: %t", worker, key, waits, got)
	}
}

// In the round of n each worker waits for the key of the next one, but for the
// worker that asks.
func TestCirclesOfEverySize(t *testing.T) {
	for n := 1; n <= 16; n++ {
		for worker := range n {
			var waits []impl.Wait
			for i := range n {
				if i != worker {
					waits = append(waits, waitFor(i, (i+1)%n))
				}
			}
			next := (worker + 1) % n
			for _, list := range [][]impl.Wait{waits, slices.Concat(waits[n/2:], waits[:n/2]), append([]impl.Wait{waitFor(worker, next)}, waits...)} {
				wantCircle(t, eachHolds(16), list, worker, next, true)
				wantCircle(t, eachHolds(16), list, worker, worker, true)
			}
			for i := range waits {
				missing := slices.Delete(slices.Clone(waits), i, i+1)
				wantCircle(t, eachHolds(16), missing, worker, next, false)
				ends := slices.Clone(waits)
				ends[i].Key = nthKey(50)
				wantCircle(t, eachHolds(16), ends, worker, next, false)
			}
		}
	}
}

func TestWaitsThatLeadToNone(t *testing.T) {
	all := eachHolds(16)
	wantCircle(t, impl.Table{}, []impl.Wait{waitFor(1, 0)}, 0, 1, false)
	wantCircle(t, all, nil, 0, 1, false)
	wantCircle(t, all, []impl.Wait{waitFor(2, 0)}, 0, 1, false)
	wantCircle(t, all, []impl.Wait{waitFor(0, 0)}, 0, 1, false)
	// they go round without the worker, at once or after some steps
	wantCircle(t, all, []impl.Wait{waitFor(1, 1)}, 0, 1, false)
	wantCircle(t, all, []impl.Wait{waitFor(1, 2), waitFor(2, 1)}, 0, 1, false)
	wantCircle(t, all, []impl.Wait{waitFor(1, 2), waitFor(2, 3), waitFor(3, 2), waitFor(0, 1)}, 0, 1, false)
	var waits []impl.Wait
	for i := 1; i < 16; i++ {
		waits = append(waits, waitFor(i, i%15+1))
	}
	for key := 1; key < 16; key++ {
		wantCircle(t, all, waits, 0, key, false)
		wantCircle(t, all, waits, key, key, true)
		wantCircle(t, all, waits, key, key%15+1, true)
	}
}

func TestTheFirstWaitOfAWorkerCounts(t *testing.T) {
	all := eachHolds(16)
	wantCircle(t, all, []impl.Wait{waitFor(1, 0), waitFor(1, 2)}, 0, 1, true)
	wantCircle(t, all, []impl.Wait{waitFor(1, 2), waitFor(1, 0)}, 0, 1, false)
	wantCircle(t, all, []impl.Wait{waitFor(2, 0), waitFor(1, 2), waitFor(1, 1), waitFor(2, 2)}, 0, 1, true)
	wantCircle(t, all, []impl.Wait{waitFor(2, 2), waitFor(1, 2), waitFor(1, 0), waitFor(2, 0)}, 0, 1, false)
}

func TestCircleAsksOnlyForSlotsHeldSinceTheRevision(t *testing.T) {
	toWorker := []impl.Wait{waitFor(1, 0)}
	for _, rev := range []int{circleRev - 1, circleRev + 1, greatRev, 1} {
		wantCircle(t, table(held(nthKey(0), 0, rev)), nil, 0, 0, false)
		wantCircle(t, table(held(nthKey(0), 0, circleRev), held(nthKey(1), 1, rev)), toWorker, 0, 1, false)
		wantCircle(t, table(held(nthKey(0), 0, rev), held(nthKey(1), 1, circleRev)), toWorker, 0, 1, false)
	}
	// an answer makes no difference
	for _, verified := range []int{circleRev - 1, circleRev, circleRev + 1} {
		free := kept(nthKey(0), 1, verified)
		wantCircle(t, table(free), nil, 0, 0, false)
		wantCircle(t, table(by(0, circleRev, free)), nil, 0, 0, true)
		wantCircle(t, table(free, held(nthKey(1), 1, circleRev)), toWorker, 0, 1, false)
		wantCircle(t, table(by(0, circleRev, free), held(nthKey(1), 1, circleRev)), toWorker, 0, 1, true)
	}
	for _, rev := range []int{1, greatRev} {
		for _, worker := range []int{0, 15} {
			tab := table(held(parseA, worker, rev), held(signA, 7, rev))
			if !impl.Circle(tab, []impl.Wait{{Worker: 7, Key: parseA}}, worker, signA, rev) {
				t.Errorf("worker %d in %d", worker, rev)
			}
		}
	}
}

// A worker may hold many slots; any of them closes the circle.
func TestCircleByAnySlotOfTheWorker(t *testing.T) {
	tab := table(held(nthKey(0), 0, circleRev), held(nthKey(1), 1, circleRev), held(nthKey(2), 1, circleRev), held(nthKey(3), 0, circleRev))
	for _, key := range []int{1, 2} {
		wantCircle(t, tab, []impl.Wait{waitFor(1, 0)}, 0, key, true)
		wantCircle(t, tab, []impl.Wait{waitFor(1, 3)}, 0, key, true)
		wantCircle(t, tab, []impl.Wait{waitFor(1, 3)}, 2, key, false)
	}
}

func TestWaitsThatMeanNothing(t *testing.T) {
	all := eachHolds(16)
	for _, worker := range []int{-1, 16, math.MaxInt, math.MinInt} {
		wantCircle(t, all, []impl.Wait{waitFor(worker, 0), waitFor(1, 0)}, 0, 1, true)
		wantCircle(t, all, []impl.Wait{waitFor(worker, 0)}, 0, 1, false)
	}
	for _, k := range badKeys() {
		wantCircle(t, all, []impl.Wait{{Worker: 1, Key: k}, waitFor(1, 0)}, 0, 1, false)
		wantCircle(t, all, []impl.Wait{{Worker: 3, Key: k}, waitFor(1, 0)}, 0, 1, true)
	}
}

func TestAsManyWaitsAsWorkers(t *testing.T) {
	waits := []impl.Wait{waitFor(1, 0)}
	for len(waits) < 15 {
		waits = append(waits, waitFor(2, 9))
	}
	for _, list := range [][]impl.Wait{waits, append(waits, waitFor(3, 9)), append([]impl.Wait{waitFor(3, 9)}, waits...)} {
		wantCircle(t, eachHolds(16), list, 0, 1, true)
		wantCircle(t, eachHolds(16), list, 0, 0, true)
	}
	for _, list := range [][]impl.Wait{append(waits, waitFor(3, 9), waitFor(3, 9)), append(make([]impl.Wait, 100000), waits...), slices.Repeat(waits, 2)} {
		wantCircle(t, eachHolds(16), list, 0, 1, false)
		wantCircle(t, eachHolds(16), list, 0, 0, false)
	}
}

func TestCirclesAsTheDocumentAsksThem(t *testing.T) {
	found := 0
	manyTables(41, 3000, func(d *dice, tab impl.Table) {
		for range 4 {
			var waits []impl.Wait
			for range d.roll(18) {
				waits = append(waits, impl.Wait{Worker: pick(d, tableWorkers), Key: someUsed(d, tab)})
			}
			worker, k, rev := pick(d, tableWorkers), someUsed(d, tab), 1+d.roll(4)
			want := plainCircle(tab, waits, worker, k, rev)
			if got := impl.Circle(tab, waits, worker, k, rev); got != want {
				t.Fatalf("%s with %v, worker %d for %v in %d: %t", tableText(tab), waits, worker, k, rev, got)
			}
			if want {
				found++
			}
		}
	})
	if found < 300 {
		t.Errorf("only %d circles", found)
	}
}

// Here the workers wait for each other by any map whatever.
func TestWaitsOfEveryShape(t *testing.T) {
	d := dice(43)
	for range 2000 {
		n := 2 + d.roll(15)
		tab, order := eachHolds(n), d.roll(n)
		var waits []impl.Wait
		for i := range n {
			if d.roll(12) > 0 {
				waits = append(waits, waitFor((i+order)%n, d.roll(n)))
			}
		}
		worker, key := d.roll(n), d.roll(n)
		wantCircle(t, tab, waits, worker, key, plainCircle(tab, waits, worker, nthKey(key), circleRev))
	}
}
