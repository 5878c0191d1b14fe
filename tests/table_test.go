package tests

import (
	"fmt"
	"math"
	"slices"
	"strings"
	"testing"

	"loop.example/s15618/impl"
)

const greatRev = 1 << 62

var (
	parseA = parseKey("a")
	signA  = signKey("a")
	checkA = checkKey("a")
)

func TestTablesThatAreValid(t *testing.T) {
	for _, tab := range []impl.Table{
		{},
		table(),
		table(kept(parseA, 1, 1)),
		table(kept(parseA, 1, 2), kept(signA, 2, 2), kept(checkA, greatRev, greatRev)),
		table(kept(checkA, 3, greatRev, checkA, parseA, parseA, signKey("q"))),
		table(impl.Slot{Key: parseA, Has: true, Verified: 1, Changed: 1, Deps: []impl.Key{}}),
		table(impl.Slot{Key: parseA, Has: true, Verified: 1, Changed: 1, Value: strings.Repeat("\xff\x00", 100000)}),
		table(held(parseA, 0, 1), held(signA, 15, 1), held(checkA, 7, greatRev)),
		table(by(0, 1, kept(parseA, 5, 9)), by(15, 20, kept(signA, 5, 9)), by(0, 9, kept(checkA, 9, 9))),
		table(impl.Slot{Key: parseA, Owner: 1, Since: 1, Deps: []impl.Key{}}),
		table(kept(parseKey("a"), 1, 1), kept(parseKey("a0"), 1, 1), kept(parseKey("a_"), 1, 1), kept(parseKey("aa"), 1, 1), kept(parseKey("b"), 1, 1), kept(signKey("a"), 1, 1)),
		table(kept(parseKey("z"), 1, 1), kept(signKey("y"), 1, 1), kept(checkKey(twelve), 1, 1)),
		longTable(4095),
		longTable(4096),
		table(kept(parseA, 1, 1, manyKeys(999)...), kept(signA, 1, 1, manyKeys(1000)...)),
	} {
		if !impl.ValidTable(tab) {
			t.Errorf("%.300s is valid", tableText(tab))
		}
	}
}

// manyKeys has the same few keys many times, which no rule forbids.
func manyKeys(n int) []impl.Key {
	var out []impl.Key
	for i := range n {
		out = append(out, []impl.Key{checkA, parseA, signA, parseKey(twelve)}[i%4])
	}
	return out
}

func badMods() []string {
	return slices.Concat(elevenWords, []string{"", thirteen, "A", "aB", "0a", "_a", "a b", "é", "a\n", "a\x00", "a-"})
}

func badKeys() []impl.Key {
	out := []impl.Key{{}, {Kind: 0, Mod: "a"}, {Kind: 4, Mod: "a"}, {Kind: -1, Mod: "a"}, {Kind: math.MaxInt, Mod: "a"}, {Kind: math.MinInt, Mod: "a"}}
	for _, mod := range badMods() {
		out = append(out, parseKey(mod), checkKey(mod))
	}
	return out
}

// badSlots are wrong each in one way; the key is right.
func badSlots(k impl.Key) []impl.Slot {
	var out []impl.Slot
	for _, good := range []impl.Slot{kept(k, 2, 3, parseA), by(2, 3, kept(k, 2, 3)), held(k, 2, 3)} {
		for _, wrong := range []func(s *impl.Slot){
			func(s *impl.Slot) { s.Owner, s.Since = 17, 3 },
			func(s *impl.Slot) { s.Owner, s.Since = -1, 3 },
			func(s *impl.Slot) { s.Owner, s.Since = math.MaxInt, 3 },
			func(s *impl.Slot) { s.Owner, s.Since = math.MinInt, 3 },
			func(s *impl.Slot) { s.Owner, s.Since = 1, 0 },
			func(s *impl.Slot) { s.Owner, s.Since = 16, 0 },
			func(s *impl.Slot) { s.Owner, s.Since = 16, -1 },
			func(s *impl.Slot) { s.Owner, s.Since = 1, math.MinInt },
			func(s *impl.Slot) { s.Owner, s.Since = 0, 1 },
			func(s *impl.Slot) { s.Owner, s.Since = 0, -1 },
			func(s *impl.Slot) { s.Changed, s.Verified = 0, 3 },
			func(s *impl.Slot) { s.Changed, s.Verified = -1, 3 },
			func(s *impl.Slot) { s.Changed, s.Verified = 4, 3 },
			func(s *impl.Slot) { s.Changed, s.Verified = 1, 0 },
			func(s *impl.Slot) { s.Changed, s.Verified = 0, -1 },
			func(s *impl.Slot) { s.Changed, s.Verified = -2, -1 },
		} {
			s := good
			wrong(&s)
			out = append(out, s)
		}
	}
	for _, wrong := range []impl.Slot{
		{Key: k},
		{Key: k, Has: true},
		{Key: k, Has: true, Owner: 1, Since: 1},
		{Key: k, Owner: 1, Since: 1, Value: "x"},
		{Key: k, Owner: 1, Since: 1, Value: "\x00"},
		{Key: k, Owner: 1, Since: 1, Deps: []impl.Key{parseA}},
		{Key: k, Owner: 1, Since: 1, Verified: 1},
		{Key: k, Owner: 1, Since: 1, Changed: 1},
		{Key: k, Owner: 1, Since: 1, Verified: 1, Changed: 1},
		{Key: k, Value: "x", Deps: []impl.Key{parseA}, Verified: 1, Changed: 1},
		{Key: k, Owner: 1, Since: 1, Verified: -1},
		{Key: k, Owner: 1, Since: 1, Changed: -1},
	} {
		out = append(out, wrong)
	}
	for _, deps := range badDeps() {
		out = append(out, kept(k, 2, 3, deps...), by(2, 3, kept(k, 2, 3, deps...)))
	}
	return out
}

func badDeps() [][]impl.Key {
	out := [][]impl.Key{manyKeys(1001), make([]impl.Key, 100000)}
	for _, bad := range badKeys() {
		out = append(out, []impl.Key{bad}, []impl.Key{bad, parseA}, []impl.Key{parseA, signA, bad}, append(manyKeys(999), bad))
	}
	return out
}

// badTables have the slot of KSign of a, free to be claimed or held by worker 2
// since 3, so that it is the table alone that is in the way.
func badTables() []impl.Table {
	good := []impl.Slot{kept(signA, 2, 3, parseA), by(2, 3, kept(signA, 2, 3)), held(signA, 2, 3)}
	var out []impl.Table
	for i, s := range badSlots(signA) {
		before, behind := kept(parseA, 1, 1), kept(checkA, 1, 1)
		out = append(out, table([][]impl.Slot{{s}, {before, s}, {s, behind}, {before, s, behind}}[i%4]...))
	}
	for _, s := range good {
		for i, k := range badKeys() {
			bad := kept(k, 1, 1)
			out = append(out, table([][]impl.Slot{{bad, s}, {s, bad}}[i%2]...))
		}
		out = append(out,
			table(s, s),
			table(s, held(signA, 3, 3)),
			table(kept(parseA, 1, 1), s, s, kept(checkA, 1, 1)),
			table(s, kept(parseA, 1, 1)),
			table(s, kept(parseKey("b"), 1, 1)),
			table(checkSlot(), s),
			table(s, kept(signKey("b"), 1, 1), kept(signKey("aa"), 1, 1)),
			table(s, kept(signKey("aa"), 1, 1), kept(signKey("a_"), 1, 1)),
			table(kept(signKey("a0"), 1, 1), s),
			table(s, kept(checkKey("b"), 1, 1), kept(checkKey("a"), 1, 1)),
			table(append(longTable(4096).Slots, s)...),
		)
	}
	return append(out, longTable(4097), table(make([]impl.Slot, 100000)...))
}

func checkSlot() impl.Slot { return held(checkA, 2, 3) }

// wantNothing asks all functions but ValidTable with arguments that are not valid.
func wantNothing(t *testing.T, tab impl.Table, k impl.Key, worker int, rev int) {
	t.Helper()
	ofAll := func() string {
		return fmt.Sprintf("%.300s with %v, worker %d, revision %d", tableText(tab), k, worker, rev)
	}
	out, code := impl.Claim(tab, k, worker, rev, impl.MaxSlots)
	if len(out.Slots) != 0 || code != 9 {
		t.Errorf("Claim of %s gives %.100s and %d", ofAll(), tableText(out), code)
	}
	out, code = impl.Finish(tab, k, worker, rev, "x", []impl.Key{parseA})
	if len(out.Slots) != 0 || code != 9 {
		t.Errorf("Finish of %s gives %.100s and %d", ofAll(), tableText(out), code)
	}
	out, code = impl.Confirm(tab, k, worker, rev)
	if len(out.Slots) != 0 || code != 9 {
		t.Errorf("Confirm of %s gives %.100s and %d", ofAll(), tableText(out), code)
	}
	for _, waits := range [][]impl.Wait{nil, {{Worker: 2, Key: signA}}, {{Worker: worker, Key: k}}} {
		if impl.Circle(tab, waits, worker, k, rev) {
			t.Errorf("Circle of %s", ofAll())
		}
	}
}

func TestTablesThatAreNotValid(t *testing.T) {
	for _, tab := range badTables() {
		if impl.ValidTable(tab) {
			t.Errorf("%.300s is not valid", tableText(tab))
		}
		if plainTable(tab) {
			t.Fatalf("%.300s is valid by the second reading", tableText(tab))
		}
		for _, k := range []impl.Key{signA, parseA, signKey("b"), {}} {
			if got := impl.Find(tab, k); tableText(table(got)) != tableText(table(impl.Slot{})) {
				t.Errorf("%v is found in %.300s", k, tableText(tab))
			}
		}
		wantNothing(t, tab, signA, 2, 3)
		wantNothing(t, tab, signA, 0, 4)
		wantNothing(t, tab, signKey("q"), 1, 1)
		for _, worker := range []int{0, 2, 15, 16} {
			if got := impl.Release(tab, worker); len(got.Slots) != 0 {
				t.Errorf("Release of %.300s gives %.300s", tableText(tab), tableText(got))
			}
		}
	}
}

func TestNumbersAndKeysThatAreNotValid(t *testing.T) {
	for _, tab := range []impl.Table{{}, table(held(signA, 2, 3)), table(by(2, 3, kept(signA, 1, 2))), table(kept(parseA, 1, 1), kept(signA, 1, 1))} {
		for _, k := range badKeys() {
			wantNothing(t, tab, k, 2, 3)
			if got := impl.Find(tab, k); tableText(table(got)) != tableText(table(impl.Slot{})) {
				t.Errorf("%v is found", k)
			}
		}
		for _, worker := range []int{-1, 16, 17, -3, math.MaxInt, math.MinInt} {
			wantNothing(t, tab, signA, worker, 3)
			wantNothing(t, tab, signKey("q"), worker, 3)
			wantTable(t, impl.Release(tab, worker), table())
		}
		for _, rev := range []int{0, -1, -3, math.MinInt} {
			wantNothing(t, tab, signA, 2, rev)
			wantNothing(t, tab, signKey("q"), 2, rev)
		}
		for _, capacity := range []int{0, -1, 4097, math.MaxInt, math.MinInt} {
			for _, k := range []impl.Key{signA, signKey("q")} {
				got, code := impl.Claim(tab, k, 2, 3, capacity)
				wantStep(t, got, code, table(), 9)
			}
		}
		for _, deps := range badDeps() {
			for _, k := range []impl.Key{signA, signKey("q")} {
				got, code := impl.Finish(tab, k, 2, 3, "x", deps)
				wantStep(t, got, code, table(), 9)
			}
		}
	}
}

func TestFind(t *testing.T) {
	tab := table(kept(parseA, 1, 2, checkA, signA), held(signA, 3, 4), by(5, 6, kept(signKey("b"), 7, 8)))
	for _, s := range tab.Slots {
		wantTable(t, table(impl.Find(tab, s.Key)), table(s))
	}
	for _, k := range []impl.Key{checkA, parseKey("b"), parseKey("aa"), signKey("c"), checkKey("b")} {
		wantTable(t, table(impl.Find(tab, k)), table(impl.Slot{}))
		wantTable(t, table(impl.Find(impl.Table{}, k)), table(impl.Slot{}))
	}
	long := longTable(4096)
	for i := 0; i < 4096; i += 117 {
		wantTable(t, table(impl.Find(long, parseKey(numberedMod(i)))), table(long.Slots[i]))
	}
	wantTable(t, table(impl.Find(long, long.Slots[4095].Key)), table(long.Slots[4095]))
	wantTable(t, table(impl.Find(long, parseKey(numberedMod(4096)))), table(impl.Slot{}))
}

func TestClaimInEveryOrder(t *testing.T) {
	keys := []impl.Key{parseKey("b"), signKey("a"), signKey("a0"), signKey("a_"), checkKey("a")}
	var want impl.Table
	for i, k := range keys {
		want.Slots = append(want.Slots, held(k, i, i+1))
	}
	everyOrder(len(keys), func(order []int) {
		var tab impl.Table
		for n, i := range order {
			var code int
			tab, code = impl.Claim(tab, keys[i], i, i+1, n+1)
			if code != 0 || len(tab.Slots) != n+1 {
				t.Fatalf("in the order %v: code %d and %s", order, code, tableText(tab))
			}
		}
		wantTable(t, tab, want)
	})
}

func everyOrder(n int, look func(order []int)) {
	if n == 0 {
		look(nil)
		return
	}
	everyOrder(n-1, func(order []int) {
		for i := range n {
			look(slices.Insert(slices.Clone(order), i, n-1))
		}
	})
}

func TestClaimOfASlotThatIsThere(t *testing.T) {
	for _, c := range []struct {
		slot        impl.Slot
		worker, rev int
		want        impl.Slot
		code        int
	}{
		// without an answer
		{held(signA, 3, 5), 3, 5, held(signA, 3, 5), 1},
		{held(signA, 3, 5), 4, 5, held(signA, 3, 5), 1},
		{held(signA, 3, 5), 3, 4, held(signA, 3, 4), 0},
		{held(signA, 3, 5), 4, 4, held(signA, 4, 4), 0},
		{held(signA, 3, 5), 3, 6, held(signA, 3, 6), 0},
		{held(signA, 3, 5), 0, 6, held(signA, 0, 6), 0},
		{held(signA, 0, 1), 15, greatRev, held(signA, 15, greatRev), 0},
		{held(signA, 15, greatRev), 0, greatRev, held(signA, 15, greatRev), 1},
		{held(signA, 15, greatRev), 0, 1, held(signA, 0, 1), 0},
		// with one, that stays as it is, whatever it was verified in
		{kept(signA, 2, 5, parseA), 3, 4, by(3, 4, kept(signA, 2, 5, parseA)), 0},
		{kept(signA, 2, 5, parseA), 3, 5, by(3, 5, kept(signA, 2, 5, parseA)), 0},
		{kept(signA, 2, 5, parseA), 3, 6, by(3, 6, kept(signA, 2, 5, parseA)), 0},
		{kept(signA, 2, 5, parseA), 15, 1, by(15, 1, kept(signA, 2, 5, parseA)), 0},
		// with both
		{by(3, 4, kept(signA, 2, 5)), 3, 4, by(3, 4, kept(signA, 2, 5)), 1},
		{by(3, 4, kept(signA, 2, 5)), 0, 4, by(3, 4, kept(signA, 2, 5)), 1},
		{by(3, 4, kept(signA, 2, 5)), 3, 5, by(3, 5, kept(signA, 2, 5)), 0},
		{by(3, 4, kept(signA, 2, 5)), 4, 2, by(4, 2, kept(signA, 2, 5)), 0},
		{by(3, 4, kept(signA, 2, 5)), 4, 3, by(4, 3, kept(signA, 2, 5)), 0},
	} {
		around := func(s impl.Slot) impl.Table {
			return table(held(parseA, 3, 4), s, by(3, 5, kept(checkA, 1, 1)))
		}
		for capacity := range 5 {
			if capacity > 0 {
				got, code := impl.Claim(around(c.slot), signA, c.worker, c.rev, capacity)
				wantStep(t, got, code, around(c.want), c.code)
			}
		}
		got, code := impl.Claim(table(c.slot), signA, c.worker, c.rev, 1)
		wantStep(t, got, code, table(c.want), c.code)
	}
}

func TestClaimAtTheCapacity(t *testing.T) {
	tab := table(kept(parseA, 1, 1), held(signA, 1, 1))
	more := table(kept(parseA, 1, 1), held(signA, 1, 1), held(checkA, 0, 1))
	for capacity, want := range map[int]impl.Table{1: tab, 2: tab, 3: more, 4: more, 4095: more, 4096: more} {
		code := 0
		if capacity <= 2 {
			code = 2
		}
		got, c := impl.Claim(tab, checkA, 0, 1, capacity)
		wantStep(t, got, c, want, code)
	}
	got, code := impl.Claim(impl.Table{}, parseKey(twelve), 15, greatRev, 1)
	wantStep(t, got, code, table(held(parseKey(twelve), 15, greatRev)), 0)
}

func TestClaimInALongTable(t *testing.T) {
	last := parseKey(numberedMod(4095))
	got, code := impl.Claim(longTable(4095), last, 4, 2, 4096)
	wantStep(t, got, code, table(append(longTable(4095).Slots, held(last, 4, 2))...), 0)
	got, code = impl.Claim(longTable(4095), last, 4, 2, 4095)
	wantStep(t, got, code, longTable(4095), 2)
	first, full := parseA, longTable(4096)
	got, code = impl.Claim(full, first, 4, 2, 4096)
	wantStep(t, got, code, full, 2)
	got, code = impl.Claim(longTable(4095), first, 4, 2, 4096)
	wantStep(t, got, code, table(slices.Insert(longTable(4095).Slots, 0, held(first, 4, 2))...), 0)
	full.Slots[2000] = held(full.Slots[2000].Key, 9, 7)
	got, code = impl.Claim(longTable(4096), full.Slots[2000].Key, 9, 7, 1)
	wantStep(t, got, code, full, 0)
	got, code = impl.Claim(full, full.Slots[2000].Key, 3, 7, 4096)
	wantStep(t, got, code, full, 1)
}

func TestRelease(t *testing.T) {
	tab := table(
		held(parseKey("a"), 1, 1), by(1, 9, kept(parseKey("b"), 2, 3, parseA)), held(parseKey("c"), 0, 1), kept(parseKey("d"), 1, 1),
		by(0, 2, kept(signKey("a"), 2, 3)), held(signKey("b"), 1, 7), held(signKey("c"), 15, 1), by(1, 2, kept(signKey("d"), 2, 3)),
		by(2, 1, kept(checkKey("a"), 2, 3)), held(checkKey("b"), 1, greatRev))
	wantTable(t, impl.Release(tab, 1), table(
		kept(parseKey("b"), 2, 3, parseA), held(parseKey("c"), 0, 1), kept(parseKey("d"), 1, 1),
		by(0, 2, kept(signKey("a"), 2, 3)), held(signKey("c"), 15, 1), kept(signKey("d"), 2, 3),
		by(2, 1, kept(checkKey("a"), 2, 3))))
	wantTable(t, impl.Release(tab, 3), tab)
	for _, worker := range []int{0, 15} {
		only := table(held(parseA, worker, 1), held(signA, worker, 2))
		wantTable(t, impl.Release(only, worker), table())
		wantTable(t, impl.Release(only, 7), only)
		wantTable(t, impl.Release(impl.Table{}, worker), table())
	}
	left := tab
	for worker := range impl.MaxWorkers {
		left = impl.Release(left, worker)
	}
	wantTable(t, left, table(kept(parseKey("b"), 2, 3, parseA), kept(parseKey("d"), 1, 1), kept(signKey("a"), 2, 3), kept(signKey("d"), 2, 3), kept(checkKey("a"), 2, 3)))
	wantTable(t, impl.Release(longTable(4096), 5), plainRelease(longTable(4096), 5))
}

// otherSlots are of no slot that worker 3 holds since 5 with the key KSign of a.
func otherSlots() []impl.Slot {
	return []impl.Slot{
		kept(signA, 2, 4), kept(signA, 2, 5),
		held(signA, 2, 5), held(signA, 4, 5), held(signA, 3, 4), held(signA, 3, 6), held(signA, 2, 4),
		by(2, 5, kept(signA, 2, 4)), by(4, 5, kept(signA, 2, 4)), by(3, 4, kept(signA, 2, 4)), by(3, 6, kept(signA, 2, 4)),
		held(parseA, 3, 5), held(checkA, 3, 5), held(signKey("aa"), 3, 5), by(3, 5, kept(signKey("b"), 1, 1)),
		// Verified is above the revision
		by(3, 5, kept(signA, 2, 6)), by(3, 5, kept(signA, 6, 6)), by(3, 5, kept(signA, 2, greatRev)),
	}
}

func TestFinish(t *testing.T) {
	deps := []impl.Key{parseA, signKey("b"), parseA}
	for _, s := range otherSlots() {
		for _, value := range []string{"x", "y"} {
			got, code := impl.Finish(table(s), signA, 3, 5, value, deps)
			wantStep(t, got, code, table(s), 1)
		}
	}
	got, code := impl.Finish(impl.Table{}, signA, 3, 5, "x", deps)
	wantStep(t, got, code, table(), 1)
	for _, c := range []struct {
		slot    impl.Slot
		value   string
		changed int
	}{
		{held(signA, 3, 5), "x", 5},
		{held(signA, 3, 5), "", 5},
		{by(3, 5, kept(signA, 2, 4, checkA)), "x", 2},
		{by(3, 5, kept(signA, 2, 4, checkA)), "y", 5},
		{by(3, 5, kept(signA, 2, 4, checkA)), "", 5},
		{by(3, 5, kept(signA, 2, 4, checkA)), "x\n", 5},
		{by(3, 5, kept(signA, 2, 5)), "x", 2},
		{by(3, 5, kept(signA, 2, 5)), "y", 5},
		{by(3, 5, kept(signA, 5, 5)), "x", 5},
		{by(3, 5, kept(signA, 5, 5)), "y", 5},
	} {
		for _, from := range [][]impl.Key{nil, {checkA}, deps, manyKeys(1000)} {
			around := func(s impl.Slot) impl.Table {
				return table(held(parseA, 3, 5), s, by(3, 5, kept(checkA, 1, 1)))
			}
			want := impl.Slot{Key: signA, Has: true, Value: c.value, Deps: from, Verified: 5, Changed: c.changed}
			got, code := impl.Finish(around(c.slot), signA, 3, 5, c.value, from)
			wantStep(t, got, code, around(want), 0)
		}
	}
}

func TestFinishAtTheEdges(t *testing.T) {
	for _, worker := range []int{0, 15} {
		for _, rev := range []int{1, greatRev} {
			got, code := impl.Finish(table(held(parseA, worker, rev)), parseA, worker, rev, "x", nil)
			wantStep(t, got, code, table(kept(parseA, rev, rev)), 0)
			got, code = impl.Confirm(table(by(worker, rev, kept(parseA, 1, 1))), parseA, worker, rev)
			wantStep(t, got, code, table(kept(parseA, 1, rev)), 0)
		}
	}
	long := longTable(4096)
	at := long.Slots[4094] // the last one that is held without an answer
	long.Slots[4094] = kept(at.Key, 2, 2)
	got, code := impl.Finish(longTable(4096), at.Key, at.Owner-1, 2, "x", nil)
	wantStep(t, got, code, long, 0)
}

// The empty text is an answer too, and to have it is not to have none.
func TestFinishWithTheEmptyAnswer(t *testing.T) {
	tab, code := impl.Finish(table(held(parseA, 0, 2)), parseA, 0, 2, "", nil)
	wantStep(t, tab, code, table(impl.Slot{Key: parseA, Has: true, Verified: 2, Changed: 2}), 0)
	tab, _ = impl.Claim(tab, parseA, 1, 4, 1)
	again, code := impl.Finish(tab, parseA, 1, 4, "", nil)
	wantStep(t, again, code, table(impl.Slot{Key: parseA, Has: true, Verified: 4, Changed: 2}), 0)
	other, code := impl.Finish(tab, parseA, 1, 4, "x", nil)
	wantStep(t, other, code, table(kept(parseA, 4, 4)), 0)
	wantTable(t, impl.Release(tab, 1), table(impl.Slot{Key: parseA, Has: true, Verified: 2, Changed: 2}))
}

func TestConfirm(t *testing.T) {
	for _, s := range append(otherSlots(), held(signA, 3, 5)) {
		got, code := impl.Confirm(table(s), signA, 3, 5)
		wantStep(t, got, code, table(s), 1)
	}
	got, code := impl.Confirm(impl.Table{}, signA, 3, 5)
	wantStep(t, got, code, table(), 1)
	for verified := 2; verified <= 5; verified++ {
		around := func(s impl.Slot) impl.Table {
			return table(by(3, 5, kept(parseA, 1, 1)), s, by(3, 5, kept(checkA, 1, 1)))
		}
		got, code := impl.Confirm(around(by(3, 5, kept(signA, 2, verified, checkA, signA))), signA, 3, 5)
		wantStep(t, got, code, around(kept(signA, 2, 5, checkA, signA)), 0)
	}
}
