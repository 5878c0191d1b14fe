package tests

import (
	"fmt"
	"math"
	"slices"
	"testing"

	"loop.example/s15618/impl"
)

// deed is one use of a table, with all arguments that any of the functions takes.
type deed struct {
	what     string
	key      impl.Key
	worker   int
	rev      int
	capacity int
	value    string
	deps     []impl.Key
}

// someDeed is of a slot that is there and of its holder more often than not.
func someDeed(d *dice, t impl.Table) deed {
	out := deed{
		what: pick(d, []string{"claim", "claim", "claim", "finish", "finish", "finish", "confirm", "confirm", "release"}),
		key:  someUsed(d, t), worker: pick(d, tableWorkers), rev: 1 + d.roll(4), capacity: 1 + d.roll(14),
		value: pick(d, tableValues), deps: someKeys(d),
	}
	if s := slotMap(t)[out.key]; s.Owner > 0 && d.roll(3) > 0 {
		out.worker = s.Owner - 1
		if d.roll(4) > 0 {
			out.rev = s.Since
		}
	}
	return out
}

func (x deed) done(t impl.Table) (impl.Table, int) {
	switch x.what {
	case "claim":
		return impl.Claim(t, x.key, x.worker, x.rev, x.capacity)
	case "finish":
		return impl.Finish(t, x.key, x.worker, x.rev, x.value, x.deps)
	case "confirm":
		return impl.Confirm(t, x.key, x.worker, x.rev)
	}
	return impl.Release(t, x.worker), 0
}

func (x deed) plain(t impl.Table) (impl.Table, int) {
	switch x.what {
	case "claim":
		return plainClaim(t, x.key, x.worker, x.rev, x.capacity)
	case "finish":
		return plainFinish(t, x.key, x.worker, x.rev, x.value, x.deps)
	case "confirm":
		return plainConfirm(t, x.key, x.worker, x.rev)
	}
	return plainRelease(t, x.worker), 0
}

func (x deed) on(t impl.Table) string {
	return fmt.Sprintf("%+v on %s", x, tableText(t))
}

func wantAsWritten(t *testing.T, x deed, tab impl.Table) (impl.Table, int) {
	t.Helper()
	got, code := x.done(tab)
	want, wantCode := x.plain(tab)
	if code != wantCode || tableText(got) != tableText(want) {
		t.Fatalf("%s gives %d and %s, it should give %d and %s", x.on(tab), code, tableText(got), wantCode, tableText(want))
	}
	return got, code
}

func TestDeedsAsTheDocumentWritesThem(t *testing.T) {
	codes := map[string]int{}
	manyTables(11, 4000, func(d *dice, tab impl.Table) {
		if !impl.ValidTable(tab) {
			t.Fatalf("%s is valid", tableText(tab))
		}
		for range 5 {
			x := someDeed(d, tab)
			_, code := wantAsWritten(t, x, tab)
			codes[fmt.Sprint(x.what, " ", code)]++
			k := someUsed(d, tab)
			wantTable(t, table(impl.Find(tab, k)), table(plainFind(tab, k)))
		}
	})
	for _, what := range []string{"claim 0", "claim 1", "claim 2", "finish 0", "finish 1", "confirm 0", "confirm 1", "release 0"} {
		if codes[what] < 100 {
			t.Errorf("%s came only %d times", what, codes[what])
		}
	}
}

// spoiled has one number, key or text of one slot changed; it may be valid still.
func spoiled(d *dice, t impl.Table) impl.Table {
	out := copyTable(t)
	if len(out.Slots) == 0 {
		return out
	}
	s := &out.Slots[d.roll(len(out.Slots))]
	number := pick(d, []int{-1, 0, 0, 1, 2, 3, 4, 16, 17, math.MaxInt, math.MinInt})
	switch d.roll(9) {
	case 0:
		s.Key = pick(d, append(badKeys(), parseA, signA, checkA))
	case 1:
		s.Has = !s.Has
	case 2:
		s.Value = pick(d, tableValues)
	case 3:
		s.Deps = append(s.Deps, pick(d, append(badKeys(), parseA)))
	case 4:
		s.Verified = number
	case 5:
		s.Changed = number
	case 6:
		s.Owner = number
	case 7:
		s.Since = number
	case 8:
		other := &out.Slots[d.roll(len(out.Slots))]
		*s, *other = *other, *s
	}
	return out
}

func TestSpoiledTables(t *testing.T) {
	wrong := 0
	manyTables(13, 6000, func(d *dice, good impl.Table) {
		tab := spoiled(d, good)
		if got := impl.ValidTable(tab); got != plainTable(tab) {
			t.Fatalf("valid: %t of %s", got, tableText(tab))
		}
		if !plainTable(tab) {
			wrong++
		}
		wantAsWritten(t, someDeed(d, good), tab)
		k, waits := someUsed(d, good), []impl.Wait{{Worker: 0, Key: someUsed(d, good)}}
		wantTable(t, table(impl.Find(tab, k)), table(plainFind(tab, k)))
		if impl.Circle(tab, waits, 1, k, 2) != plainCircle(tab, waits, 1, k, 2) {
			t.Fatalf("%s with %v for %v", tableText(tab), waits, k)
		}
	})
	if wrong < 2000 {
		t.Errorf("only %d tables are not valid", wrong)
	}
}

// session goes from the empty table by many deeds.
func session(d *dice, deeds int, look func(before impl.Table, x deed, after impl.Table, code int)) {
	var tab impl.Table
	for range deeds {
		x := someDeed(d, tab)
		after, code := x.done(tab)
		look(tab, x, after, code)
		tab = after
	}
}

func TestSessionsAsTheDocumentWritesThem(t *testing.T) {
	d := dice(17)
	for range 100 {
		session(&d, 60, func(before impl.Table, x deed, _ impl.Table, _ int) {
			wantAsWritten(t, x, before)
		})
	}
}

// Promise 11: the tables stay valid, and within the capacity.
func TestTablesStayValid(t *testing.T) {
	d := dice(19)
	look := func(before impl.Table, x deed, after impl.Table, code int) {
		if code == 9 || !impl.ValidTable(after) || !plainTable(after) {
			t.Fatalf("%s gives %d and %s", x.on(before), code, tableText(after))
		}
		if len(after.Slots) > len(before.Slots) && (x.what != "claim" || len(after.Slots) > x.capacity) {
			t.Fatalf("%s gives %s", x.on(before), tableText(after))
		}
	}
	for range 100 {
		session(&d, 60, look)
	}
	manyTables(23, 3000, func(d *dice, tab impl.Table) {
		x := someDeed(d, tab)
		after, code := x.done(tab)
		look(tab, x, after, code)
	})
}

// Promise 11: with the capacity the same throughout, no table is larger.
func TestTheCapacityIsNeverPassed(t *testing.T) {
	d := dice(29)
	for capacity := 1; capacity <= 6; capacity++ {
		var tab impl.Table
		full := 0
		for range 400 {
			x, code := someDeed(&d, tab), 0
			x.capacity = capacity
			tab, code = x.done(tab)
			if len(tab.Slots) > capacity {
				t.Fatalf("%d slots with the capacity %d", len(tab.Slots), capacity)
			}
			if code == 2 {
				full++
			}
		}
		if full < 10 {
			t.Errorf("the capacity %d was met only %d times", capacity, full)
		}
	}
}

// Promise 11: who has claimed a slot has it, until one of the ways to lose it.
func TestAClaimIsForOneWorkerAlone(t *testing.T) {
	d := dice(31)
	refused := 0
	for range 200 {
		held := map[impl.Key]deed{}
		session(&d, 80, func(before impl.Table, x deed, _ impl.Table, code int) {
			was, isHeld := held[x.key]
			switch {
			case x.what == "release":
				for k, claim := range held {
					if claim.worker == x.worker {
						delete(held, k)
					}
				}
			case x.what == "claim" && isHeld && was.rev == x.rev:
				refused++
				if code == 0 {
					t.Fatalf("%s: the slot was claimed by %+v", x.on(before), was)
				}
			case x.what == "claim" && code == 0:
				held[x.key] = x
			case code == 0:
				delete(held, x.key)
			}
		})
	}
	if refused < 500 {
		t.Errorf("only %d claims were refused", refused)
	}
}

// Promise 11: every worker, claim after claim.
func TestNoWorkerClaimsWhatIsHeld(t *testing.T) {
	for _, start := range []impl.Table{{}, table(kept(signA, 2, 3)), table(by(9, 4, kept(signA, 2, 3))), table(held(signA, 5, 6))} {
		for worker := range impl.MaxWorkers {
			tab, code := impl.Claim(start, signA, worker, 5, impl.MaxSlots)
			if code != 0 {
				t.Fatalf("worker %d: code %d", worker, code)
			}
			for other := range impl.MaxWorkers {
				again, code := impl.Claim(tab, signA, other, 5, impl.MaxSlots)
				wantStep(t, again, code, tab, 1)
				if other != worker {
					wantTable(t, impl.Release(tab, other), tab)
				}
			}
			_, code = impl.Claim(impl.Release(tab, worker), signA, worker, 5, impl.MaxSlots)
			if code != 0 {
				t.Errorf("worker %d after its release: code %d", worker, code)
			}
		}
	}
}

// Promise 12, for every answer that was there and every one that comes.
func TestChangedFollowsTheAnswer(t *testing.T) {
	values := []string{"", "x", "y", "X", "xx", "x\n", "x\x00", "circular", "missing"}
	for _, first := range values {
		for _, second := range values {
			for _, rev := range []int{3, 4, greatRev} {
				tab := table(impl.Slot{Key: signA, Has: true, Value: first, Verified: 3, Changed: 2, Deps: []impl.Key{parseA}})
				tab, _ = impl.Claim(tab, signA, 6, rev, 1)
				tab, code := impl.Finish(tab, signA, 6, rev, second, []impl.Key{checkA})
				want := impl.Slot{Key: signA, Has: true, Value: second, Verified: rev, Changed: rev, Deps: []impl.Key{checkA}}
				if first == second {
					want.Changed = 2
				}
				wantStep(t, tab, code, table(want), 0)
			}
		}
	}
}

// Promise 12, wherever a session comes to a Finish.
func TestChangedInSessions(t *testing.T) {
	d := dice(37)
	same, other := 0, 0
	for range 500 {
		session(&d, 80, func(before impl.Table, x deed, after impl.Table, code int) {
			was, is := impl.Find(before, x.key), impl.Find(after, x.key)
			switch {
			case x.what != "finish" || code != 0:
			case was.Has && was.Value == x.value:
				same++
				if is.Changed != was.Changed {
					t.Fatalf("%s: Changed is %d", x.on(before), is.Changed)
				}
			default:
				other++
				if is.Changed != x.rev {
					t.Fatalf("%s: Changed is %d", x.on(before), is.Changed)
				}
			}
		})
	}
	if same < 100 || other < 500 {
		t.Errorf("only %d and %d", same, other)
	}
}

func TestTablesAreNewMemory(t *testing.T) {
	manyTables(47, 1500, func(d *dice, tab impl.Table) {
		if d.roll(4) == 0 {
			tab = spoiled(d, tab)
		}
		tab = copyTable(tab)
		for range 4 {
			x := someDeed(d, tab)
			x.key.Mod, x.deps = copyText(x.key.Mod), copyKeys(x.deps)
			before, deps := tableText(tab), copyKeys(x.deps)
			got, _ := x.done(tab)
			if tableText(tab) != before || !slices.Equal(x.deps, deps) {
				t.Fatalf("%+v writes into its arguments, which were %s", x, before)
			}
			wantApart(t, tab, x.deps, got)
			wantOwnTexts(t, struct {
				tab  impl.Table
				deps []impl.Key
				key  impl.Key
				text string
			}{tab, x.deps, x.key, x.value}, got)
			spoilTable(got)
			if tableText(tab) != before || !slices.Equal(x.deps, deps) {
				t.Fatalf("%+v gives memory of its arguments, which were %s", x, before)
			}
		}
	})
}

func spoilTable(t impl.Table) {
	for i := range t.Slots {
		spoil(t.Slots[i].Deps, impl.Key{Kind: 9, Mod: "spoiled"})
	}
	spoil(t.Slots, impl.Slot{Value: "spoiled"})
}

func TestQuestionsLeaveTheTableAsItIs(t *testing.T) {
	manyTables(53, 1500, func(d *dice, tab impl.Table) {
		if d.roll(4) == 0 {
			tab = spoiled(d, tab)
		}
		tab = copyTable(tab)
		k := someUsed(d, tab)
		waits := []impl.Wait{{Worker: 0, Key: someUsed(d, tab)}, {Worker: 2, Key: someUsed(d, tab)}}
		before, waitsBefore := tableText(tab), slices.Clone(waits)
		impl.ValidTable(tab)
		impl.Circle(tab, waits, pick(d, tableWorkers), k, 1+d.roll(4))
		found := impl.Find(tab, k)
		wantApart(t, tab, found)
		wantOwnTexts(t, tab, found)
		spoilTable(table(found))
		if tableText(tab) != before || !slices.Equal(waits, waitsBefore) {
			t.Fatalf("the table was %s, it is %s; the waits were %v, they are %v", before, tableText(tab), waitsBefore, waits)
		}
	})
}

// The lists handed in have room behind their ends, which is not to be used.
func TestRoomBehindAListIsNotUsed(t *testing.T) {
	first, second, behind := held(parseKey("m"), 0, 1), held(signA, 1, 1), kept(checkKey("z"), 1, 1)
	slots := []impl.Slot{first, second, behind}
	deps := []impl.Key{parseA, checkKey("z")}
	tab := impl.Table{Slots: slots[:2]}
	for _, k := range []impl.Key{parseA, parseKey("n"), checkA} {
		impl.Claim(tab, k, 0, 1, 9)
	}
	impl.Release(tab, 0)
	impl.Release(tab, 1)
	got, _ := impl.Finish(tab, first.Key, 0, 1, "x", deps[:1])
	wantTable(t, table(slots...), table(first, second, behind))
	wantTable(t, got, table(kept(first.Key, 1, 1, parseA), second))
	spoilTable(got)
	if !slices.Equal(deps, []impl.Key{parseA, checkKey("z")}) {
		t.Errorf("the deps are %v", deps)
	}
}
