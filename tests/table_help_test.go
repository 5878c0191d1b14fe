package tests

import (
	"cmp"
	"fmt"
	"maps"
	"reflect"
	"slices"
	"strings"
	"testing"
	"unsafe"

	"loop.example/s15618/impl"
)

func parseKey(mod string) impl.Key { return impl.Key{Kind: impl.KParse, Mod: mod} }

func signKey(mod string) impl.Key { return impl.Key{Kind: impl.KSign, Mod: mod} }

func checkKey(mod string) impl.Key { return impl.Key{Kind: impl.KCheck, Mod: mod} }

func table(slots ...impl.Slot) impl.Table {
	return impl.Table{Slots: slots}
}

// kept is a slot with the answer x, and held one without an answer.
func kept(k impl.Key, changed int, verified int, deps ...impl.Key) impl.Slot {
	return impl.Slot{Key: k, Has: true, Value: "x", Deps: deps, Verified: verified, Changed: changed}
}

func held(k impl.Key, worker int, rev int) impl.Slot {
	return by(worker, rev, impl.Slot{Key: k})
}

func by(worker int, rev int, s impl.Slot) impl.Slot {
	s.Owner, s.Since = worker+1, rev
	return s
}

// tableText hides nothing of a slot, so that what should be zero is seen to be.
func tableText(t impl.Table) string {
	var out []string
	for _, s := range t.Slots {
		out = append(out, keyText(s.Key)+":")
		if s.Has || s.Value != "" {
			out = append(out, fmt.Sprintf("%t %q", s.Has, s.Value))
		}
		if s.Changed != 0 || s.Verified != 0 {
			out = append(out, fmt.Sprintf("%d/%d", s.Changed, s.Verified))
		}
		for _, k := range s.Deps {
			out = append(out, "from "+keyText(k))
		}
		if s.Owner != 0 || s.Since != 0 {
			out = append(out, fmt.Sprintf("by %d since %d", s.Owner-1, s.Since))
		}
		out = append(out, ";")
	}
	return strings.Join(out, " ")
}

func keyText(k impl.Key) string {
	return fmt.Sprintf("%d %q", k.Kind, k.Mod)
}

func wantTable(t *testing.T, got impl.Table, want impl.Table) {
	t.Helper()
	if tableText(got) != tableText(want) {
		t.Errorf("the table is\n%.2000s\nit should be\n%.2000s", tableText(got), tableText(want))
	}
}

func wantStep(t *testing.T, got impl.Table, code int, want impl.Table, wantCode int) {
	t.Helper()
	if code != wantCode {
		t.Errorf("the code is %d, it should be %d", code, wantCode)
	}
	wantTable(t, got, want)
}

func copyKeys(keys []impl.Key) []impl.Key {
	return copyList(keys, func(k impl.Key) impl.Key { return impl.Key{Kind: k.Kind, Mod: strings.Clone(k.Mod)} })
}

func copyTable(t impl.Table) impl.Table {
	return impl.Table{Slots: copyList(t.Slots, func(s impl.Slot) impl.Slot {
		s.Key.Mod, s.Value, s.Deps = strings.Clone(s.Key.Mod), strings.Clone(s.Value), copyKeys(s.Deps)
		return s
	})}
}

// wantOwnTexts is for answers that must not share the bytes of any text either.
func wantOwnTexts(t *testing.T, arguments any, answer any) {
	t.Helper()
	taken := map[*byte]bool{}
	for _, text := range textsIn(reflect.ValueOf(arguments)) {
		taken[unsafe.StringData(text)] = true
	}
	for _, text := range textsIn(reflect.ValueOf(answer)) {
		if taken[unsafe.StringData(text)] {
			t.Fatalf("the text %q shares memory with an argument", text)
		}
	}
}

// What follows goes by the words of the document, over a map in no order.

func plainKey(k impl.Key) bool {
	return slices.Contains([]int{impl.KParse, impl.KSign, impl.KCheck}, k.Kind) && plainName(k.Mod)
}

func plainLess(a impl.Key, b impl.Key) bool {
	return a.Kind < b.Kind || a.Kind == b.Kind && a.Mod < b.Mod
}

func plainKeys(keys []impl.Key) bool {
	for _, k := range keys {
		if !plainKey(k) {
			return false
		}
	}
	return len(keys) <= 1000
}

func plainSlot(s impl.Slot) bool {
	isHeld := s.Owner >= 1 && s.Owner <= 16 && s.Since >= 1
	if !isHeld && (s.Owner != 0 || s.Since != 0) {
		return false
	}
	if s.Has {
		return s.Changed >= 1 && s.Changed <= s.Verified && plainKeys(s.Deps)
	}
	return isHeld && s.Value == "" && len(s.Deps) == 0 && s.Verified == 0 && s.Changed == 0
}

func plainTable(t impl.Table) bool {
	for i, s := range t.Slots {
		if !plainKey(s.Key) || !plainSlot(s) {
			return false
		}
		if i > 0 && !plainLess(t.Slots[i-1].Key, s.Key) {
			return false
		}
	}
	return len(t.Slots) <= 4096
}

func plainUse(t impl.Table, k impl.Key, worker int, rev int) bool {
	return plainTable(t) && plainKey(k) && worker >= 0 && worker <= 15 && rev >= 1
}

func slotMap(t impl.Table) map[impl.Key]impl.Slot {
	out := map[impl.Key]impl.Slot{}
	for _, s := range t.Slots {
		out[s.Key] = s
	}
	return out
}

func fromMap(slots map[impl.Key]impl.Slot) impl.Table {
	return impl.Table{Slots: slices.SortedFunc(maps.Values(slots), func(a, b impl.Slot) int {
		return cmp.Or(a.Key.Kind-b.Key.Kind, strings.Compare(a.Key.Mod, b.Key.Mod))
	})}
}

func plainFind(t impl.Table, k impl.Key) impl.Slot {
	if !plainTable(t) {
		return impl.Slot{}
	}
	return slotMap(t)[k]
}

func plainClaim(t impl.Table, k impl.Key, worker int, rev int, capacity int) (impl.Table, int) {
	if !plainUse(t, k, worker, rev) || capacity < 1 || capacity > 4096 {
		return impl.Table{}, 9
	}
	slots := slotMap(t)
	s, ok := slots[k]
	if s.Owner > 0 && s.Since == rev {
		return t, 1
	}
	if !ok && len(slots) >= capacity {
		return t, 2
	}
	s.Key = k
	slots[k] = by(worker, rev, s)
	return fromMap(slots), 0
}

func plainRelease(t impl.Table, worker int) impl.Table {
	if !plainTable(t) || worker < 0 || worker > 15 {
		return impl.Table{}
	}
	slots := slotMap(t)
	for k, s := range slots {
		switch {
		case s.Owner == worker+1 && s.Has:
			slots[k] = by(-1, 0, s)
		case s.Owner == worker+1:
			delete(slots, k)
		}
	}
	return fromMap(slots)
}

func plainFinish(t impl.Table, k impl.Key, worker int, rev int, value string, deps []impl.Key) (impl.Table, int) {
	if !plainUse(t, k, worker, rev) || !plainKeys(deps) {
		return impl.Table{}, 9
	}
	slots := slotMap(t)
	s := slots[k]
	if s.Owner != worker+1 || s.Since != rev || s.Has && s.Verified > rev {
		return t, 1
	}
	changed := rev
	if s.Has && s.Value == value {
		changed = s.Changed
	}
	slots[k] = impl.Slot{Key: k, Has: true, Value: value, Deps: deps, Verified: rev, Changed: changed}
	return fromMap(slots), 0
}

func plainConfirm(t impl.Table, k impl.Key, worker int, rev int) (impl.Table, int) {
	if !plainUse(t, k, worker, rev) {
		return impl.Table{}, 9
	}
	slots := slotMap(t)
	s := slots[k]
	if s.Owner != worker+1 || s.Since != rev || !s.Has || s.Verified > rev {
		return t, 1
	}
	s.Verified = rev
	slots[k] = by(-1, 0, s)
	return fromMap(slots), 0
}

func plainCircle(t impl.Table, waits []impl.Wait, worker int, k impl.Key, rev int) bool {
	if !plainUse(t, k, worker, rev) || len(waits) > 16 {
		return false
	}
	return plainWaits(slotMap(t), waits, worker, k, rev, 17)
}

func plainWaits(slots map[impl.Key]impl.Slot, waits []impl.Wait, worker int, k impl.Key, rev int, left int) bool {
	s := slots[k]
	if left == 0 || s.Owner == 0 || s.Since != rev {
		return false
	}
	if s.Owner == worker+1 {
		return true
	}
	for _, w := range waits {
		if w.Worker == s.Owner-1 {
			return plainWaits(slots, waits, worker, w.Key, rev, left-1)
		}
	}
	return false
}

// The names are few, so that the same slot is come to again and again.
var (
	tableMods    = []string{"a", "a0", "a_", "aa", "b", "z", twelve}
	tableValues  = []string{"", "x", "x", "y", "xx", "x\n"}
	tableWorkers = []int{0, 1, 2, 2, 15}
)

func pick[T any](d *dice, from []T) T {
	return from[d.roll(len(from))]
}

func someKey(d *dice) impl.Key {
	return impl.Key{Kind: 1 + d.roll(3), Mod: pick(d, tableMods)}
}

func someKeys(d *dice) []impl.Key {
	var out []impl.Key
	for range d.roll(4) {
		out = append(out, someKey(d))
	}
	return out
}

// someTable has as many slots as come, in revisions up to the given one.
func someTable(d *dice, revs int) impl.Table {
	slots := map[impl.Key]impl.Slot{}
	for range d.roll(12) {
		s := impl.Slot{Key: someKey(d)}
		if d.roll(3) > 0 {
			s.Has, s.Value, s.Deps, s.Verified = true, pick(d, tableValues), someKeys(d), 1+d.roll(revs)
			s.Changed = 1 + d.roll(s.Verified)
		}
		if !s.Has || d.roll(2) == 0 {
			s = by(pick(d, tableWorkers), 1+d.roll(revs), s)
		}
		slots[s.Key] = s
	}
	return fromMap(slots)
}

// someUsed is a key of the table, if there is one, three times out of four.
func someUsed(d *dice, t impl.Table) impl.Key {
	if len(t.Slots) == 0 || d.roll(4) == 0 {
		return someKey(d)
	}
	return pick(d, t.Slots).Key
}

func manyTables(seed dice, rounds int, look func(d *dice, t impl.Table)) {
	d := &seed
	for range rounds {
		look(d, someTable(d, 4))
	}
}

// numberedMod gives names whose order is that of their numbers.
func numberedMod(n int) string {
	return fmt.Sprintf("m%05d", n)
}

// longTable has n slots, by turns free with an answer, held with one, and held without.
func longTable(n int) impl.Table {
	var out impl.Table
	for i := range n {
		k := parseKey(numberedMod(i))
		out.Slots = append(out.Slots, []impl.Slot{kept(k, 1, 2, k), by(i%16, 3, kept(k, 2, 2)), held(k, i%16, 2)}[i%3])
	}
	return out
}
