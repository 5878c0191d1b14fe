/-
  Tables: the model's put.
-/
import Derived.Test.YtijgiingfgaakaaTabB3
namespace Go.Proofs.Ytijgiingfgaakaa
open Go.RowKit

/-- A slot put at its place: in the place of the one there, or ahead of it. -/
def putD (same : Bool) (pos : Nat) (s : SD) (D : Nat → SD) (j : Nat) : SD := if j < pos then D j else if j = pos then s else if same then D j else D (j - 1)
/-- How many slots stand behind q of the old ones. -/
def putC (same : Bool) (pos q : Nat) : Nat := if q ≤ pos then q else if same then q else q + 1

theorem putC_le {same : Bool} {pos q : Nat} (h : q ≤ pos) : putC same pos q = q := by unfold putC; rw [if_pos h]
theorem putC_gt {pos q : Nat} (h : pos < q) : putC true pos q = q := by unfold putC; rw [if_neg (by omega), if_pos rfl]
theorem putC_gn {pos q : Nat} (h : pos < q) : putC false pos q = q + 1 := by unfold putC; rw [if_neg (by omega), if_neg (by simp)]
theorem putD_lt {same : Bool} {pos j : Nat} {s : SD} {D : Nat → SD} (h : j < pos) : putD same pos s D j = D j := by unfold putD; rw [if_pos h]
theorem putD_at {same : Bool} {pos : Nat} {s : SD} {D : Nat → SD} : putD same pos s D pos = s := by unfold putD; rw [if_neg (by omega), if_pos rfl]
theorem putD_gt {pos j : Nat} {s : SD} {D : Nat → SD} (h : pos < j) : putD true pos s D j = D j := by unfold putD; rw [if_neg (by omega), if_neg (by omega), if_pos rfl]
theorem putD_gn {pos j : Nat} {s : SD} {D : Nat → SD} (h : pos < j) : putD false pos s D j = D (j - 1) := by unfold putD; rw [if_neg (by omega), if_neg (by omega), if_neg (by simp)]

theorem put_lt {same : Bool} {pos q : Nat} {s : SD} {D : Nat → SD} (h : q < pos) : putD same pos s D (putC same pos q) = D q ∧ putC same pos q + 1 = putC same pos (q + 1) ∧ putC same pos q ≤ q + 1 := by
  rw [putC_le (by omega), putC_le (by omega), putD_lt h]; exact ⟨rfl, rfl, by omega⟩
theorem put_at {same : Bool} {pos : Nat} {s : SD} {D : Nat → SD} : putD same pos s D (putC same pos pos) = s ∧ putC same pos pos = pos := by
  rw [putC_le (Nat.le_refl _), putD_at]; exact ⟨rfl, rfl⟩
theorem put_gt {same : Bool} {pos q : Nat} {s : SD} {D : Nat → SD} (h : pos < q) : putD same pos s D (putC same pos q) = D q ∧ putC same pos q + 1 = putC same pos (q + 1) ∧ putC same pos q ≤ q + 1 := by
  cases same
  · rw [putC_gn h, putC_gn (by omega), putD_gn (by omega)]; exact ⟨rfl, rfl, by omega⟩
  · rw [putC_gt h, putC_gt (by omega), putD_gt h]; exact ⟨rfl, rfl, by omega⟩

theorem bld_step' {w w1 w3 : World} {base : Nat} {oa : Option Addr} {c cap gg cap3 : Nat} {ka : Option Addr} {kc : Nat} {p : Nat → SP} {D : Nat → SD} {d : SD} {o : Obj} (hd : D c = d) (h : Bld w base (.slice oa c cap) c p D) (hb : Below w.heap.size w w1)
    (hK : w1.ownsRow w.heap.size 37 2 (.slice ka d.n kc) d.n (kcells d.dk d.dm d.n)) (hbase : base ≤ w.heap.size)
    (hown3 : w3.ownsRow base 40 9 (.slice (some ⟨gg, 0, none⟩) (c + 1) cap3) (c + 1) (scells p D c ++ slc ⟨ka, 0, 0, kc⟩ d)) (hg3 : (w1.alloc o).grownBy w3 (Value.slice oa c cap).ownBlock)
    (hat : (Value.slice oa c cap).ownBlock = some gg ∨ gg = w1.heap.size + 1) :
    ∃ q, Bld w3 base (.slice (some ⟨gg, 0, none⟩) (c + 1) cap3) (c + 1) q D := by
  subst hd; exact bld_step h hb hK hbase hown3 hg3 hat

/-- What the put holds besides the table that it builds. -/
structure PB (w W : World) (ao : Option Addr) (n c : Nat) (ps : SP) (ds : SD) : Prop where
  t : W.rowIs w.heap.size 28 1 (fun _ => .slice ao n c)
  s : W.rowIs (w.heap.size + 1) 40 9 (sc ps ds)
  r : W.rowIs (w.heap.size + 1 + 1) 28 1 (fun _ => .slice none 0 0)
  b : Below w.heap.size w W

theorem PB.below {w W W' : World} {ao : Option Addr} {n c : Nat} {ps : SP} {ds : SD} (h : PB w W ao n c ps ds) (hb : Below W.heap.size W W') : PB w W' ao n c ps ds :=
  ⟨h.t.of_block (hb.block _ h.t.lt), h.s.of_block (hb.block _ h.s.lt), h.r.of_block (hb.block _ h.r.lt), h.b.trans (hb.mono h.b.size)⟩

theorem PB.grown {w W W' : World} {ao : Option Addr} {n c : Nat} {ps : SP} {ds : SD} (h : PB w W ao n c ps ds) {o : Obj} {row : Option Nat} (hg : (W.alloc o).grownBy W' row) (hr : ∀ x, row = some x → w.heap.size + 1 + 1 < x) : PB w W' ao n c ps ds := by
  have key : ∀ x, x ≤ w.heap.size + 1 + 1 → W'.heap[x]? = (W.alloc o).heap[x]? := fun x hx => hg.block x (by have := h.r.lt; simp; omega) (fun e => by have := hr x e.symm; omega)
  exact ⟨(h.t.alloc o).of_block (key _ (by omega)), (h.s.alloc o).of_block (key _ (by omega)), (h.r.alloc o).of_block (key _ (by omega)), grown_below (h.b.alloc h.b.size _) hg (fun x e => by have := hr x e; omega)⟩

set_option maxRecDepth 100000 in
set_option maxHeartbeats 16000000 in
theorem t_put (ao : Option Addr) (b o n c : Nat) (p : Nat → SP) (D : Nat → SD) (ps : SP) (ds : SD) (same : Bool) (pos : Nat) (w : World) (h1 : SlotsAt w ao b o n p D) (hn : n ≤ 1048576) (hG : ∀ i, i < n → (D i).n ≤ 1048576) (hs : SlotAt w ps ds) (hsn : ds.n ≤ 1048576)
    (hp1 : ∀ j, j < pos → kl (D j).k (D j).m ds.k ds.m = true) (hp2 : ∀ j, pos ≤ j → j < n → kl (D j).k (D j).m ds.k ds.m = false) (hp3 : ∀ j, j < n → decide (sk (D j).k (D j).m ds.k ds.m) = (same && decide (j = pos))) (hp4 : same = true → pos < n) (hp5 : pos ≤ n) :
    Calls Try.prog 56 #[.agg #[.slice ao n c], sdv ps ds] w fun e w' => TabPost w (if same then n else n + 1) (putD same pos ds D) e w' := by
  obtain ⟨i0, hi0, hz0, hz1, hz2⟩ := info_parts' Try.info40
  have HB : Hid (∀ w', Below w.heap.size w w' → SlotsAt w' ao b o n p D ∧ SlotAt w' ps ds) := fun w' hb => ⟨h1.below hb, hs.below hb⟩
  have HG : Hid (∀ i, i < n → (D i).n ≤ 1048576) := hG
  have HP1 : Hid (∀ j, j < pos → kl (D j).k (D j).m ds.k ds.m = true) := hp1
  have HP2 : Hid (∀ j, pos ≤ j → j < n → kl (D j).k (D j).m ds.k ds.m = false) := hp2
  have HP3 : Hid (∀ j, j < n → decide (sk (D j).k (D j).m ds.k ds.m) = (same && decide (j = pos))) := hp3
  have HP4 : Hid (same = true → pos < n) := hp4
  have A1 := h1.at_
  have hsm := hs.sm
  have HSM : Hid (∀ i, i < n → (D i).m.size ≤ 9223372036854775807) := fun i hi => (h1.slot i hi).sm
  clear h1 hG hs hp1 hp2 hp3 hp4
  obtain ⟨n', hn'⟩ : ∃ n', n' = if same then n else n + 1 := ⟨_, rfl⟩
  rw [← hn']
  have HNE : Hid (n' = if same then n else n + 1) := hn'
  clear hn'
  unfold sdv
  have O0 := World.ownsRow_lit (base := w.heap.size + 1 + 1 + 1) (e := 40) (size := 9) (((w.alloc (.cells #[.slice ao n c] 28)).alloc (.cells #[.int .i64 ds.k, .string ds.m, .bool ds.has, .string ds.v, .slice ps.a ds.n ps.c, .int .i64 ds.ver, .int .i64 ds.chg, .int .i64 ds.own, .int .i64 ds.sin] 40)).alloc (.cells #[.slice none 0 0] 28)) #[] 0 (by simp) (by unfold maxLen; omega) rfl
  simp only [World.size_alloc] at O0
  have r1 := (((row1 w (.slice ao n c) 28).alloc (.cells #[.int .i64 ds.k, .string ds.m, .bool ds.has, .string ds.v, .slice ps.a ds.n ps.c, .int .i64 ds.ver, .int .i64 ds.chg, .int .i64 ds.own, .int .i64 ds.sin] 40)).alloc (.cells #[.slice none 0 0] 28)).alloc (.cells #[] 40)
  have r2 := ((row_sc (w.alloc (.cells #[.slice ao n c] 28)) ps ds 40).alloc (.cells #[.slice none 0 0] 28)).alloc (.cells #[] 40)
  have r3 := (row1 ((w.alloc (.cells #[.slice ao n c] 28)).alloc (.cells #[.int .i64 ds.k, .string ds.m, .bool ds.has, .string ds.v, .slice ps.a ds.n ps.c, .int .i64 ds.ver, .int .i64 ds.chg, .int .i64 ds.own, .int .i64 ds.sin] 40)) (.slice none 0 0) 28).alloc (.cells #[] 40)
  simp only [World.size_alloc] at r2 r3
  have B0 := (bel3 w (.cells #[.slice ao n c] 28) (.cells #[.int .i64 ds.k, .string ds.m, .bool ds.has, .string ds.v, .slice ps.a ds.n ps.c, .int .i64 ds.ver, .int .i64 ds.chg, .int .i64 ds.own, .int .i64 ds.sin] 40) (.cells #[.slice none 0 0] 28)).alloc (by simp; omega) (.cells #[] 40)
  have H0 : Hid (_ ∧ PB w _ ao n c ps ds) := ⟨bld_start (p := p) (D := putD same pos ds D) O0, ⟨r1, r2, r3, B0⟩⟩
  have hd0 : decide (pos < 0) = false := decide_eq_false (by omega)
  have hc0 : putC same pos 0 = 0 := by unfold putC; rw [if_pos (by omega)]
  clear O0 r1 r2 r3 B0
  go_enter Try.func56, Try.ntmps56
  go_wp2
  go_loopw [5, 6, 7] (fun s dn i wr => ∃ (k : Nat) (q : Nat → SP), k ≤ n ∧ i = .int .i64 k ∧ dn = .bool (decide (pos < k)) ∧ Hid (Bld wr (w.heap.size + 1 + 1 + 1) s (putC same pos k) q (putD same pos ds D) ∧ PB w wr ao n c ps ds)) (fun _ _ i _ => n - (intOf i).toNat)
  case atStart => exact ⟨0, p, Nat.zero_le _, rfl, by rw [hd0], by rw [hc0]; exact H0⟩
  case round =>
    clear H0 hd0 hc0
    obtain ⟨k, q, hk, rfl, rfl, HQ⟩ := hrel
    obtain ⟨cc, hcc⟩ : ∃ cc, cc = putC same pos k := ⟨_, rfl⟩
    rw [← hcc] at HQ
    have HCC : Hid (cc = putC same pos k) := hcc
    clear hcc
    obtain ⟨oa, cap2, rfl⟩ := own_form HQ.out.1.own
    have x0 := HQ.out.2.t.cell (i := 0) (by omega)
    by_cases hlt : k < n
    · obtain ⟨q1, _⟩ := HB.out wr HQ.out.2.b
      have e1 := A1 (by omega)
      obtain ⟨a0, a1, a2, a3, a4, a5, a6, a7, a8⟩ := q1.nine k hlt
      have HN : Hid (SlotAt wr (p k) (D k)) := q1.slot k hlt
      have hws := HQ.out.2.r.lt
      clear q1
      subst e1
      -- the box of the old slot
      have PX : Hid (PB w (wr.alloc (.cells #[.int .i64 (D k).k, .string (D k).m, .bool (D k).has, .string (D k).v, .slice (p k).a (D k).n (p k).c, .int .i64 (D k).ver, .int .i64 (D k).chg, .int .i64 (D k).own, .int .i64 (D k).sin] 40)) (some ⟨b, o, none⟩) n c ps ds ∧ (wr.alloc (.cells #[.int .i64 (D k).k, .string (D k).m, .bool (D k).has, .string (D k).v, .slice (p k).a (D k).n (p k).c, .int .i64 (D k).ver, .int .i64 (D k).chg, .int .i64 (D k).own, .int .i64 (D k).sin] 40)).rowIs wr.heap.size 40 9 (sc (p k) (D k)) ∧ Bld (wr.alloc (.cells #[.int .i64 (D k).k, .string (D k).m, .bool (D k).has, .string (D k).v, .slice (p k).a (D k).n (p k).c, .int .i64 (D k).ver, .int .i64 (D k).chg, .int .i64 (D k).own, .int .i64 (D k).sin] 40)) (w.heap.size + 1 + 1 + 1) (.slice oa cc cap2) cc q (putD same pos ds D)) := ⟨HQ.out.2.below (bel1 _ _), row_sc wr (p k) (D k) 40, HQ.out.1.below (bel1 _ _)⟩
      have hsk := HSM.out k hlt
      have hsx := PX.out.2.1
      obtain ⟨y0, y1, y2, y3, y4, y5, y6, y7, y8⟩ := nine_sc PX.out.2.1
      obtain ⟨s0, s1, -, -, -, -, -, -, -⟩ := nine_sc PX.out.1.s
      have hxr : Hid (∀ x, (Value.slice oa cc cap2).ownBlock = some x → x < wr.heap.size) := fun x e => (HQ.out.1.own.lt x e).2
      rcases Nat.lt_trichotomy k pos with hkp | hkp | hkp
      · have hd : decide (pos < k) = false := decide_eq_false (by omega)
        obtain ⟨u1, u2, u3⟩ := put_lt (same := same) (s := ds) (D := D) hkp
        rw [← HCC.out] at u1 u2 u3
        have HU : Hid (putD same pos ds D cc = D k ∧ cc + 1 = putC same pos (k + 1)) := ⟨u1, u2⟩
        have hsf : (same && decide (k = pos)) = false := by rw [decide_eq_false (by omega), Bool.and_false]
        have hccb : cc ≤ 1048576 := by omega
        rw [hd]
        clear u1 u2 u3 hsx y2 y3 y4 y5 y6 y7 y8
        go_wp2_with fail
        refine (c26 (D k).k (D k).m ds.k ds.m _ hsk hsm).mono ?_
        rintro e w1 ⟨rfl, hb1⟩
        rw [HP1.out k hkp]
        have Pw1 : Hid (PB w w1 (some ⟨b, o, none⟩) n c ps ds ∧ w1.rowIs wr.heap.size 40 9 (sc (p k) (D k)) ∧ Bld w1 (w.heap.size + 1 + 1 + 1) (.slice oa cc cap2) cc q (putD same pos ds D)) := ⟨PX.out.1.below hb1, PX.out.2.1.of_block (hb1.block _ PX.out.2.1.lt), PX.out.2.2.below hb1⟩
        have Sw1 : Hid (SlotAt w1 (p k) (D k)) := (HB.out w1 Pw1.out.1.b).1.slot k hlt
        clear hb1 y0 y1 s0 s1
        obtain ⟨y0, y1, y2, y3, y4, y5, y6, y7, y8⟩ := nine_sc Pw1.out.2.1
        obtain ⟨s0, s1, -, -, -, -, -, -, -⟩ := nine_sc Pw1.out.1.s
        clear y2 y3 y4 y5 y6 y7 y8
        go_wp2_with fail
        refine (c60 (D k).k (D k).m ds.k ds.m _).mono ?_
        rintro e w2 ⟨rfl, hb1⟩
        rw [HP3.out k hlt, hsf]
        have Pw2 : Hid (PB w w2 (some ⟨b, o, none⟩) n c ps ds ∧ w2.rowIs wr.heap.size 40 9 (sc (p k) (D k)) ∧ Bld w2 (w.heap.size + 1 + 1 + 1) (.slice oa cc cap2) cc q (putD same pos ds D)) := ⟨Pw1.out.1.below hb1, Pw1.out.2.1.of_block (hb1.block _ Pw1.out.2.1.lt), Pw1.out.2.2.below hb1⟩
        have Sw2 : Hid (SlotAt w2 (p k) (D k)) := (HB.out w2 Pw2.out.1.b).1.slot k hlt
        clear hb1 y0 y1 s0 s1
        obtain ⟨y0, y1, y2, y3, y4, y5, y6, y7, y8⟩ := nine_sc Pw2.out.2.1
        go_wp2_with fail
        refine (c61 (p k) (D k) _ Sw2.out (HG.out k hlt)).mono ?_
        rintro e w4 ⟨ka, kc, rfl, O2, hb2⟩
        have C2 : Hid (Below w2.heap.size w2 w4) := hb2
        have P4 : Hid (PB w w4 (some ⟨b, o, none⟩) n c ps ds ∧ w4.rowIs wr.heap.size 40 9 (sc (p k) (D k)) ∧ Bld w4 (w.heap.size + 1 + 1 + 1) (.slice oa cc cap2) cc q (putD same pos ds D)) := ⟨Pw2.out.1.below hb2, Pw2.out.2.1.of_block (hb2.block _ Pw2.out.2.1.lt), Pw2.out.2.2.below hb2⟩
        have HK2 : Hid (w4.ownsRow w2.heap.size 37 2 (.slice ka (D k).n kc) (D k).n (kcells (D k).dk (D k).dm (D k).n)) := O2
        have hws2 : w.heap.size + 1 + 1 < w4.heap.size := P4.out.1.r.lt
        have hws1 : w.heap.size + 1 + 1 < w2.heap.size := Pw2.out.1.r.lt
        clear O2 hb2 y0 y1 y2 y3 y4 y5 y6 y7 y8
        unfold sdl
        go_wp2_with (first | (at_builtin; refine wpList_append_lies _ rfl _ _ 26 rfl (w.heap.size + 1 + 1 + 1) 40 i0 _ 9 104 Try.underlying26 hi0 hz0 hz1 hz2 rfl (by omega) (.slice oa cc cap2) cc (scells q (putD same pos ds D) cc) rfl (P4.out.2.2.own.alloc _) ⟨w4.heap.size, 0, none⟩ 1 1 (slc ⟨ka, 0, 0, kc⟩ (D k)) rfl rfl (World.news_of_block (cs := #[.int .i64 (D k).k, .string (D k).m, .bool (D k).has, .string (D k).v, .slice ka (D k).n kc, .int .i64 (D k).ver, .int .i64 (D k).chg, .int .i64 (D k).own, .int .i64 (D k).sin]) (t := 40) (fr := (0, 0)) (heap_alloc_new w4 _)) (by simp [slc, Value.oneCell']) (by omega) (by unfold maxLen; omega) (by omega) (by simp; omega) (w4.heap.size + 1) (by simp) ?_; intro gg cap3 w3 hown3 hg3 hat hlt3))
        have FIN : Hid (∃ q', Bld w3 (w.heap.size + 1 + 1 + 1) (.slice (some ⟨gg, 0, none⟩) (cc + 1) cap3) (cc + 1) q' (putD same pos ds D)) := bld_step' HU.out.1 Pw2.out.2.2 C2.out HK2.out (by omega) hown3 hg3 hat
        have F2 : Hid (PB w w3 (some ⟨b, o, none⟩) n c ps ds ∧ True) := ⟨P4.out.1.grown hg3 (fun x e => by have := (P4.out.2.2.own.lt x e).1; omega), trivial⟩
        clear hown3 hg3 hat
        go_roundw
        case rel =>
          obtain ⟨q', hq'⟩ := FIN.out
          exact ⟨k + 1, q', by omega, by go_num, by rw [decide_eq_false (by omega : ¬ pos < k + 1)], by rw [← HU.out.2]; exact ⟨hq', F2.out.1⟩⟩
        case measure => simp [intOf]; omega
      · have hd : decide (pos < k) = false := decide_eq_false (by omega)
        obtain ⟨u1, u2⟩ := put_at (same := same) (s := ds) (D := D) (pos := pos)
        have HU : Hid (putD same pos ds D cc = ds ∧ cc = pos) := by
          have e := HCC.out
          rw [hkp] at e
          rw [← e] at u1 u2
          exact ⟨u1, u2⟩
        have hccb : cc ≤ 1048576 := by have := HU.out.2; omega
        have HSF : Hid ((same && decide (k = pos)) = same) := by show _ = _; rw [decide_eq_true hkp, Bool.and_true]
        have HKP : Hid (k = pos) := hkp
        have hkp1 : pos < k + 1 := by omega
        have hkp0 : pos ≤ k := by omega
        rw [hd]
        clear u1 u2 hsx hkp y2 y3 y4 y5 y6 y7 y8
        go_wp2_with fail
        refine (c26 (D k).k (D k).m ds.k ds.m _ hsk hsm).mono ?_
        rintro e w1 ⟨rfl, hb1⟩
        rw [HP2.out k hkp0 hlt]
        have Pw1 : Hid (PB w w1 (some ⟨b, o, none⟩) n c ps ds ∧ w1.rowIs wr.heap.size 40 9 (sc (p k) (D k)) ∧ Bld w1 (w.heap.size + 1 + 1 + 1) (.slice oa cc cap2) cc q (putD same pos ds D)) := ⟨PX.out.1.below hb1, PX.out.2.1.of_block (hb1.block _ PX.out.2.1.lt), PX.out.2.2.below hb1⟩
        clear hb1 y0 y1 s0 s1
        have T1 : Hid (SlotAt w1 ps ds) := (HB.out w1 Pw1.out.1.b).2
        obtain ⟨s0, s1, s2, s3, s4, s5, s6, s7, s8⟩ := nine_sc Pw1.out.1.s
        go_wp2_with fail
        refine (c61 ps ds _ T1.out hsn).mono ?_
        rintro e w4 ⟨ka, kc, rfl, O2, hb2⟩
        have C2 : Hid (Below w1.heap.size w1 w4) := hb2
        have P4 : Hid (PB w w4 (some ⟨b, o, none⟩) n c ps ds ∧ w4.rowIs wr.heap.size 40 9 (sc (p k) (D k)) ∧ Bld w4 (w.heap.size + 1 + 1 + 1) (.slice oa cc cap2) cc q (putD same pos ds D)) := ⟨Pw1.out.1.below hb2, Pw1.out.2.1.of_block (hb2.block _ Pw1.out.2.1.lt), Pw1.out.2.2.below hb2⟩
        have HK2 : Hid (w4.ownsRow w1.heap.size 37 2 (.slice ka ds.n kc) ds.n (kcells ds.dk ds.dm ds.n)) := O2
        have hws2 : w.heap.size + 1 + 1 < w4.heap.size := P4.out.1.r.lt
        have hws1 : w.heap.size + 1 + 1 < w1.heap.size := Pw1.out.1.r.lt
        have hwx : wr.heap.size < w4.heap.size := P4.out.2.1.lt
        have XF : Hid (∀ (W : World) (ob : Obj), (w4.alloc ob).grownBy W (Value.slice oa cc cap2).ownBlock → W.cell? ⟨wr.heap.size, 0, none⟩ = some (.int .i64 (D k).k) ∧ W.cell? ⟨wr.heap.size, 1, none⟩ = some (.string (D k).m) ∧ W.cell? ⟨w.heap.size + 1, 0, none⟩ = some (.int .i64 ds.k) ∧ W.cell? ⟨w.heap.size + 1, 1, none⟩ = some (.string ds.m)) := fun W ob hg => by
          have PB1 := P4.out.1.grown hg (fun x e => by have := (P4.out.2.2.own.lt x e).1; omega)
          have RX := (P4.out.2.1.alloc ob).of_block (hg.block _ (by simp; omega) (fun e => by have := hxr.out _ e.symm; omega))
          obtain ⟨y0, y1, -, -, -, -, -, -, -⟩ := nine_sc RX
          obtain ⟨s0, s1, -, -, -, -, -, -, -⟩ := nine_sc PB1.s
          exact ⟨y0, y1, s0, s1⟩
        clear O2 hb2 s0 s1 s2 s3 s4 s5 s6 s7 s8
        unfold sdl
        go_wp2_with (first | (at_builtin; refine wpList_append_lies _ rfl _ _ 26 rfl (w.heap.size + 1 + 1 + 1) 40 i0 _ 9 104 Try.underlying26 hi0 hz0 hz1 hz2 rfl (by omega) (.slice oa cc cap2) cc (scells q (putD same pos ds D) cc) rfl (P4.out.2.2.own.alloc _) ⟨w4.heap.size, 0, none⟩ 1 1 (slc ⟨ka, 0, 0, kc⟩ ds) rfl rfl (World.news_of_block (cs := #[.int .i64 ds.k, .string ds.m, .bool ds.has, .string ds.v, .slice ka ds.n kc, .int .i64 ds.ver, .int .i64 ds.chg, .int .i64 ds.own, .int .i64 ds.sin]) (t := 40) (fr := (0, 0)) (heap_alloc_new w4 _)) (by simp [slc, Value.oneCell']) (by omega) (by unfold maxLen; omega) (by omega) (by simp; omega) (w4.heap.size + 1) (by simp) ?_; intro gg cap3 w3 hown3 hg3 hat hlt3; obtain ⟨y0, y1, s0, s1⟩ := XF.out _ _ hg3))
        have FIN : Hid (∃ q', Bld w3 (w.heap.size + 1 + 1 + 1) (.slice (some ⟨gg, 0, none⟩) (cc + 1) cap3) (cc + 1) q' (putD same pos ds D)) := bld_step' HU.out.1 Pw1.out.2.2 C2.out HK2.out (by omega) hown3 hg3 hat
        have F2 : Hid (PB w w3 (some ⟨b, o, none⟩) n c ps ds ∧ w3.rowIs wr.heap.size 40 9 (sc (p k) (D k))) := ⟨P4.out.1.grown hg3 (fun x e => by have := (P4.out.2.2.own.lt x e).1; omega), (P4.out.2.1.alloc _).of_block (hg3.block _ (by simp; omega) (fun e => by have := hxr.out _ e.symm; omega))⟩
        clear hown3 hg3 hat XF
        refine (c60 (D k).k (D k).m ds.k ds.m _).mono ?_
        rintro e w5 ⟨rfl, hb5⟩
        rw [HP3.out k hlt, HSF.out]
        have P5 : Hid (PB w w5 (some ⟨b, o, none⟩) n c ps ds ∧ w5.rowIs wr.heap.size 40 9 (sc (p k) (D k)) ∧ ∃ q', Bld w5 (w.heap.size + 1 + 1 + 1) (.slice (some ⟨gg, 0, none⟩) (cc + 1) cap3) (cc + 1) q' (putD same pos ds D)) := ⟨F2.out.1.below hb5, F2.out.2.of_block (hb5.block _ F2.out.2.lt), by
          obtain ⟨q', hq'⟩ := FIN.out
          exact ⟨q', hq'.below hb5⟩⟩
        clear hb5 y0 y1 s0 s1 FIN F2
        obtain ⟨sm, hsme⟩ : ∃ sm, sm = same := ⟨_, rfl⟩
        have HSM2 : Hid (sm = same) := hsme
        rw [← hsme]
        clear hsme HSF
        cases sm
        · obtain ⟨q', hq'⟩ := P5.out.2.2
          have HB5 : Hid (Bld w5 (w.heap.size + 1 + 1 + 1) (.slice (some ⟨gg, 0, none⟩) (cc + 1) cap3) (cc + 1) q' (putD same pos ds D)) := hq'
          have HU2 : Hid (putD same pos ds D (cc + 1) = D k ∧ cc + 1 + 1 = putC same pos (k + 1)) := by
            rw [← HSM2.out, HU.out.2, HKP.out, putD_gn (by omega), putC_gn (by omega)]; exact ⟨rfl, rfl⟩
          have S5 : Hid (SlotAt w5 (p k) (D k)) := (HB.out w5 P5.out.1.b).1.slot k hlt
          have hccb2 : cc + 1 ≤ 1048577 := by omega
          clear hq'
          obtain ⟨y0, y1, y2, y3, y4, y5, y6, y7, y8⟩ := nine_sc P5.out.2.1
          go_wp2_with fail
          refine (c61 (p k) (D k) _ S5.out (HG.out k hlt)).mono ?_
          rintro e w7 ⟨ka7, kc7, rfl, O7, hb7⟩
          have C7 : Hid (Below w5.heap.size w5 w7) := hb7
          have P7 : Hid (PB w w7 (some ⟨b, o, none⟩) n c ps ds ∧ Bld w7 (w.heap.size + 1 + 1 + 1) (.slice (some ⟨gg, 0, none⟩) (cc + 1) cap3) (cc + 1) q' (putD same pos ds D)) := ⟨P5.out.1.below hb7, HB5.out.below hb7⟩
          have HK7 : Hid (w7.ownsRow w5.heap.size 37 2 (.slice ka7 (D k).n kc7) (D k).n (kcells (D k).dk (D k).dm (D k).n)) := O7
          have hws7 : w.heap.size + 1 + 1 < w7.heap.size := P7.out.1.r.lt
          have hws5 : w.heap.size + 1 + 1 < w5.heap.size := P5.out.1.r.lt
          clear O7 hb7 y0 y1 y2 y3 y4 y5 y6 y7 y8
          unfold sdl
          go_wp2_with (first | (at_builtin; refine wpList_append_lies _ rfl _ _ 26 rfl (w.heap.size + 1 + 1 + 1) 40 i0 _ 9 104 Try.underlying26 hi0 hz0 hz1 hz2 rfl (by omega) (.slice (some ⟨gg, 0, none⟩) (cc + 1) cap3) (cc + 1) (scells q' (putD same pos ds D) (cc + 1)) rfl (P7.out.2.own.alloc _) ⟨w7.heap.size, 0, none⟩ 1 1 (slc ⟨ka7, 0, 0, kc7⟩ (D k)) rfl rfl (World.news_of_block (cs := #[.int .i64 (D k).k, .string (D k).m, .bool (D k).has, .string (D k).v, .slice ka7 (D k).n kc7, .int .i64 (D k).ver, .int .i64 (D k).chg, .int .i64 (D k).own, .int .i64 (D k).sin]) (t := 40) (fr := (0, 0)) (heap_alloc_new w7 _)) (by simp [slc, Value.oneCell']) (by omega) (by unfold maxLen; omega) (by omega) (by simp; omega) (w7.heap.size + 1) (by simp) ?_; intro g6 cap6 w6 hown6 hg6 hat6 hlt6))
          have FIN : Hid (∃ q', Bld w6 (w.heap.size + 1 + 1 + 1) (.slice (some ⟨g6, 0, none⟩) (cc + 1 + 1) cap6) (cc + 1 + 1) q' (putD same pos ds D)) := bld_step' HU2.out.1 HB5.out C7.out HK7.out (by omega) hown6 hg6 hat6
          have F2 : Hid (PB w w6 (some ⟨b, o, none⟩) n c ps ds) := P7.out.1.grown hg6 (fun x e => by have := (P7.out.2.own.lt x e).1; omega)
          clear hown6 hg6 hat6
          go_roundw
          case rel =>
            obtain ⟨q', hq'⟩ := FIN.out
            exact ⟨k + 1, q', by omega, by go_num, by rw [decide_eq_true hkp1], by rw [← HU2.out.2]; exact ⟨hq', F2.out⟩⟩
          case measure => simp [intOf]; omega
        · have HU2 : Hid (cc + 1 = putC same pos (k + 1)) := by
            show _ = _
            rw [← HSM2.out, HU.out.2, HKP.out, putC_gt (by omega)]
          go_wp2
          go_roundw
          case rel =>
            obtain ⟨q', hq'⟩ := P5.out.2.2
            exact ⟨k + 1, q', by omega, by go_num, by rw [decide_eq_true hkp1], by rw [← HU2.out]; exact ⟨hq', P5.out.1⟩⟩
          case measure => simp [intOf]; omega
      · have hd : decide (pos < k) = true := decide_eq_true hkp
        obtain ⟨u1, u2, u3⟩ := put_gt (same := same) (s := ds) (D := D) hkp
        rw [← HCC.out] at u1 u2 u3
        have HU : Hid (putD same pos ds D cc = D k ∧ cc + 1 = putC same pos (k + 1)) := ⟨u1, u2⟩
        have hsf : (same && decide (k = pos)) = false := by rw [decide_eq_false (by omega), Bool.and_false]
        have hccb : cc ≤ 1048576 := by omega
        rw [hd]
        clear u1 u2 u3 hsx
        go_wp2_with fail
        clear y2 y3 y4 y5 y6 y7 y8
        refine (c60 (D k).k (D k).m ds.k ds.m _).mono ?_
        rintro e w2 ⟨rfl, hb1⟩
        rw [HP3.out k hlt, hsf]
        have Pw2 : Hid (PB w w2 (some ⟨b, o, none⟩) n c ps ds ∧ w2.rowIs wr.heap.size 40 9 (sc (p k) (D k)) ∧ Bld w2 (w.heap.size + 1 + 1 + 1) (.slice oa cc cap2) cc q (putD same pos ds D)) := ⟨PX.out.1.below hb1, PX.out.2.1.of_block (hb1.block _ PX.out.2.1.lt), PX.out.2.2.below hb1⟩
        have Sw2 : Hid (SlotAt w2 (p k) (D k)) := (HB.out w2 Pw2.out.1.b).1.slot k hlt
        clear hb1 y0 y1 s0 s1
        obtain ⟨y0, y1, y2, y3, y4, y5, y6, y7, y8⟩ := nine_sc Pw2.out.2.1
        go_wp2_with fail
        refine (c61 (p k) (D k) _ Sw2.out (HG.out k hlt)).mono ?_
        rintro e w4 ⟨ka, kc, rfl, O2, hb2⟩
        have C2 : Hid (Below w2.heap.size w2 w4) := hb2
        have P4 : Hid (PB w w4 (some ⟨b, o, none⟩) n c ps ds ∧ w4.rowIs wr.heap.size 40 9 (sc (p k) (D k)) ∧ Bld w4 (w.heap.size + 1 + 1 + 1) (.slice oa cc cap2) cc q (putD same pos ds D)) := ⟨Pw2.out.1.below hb2, Pw2.out.2.1.of_block (hb2.block _ Pw2.out.2.1.lt), Pw2.out.2.2.below hb2⟩
        have HK2 : Hid (w4.ownsRow w2.heap.size 37 2 (.slice ka (D k).n kc) (D k).n (kcells (D k).dk (D k).dm (D k).n)) := O2
        have hws2 : w.heap.size + 1 + 1 < w4.heap.size := P4.out.1.r.lt
        have hws1 : w.heap.size + 1 + 1 < w2.heap.size := Pw2.out.1.r.lt
        clear O2 hb2 y0 y1 y2 y3 y4 y5 y6 y7 y8
        unfold sdl
        go_wp2_with (first | (at_builtin; refine wpList_append_lies _ rfl _ _ 26 rfl (w.heap.size + 1 + 1 + 1) 40 i0 _ 9 104 Try.underlying26 hi0 hz0 hz1 hz2 rfl (by omega) (.slice oa cc cap2) cc (scells q (putD same pos ds D) cc) rfl (P4.out.2.2.own.alloc _) ⟨w4.heap.size, 0, none⟩ 1 1 (slc ⟨ka, 0, 0, kc⟩ (D k)) rfl rfl (World.news_of_block (cs := #[.int .i64 (D k).k, .string (D k).m, .bool (D k).has, .string (D k).v, .slice ka (D k).n kc, .int .i64 (D k).ver, .int .i64 (D k).chg, .int .i64 (D k).own, .int .i64 (D k).sin]) (t := 40) (fr := (0, 0)) (heap_alloc_new w4 _)) (by simp [slc, Value.oneCell']) (by omega) (by unfold maxLen; omega) (by omega) (by simp; omega) (w4.heap.size + 1) (by simp) ?_; intro gg cap3 w3 hown3 hg3 hat hlt3))
        have FIN : Hid (∃ q', Bld w3 (w.heap.size + 1 + 1 + 1) (.slice (some ⟨gg, 0, none⟩) (cc + 1) cap3) (cc + 1) q' (putD same pos ds D)) := bld_step' HU.out.1 Pw2.out.2.2 C2.out HK2.out (by omega) hown3 hg3 hat
        have F2 : Hid (PB w w3 (some ⟨b, o, none⟩) n c ps ds ∧ True) := ⟨P4.out.1.grown hg3 (fun x e => by have := (P4.out.2.2.own.lt x e).1; omega), trivial⟩
        clear hown3 hg3 hat
        go_roundw
        case rel =>
          obtain ⟨q', hq'⟩ := FIN.out
          exact ⟨k + 1, q', by omega, by go_num, by rw [decide_eq_true (by omega : pos < k + 1)], by rw [← HU.out.2]; exact ⟨hq', F2.out.1⟩⟩
        case measure => simp [intOf]; omega
    · have hkn : k = n := by omega
      subst hkn
      have hws := HQ.out.2.r.lt
      by_cases hpn : pos < k
      · have hd : decide (pos < k) = true := decide_eq_true hpn
        rw [hd]
        have f0 := HQ.out.2.r.frozen 0
        have c0 := HQ.out.2.r.cell (i := 0) (by omega)
        have HCE : Hid (cc = n') := by
          show _ = _
          rw [HCC.out, HNE.out]; unfold putC; rw [if_neg (by omega)]
        go_wp2
        refine bodyPost_ret (v := .agg #[.slice oa cc cap2]) (by simp [results, Try.results56, go_sem, c0]) rfl ?_
        obtain ⟨b, hT⟩ := HQ.out.1.tab
        unfold TabPost
        rw [← HCE.out]
        exact ⟨oa, b, cap2, q, rfl, (hT.set (a := ⟨w.heap.size + 1 + 1, 0, none⟩) (by show w.heap.size + 1 + 1 < _; omega) _).wide (by omega) (by simp), HQ.out.2.b.setCell (by show w.heap.size ≤ w.heap.size + 1 + 1; omega) _⟩
      · have hd : decide (pos < k) = false := decide_eq_false hpn
        have hpk : pos = k := by omega
        have HSM2 : Hid (same = false) := by
          show same = false
          cases hh : same
          · rfl
          · have := HP4.out hh; omega
        have HU : Hid (putD same pos ds D cc = ds ∧ cc = k) := by
          have e := HCC.out
          rw [← hpk] at e
          obtain ⟨u1, u2⟩ := put_at (same := same) (s := ds) (D := D) (pos := pos)
          rw [← e] at u1 u2
          exact ⟨u1, by omega⟩
        have hccb : cc ≤ 1048576 := by have := HU.out.2; omega
        rw [hd]
        have T1 : Hid (SlotAt wr ps ds) := (HB.out wr HQ.out.2.b).2
        obtain ⟨s0, s1, s2, s3, s4, s5, s6, s7, s8⟩ := nine_sc HQ.out.2.s
        go_wp2_with fail
        refine (c61 ps ds _ T1.out hsn).mono ?_
        rintro e w4 ⟨ka, kc, rfl, O2, hb2⟩
        have C2 : Hid (Below wr.heap.size wr w4) := hb2
        have P4 : Hid (PB w w4 ao k c ps ds ∧ Bld w4 (w.heap.size + 1 + 1 + 1) (.slice oa cc cap2) cc q (putD same pos ds D)) := ⟨HQ.out.2.below hb2, HQ.out.1.below hb2⟩
        have HK2 : Hid (w4.ownsRow wr.heap.size 37 2 (.slice ka ds.n kc) ds.n (kcells ds.dk ds.dm ds.n)) := O2
        have hws2 : w.heap.size + 1 + 1 < w4.heap.size := P4.out.1.r.lt
        have XF : Hid (∀ (W : World) (ob : Obj), (w4.alloc ob).grownBy W (Value.slice oa cc cap2).ownBlock → W.frozen? ⟨w.heap.size + 1 + 1, 0, none⟩ = false ∧ W.cell? ⟨w.heap.size + 1 + 1, 0, none⟩ = some (.slice none 0 0)) := fun W ob hg => by
          have PB1 := P4.out.1.grown hg (fun x e => by have := (P4.out.2.own.lt x e).1; omega)
          exact ⟨PB1.r.frozen 0, PB1.r.cell (i := 0) (by omega)⟩
        clear O2 hb2 s0 s1 s2 s3 s4 s5 s6 s7 s8 x0
        unfold sdl
        go_wp2_with (first | (at_builtin; refine wpList_append_lies _ rfl _ _ 26 rfl (w.heap.size + 1 + 1 + 1) 40 i0 _ 9 104 Try.underlying26 hi0 hz0 hz1 hz2 rfl (by omega) (.slice oa cc cap2) cc (scells q (putD same pos ds D) cc) rfl (P4.out.2.own.alloc _) ⟨w4.heap.size, 0, none⟩ 1 1 (slc ⟨ka, 0, 0, kc⟩ ds) rfl rfl (World.news_of_block (cs := #[.int .i64 ds.k, .string ds.m, .bool ds.has, .string ds.v, .slice ka ds.n kc, .int .i64 ds.ver, .int .i64 ds.chg, .int .i64 ds.own, .int .i64 ds.sin]) (t := 40) (fr := (0, 0)) (heap_alloc_new w4 _)) (by simp [slc, Value.oneCell']) (by omega) (by unfold maxLen; omega) (by omega) (by simp; omega) (w4.heap.size + 1) (by simp) ?_; intro gg cap3 w3 hown3 hg3 hat hlt3; obtain ⟨f0, c0⟩ := XF.out _ _ hg3))
        have FIN : Hid (∃ q', Bld w3 (w.heap.size + 1 + 1 + 1) (.slice (some ⟨gg, 0, none⟩) (cc + 1) cap3) (cc + 1) q' (putD same pos ds D)) := bld_step' HU.out.1 HQ.out.1 C2.out HK2.out (by omega) hown3 hg3 hat
        have F2 : Hid (PB w w3 ao k c ps ds) := P4.out.1.grown hg3 (fun x e => by have := (P4.out.2.own.lt x e).1; omega)
        clear hown3 hg3 hat XF
        have HCE : Hid (cc + 1 = n') := by
          show _ = _
          rw [HNE.out, HSM2.out, HU.out.2]; rfl
        refine bodyPost_ret (v := .agg #[.slice (some ⟨gg, 0, none⟩) (cc + 1) cap3]) (by simp [results, Try.results56, go_sem, c0]) rfl ?_
        obtain ⟨q', hq'⟩ := FIN.out
        obtain ⟨b, hT⟩ := hq'.tab
        unfold TabPost
        rw [← HCE.out]
        exact ⟨_, b, cap3, q', rfl, (hT.set (a := ⟨w.heap.size + 1 + 1, 0, none⟩) (by show w.heap.size + 1 + 1 < _; omega) _).wide (by omega) (by simp), F2.out.b.setCell (by show w.heap.size ≤ w.heap.size + 1 + 1; omega) _⟩

end Go.Proofs.Ytijgiingfgaakaa
