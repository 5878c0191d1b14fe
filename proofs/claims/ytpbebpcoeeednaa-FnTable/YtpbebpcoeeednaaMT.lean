/-
  Tables: a run of the operations: what the law draws from.
-/
import Derived.Test.YtpbebpcoeeednaaTabI
import Derived.WalkKit
import Derived.BigQuiet
import Derived.Test.YtpbebpcoeeednaaTabU
import Derived.Test.YtpbebpcoeeednaaTabK1
import Derived.Test.YtpbebpcoeeednaaTabZ
import Derived.Test.YtpbebpcoeeednaaTabR4
import Derived.Test.YtpbebpcoeeednaaTabY
namespace Go.Proofs.Ytpbebpcoeeednaa
open Go.RowKit

/-- Bytes in memory. -/
structure BytesAt (w : World) (ao : Option Addr) (b o n : Nat) (C : Nat → Int) : Prop where
  at_ : 0 < n → ao = some ⟨b, o, none⟩
  cell : ∀ i, i < n → w.cell? ⟨b, o + i, none⟩ = some (.int .u8 (C i))
  rng : ∀ i, i < n → 0 ≤ C i ∧ C i ≤ 255
  len : n ≤ 9223372036854775807

theorem BytesAt.below {w w' : World} {ao : Option Addr} {b o n : Nat} {C : Nat → Int} (h : BytesAt w ao b o n C) (hb : Below w.heap.size w w') : BytesAt w' ao b o n C :=
  ⟨h.at_, fun i hi => by rw [hb.cell (p := ⟨b, o + i, none⟩) (World.block_lt_of_cell? _ _ (h.cell i hi))]; exact h.cell i hi, h.rng, h.len⟩

/-- What is picked. -/
def PickPost (w : World) (n i : Nat) (e : Ending) (w' : World) : Prop :=
  ∃ x : Int, e = .returned (.int .i64 x) ∧ w' = w ∧ 0 ≤ x ∧ (x ≤ 255 ∨ (n = 0 ∧ x = i))

set_option maxRecDepth 100000 in
set_option maxHeartbeats 1000000 in
theorem t_pick (ao : Option Addr) (b o n c i : Nat) (C : Nat → Int) (w : World) (h : BytesAt w ao b o n C) (hi : i ≤ 1048576) :
    Calls Try.prog 33 #[.slice ao n c, .int .i64 (i : Int)] w fun e w' => PickPost w n i e w' := by
  by_cases h0 : n = 0
  · subst h0
    clear h
    go_enter Try.func33, Try.ntmps33
    go_wp2
    go_ret
    exact ⟨(i : Int), rfl, rfl, by omega, Or.inr ⟨rfl, rfl⟩⟩
  · have e1 := h.at_ (by omega)
    have hl := h.len
    subst e1
    obtain ⟨q, hq⟩ : ∃ q, q = i % n := ⟨_, rfl⟩
    have hqn : q < n := by rw [hq]; exact Nat.mod_lt _ (by omega)
    have c0 := h.cell q hqn
    have hr := h.rng q hqn
    obtain ⟨x, hx⟩ : ∃ x, x = C q := ⟨_, rfl⟩
    rw [← hx] at c0 hr
    clear h hx
    have hm1 : Int.tmod (i : Int) (n : Int) = (q : Int) := by rw [hq]; rfl
    have hq1 : (q : Int) < (n : Int) := by omega
    have hq2 : (0 : Int) ≤ (q : Int) := by omega
    have hne : ¬ (n : Int) = 0 := by omega
    clear hq
    go_enter Try.func33, Try.ntmps33
    go_wp2
    go_ret
    exact ⟨x, rfl, rfl, by omega, Or.inl (by omega)⟩

set_option maxRecDepth 100000 in
set_option maxHeartbeats 1000000 in
theorem t_pk (ao : Option Addr) (b o n c i : Nat) (C : Nat → Int) (w : World) (h : BytesAt w ao b o n C) (h0 : 0 < n) (x : Int) (hx : C (i % n) = x) :
    Calls Try.prog 33 #[.slice ao n c, .int .i64 (i : Int)] w fun e w' => e = .returned (.int .i64 x) ∧ w' = w := by
  have e1 := h.at_ h0
  have hl := h.len
  subst e1
  obtain ⟨q, hq⟩ : ∃ q, q = i % n := ⟨_, rfl⟩
  have hqn : q < n := by rw [hq]; exact Nat.mod_lt _ (by omega)
  have c0 := h.cell q hqn
  have hr := h.rng q hqn
  rw [← hq] at hx
  rw [hx] at c0 hr
  clear h hx
  have hm1 : Int.tmod (i : Int) (n : Int) = (q : Int) := by rw [hq]; rfl
  have hq1 : (q : Int) < (n : Int) := by omega
  have hq2 : (0 : Int) ≤ (q : Int) := by omega
  have hne : ¬ (n : Int) = 0 := by omega
  clear hq
  go_enter Try.func33, Try.ntmps33
  go_wp2
  go_ret
  exact ⟨rfl, rfl⟩

end Go.Proofs.Ytpbebpcoeeednaa

/-
  Tables: the two tables of the law's run.
-/
namespace Go.Proofs.Ytpbebpcoeeednaa
open Go.RowKit

/-- A variable of the law's run, with its table. -/
structure V1 (wr : World) (x x1 x2 m : Nat) (D : Nat → SD) (ta : Option Addr) (tb tc lo hi : Nat) (tq : Nat → SP) : Prop where
  row : wr.rowIs x 28 1 (fun _ => .slice ta m tc)
  tab : TabNew wr lo hi ta tb m tq D
  l1 : x1 < lo
  l2 : x2 < lo

/-- The two variables of the law's run. -/
structure FT (w wr : World) (x1 x2 m : Nat) (D : Nat → SD) : Prop where
  b : Below w.heap.size w wr
  v1 : ∃ ta tb tc lo hi tq, V1 wr x1 x1 x2 m D ta tb tc lo hi tq
  v2 : ∃ ta tb tc lo hi tq, V1 wr x2 x1 x2 m D ta tb tc lo hi tq
  a1 : w.heap.size ≤ x1
  a2 : w.heap.size ≤ x2
  ne : x1 ≠ x2

theorem V1.below {wr w' : World} {x x1 x2 m : Nat} {D : Nat → SD} {ta : Option Addr} {tb tc lo hi : Nat} {tq : Nat → SP} (h : V1 wr x x1 x2 m D ta tb tc lo hi tq) (hb : Below wr.heap.size wr w') : V1 w' x x1 x2 m D ta tb tc lo hi tq :=
  ⟨h.row.of_block (hb.block _ h.row.lt), h.tab.below hb, h.l1, h.l2⟩
theorem FT.below {w wr w' : World} {x1 x2 m : Nat} {D : Nat → SD} (h : FT w wr x1 x2 m D) (hb : Below wr.heap.size wr w') : FT w w' x1 x2 m D := by
  obtain ⟨ta, tb, tc, lo, hi, tq, h1⟩ := h.v1
  obtain ⟨ta', tb', tc', lo', hi', tq', h2⟩ := h.v2
  exact ⟨h.b.trans (hb.mono h.b.size), ⟨ta, tb, tc, lo, hi, tq, h1.below hb⟩, ⟨ta', tb', tc', lo', hi', tq', h2.below hb⟩, h.a1, h.a2, h.ne⟩

theorem row_store {W : World} {x : Nat} {t : TypeId} {u : Value} (h : W.rowIs x t 1 (fun _ => u)) (v : Value) : (W.setCell ⟨x, 0, none⟩ v).rowIs x t 1 (fun _ => v) :=
  (h.set 0 v).congr (fun i hi => by
    have e : i = 0 := by omega
    subst e
    rfl)

/-- Both variables get new tables. -/
theorem FT.put {w wr W : World} {x1 x2 m n' : Nat} {D E : Nat → SD} (h : FT w wr x1 x2 m D) (hb : Below wr.heap.size wr W) {ta ta' : Option Addr} {tb tb' tc tc' lo hi lo' hi' : Nat} {tq tq' : Nat → SP}
    (h1 : TabNew W lo hi ta tb n' tq E) (h2 : TabNew W lo' hi' ta' tb' n' tq' E) (hl : wr.heap.size ≤ lo) (hl' : wr.heap.size ≤ lo') :
    FT w ((W.setCell ⟨x1, 0, none⟩ (.slice ta n' tc)).setCell ⟨x2, 0, none⟩ (.slice ta' n' tc')) x1 x2 n' E := by
  obtain ⟨_, _, _, _, _, _, g1⟩ := h.v1
  obtain ⟨_, _, _, _, _, _, g2⟩ := h.v2
  have e1 := g1.row.lt
  have e2 := g2.row.lt
  have a1 := h.a1
  have a2 := h.a2
  have r1 := g1.row.of_block (hb.block _ e1)
  have r2 := g2.row.of_block (hb.block _ e2)
  have q1 := (row_store r1 (.slice ta n' tc)).setOther (a := ⟨x2, 0, none⟩) (by show x1 ≠ x2; exact h.ne) (.slice ta' n' tc')
  have q2 := row_store (r2.setOther (a := ⟨x1, 0, none⟩) (by show x2 ≠ x1; exact fun e => h.ne e.symm) (.slice ta n' tc)) (.slice ta' n' tc')
  refine ⟨((h.b.trans (hb.mono h.b.size)).setCell (by show w.heap.size ≤ x1; omega) _).setCell (by show w.heap.size ≤ x2; omega) _, ⟨ta, tb, tc, lo, hi, tq, q1, (h1.set (a := ⟨x1, 0, none⟩) (by show x1 < lo; omega) _).set (a := ⟨x2, 0, none⟩) (by show x2 < lo; omega) _, by omega, by omega⟩, ⟨ta', tb', tc', lo', hi', tq', q2, (h2.set (a := ⟨x1, 0, none⟩) (by show x1 < lo'; omega) _).set (a := ⟨x2, 0, none⟩) (by show x2 < lo'; omega) _, by omega, by omega⟩, h.a1, h.a2, h.ne⟩

/-- The one and then the other. -/
theorem FT.put2 {w wr W V : World} {x1 x2 m n' : Nat} {D E : Nat → SD} (h : FT w wr x1 x2 m D) (hb : Below wr.heap.size wr W) {ta ta' : Option Addr} {tb tb' tc tc' lo hi' : Nat} {tq tq' : Nat → SP}
    (h1 : TabNew W wr.heap.size lo ta tb n' tq E) (hb2 : Below (W.setCell ⟨x1, 0, none⟩ (.slice ta n' tc)).heap.size (W.setCell ⟨x1, 0, none⟩ (.slice ta n' tc)) V) (h2 : TabNew V (W.setCell ⟨x1, 0, none⟩ (.slice ta n' tc)).heap.size hi' ta' tb' n' tq' E) :
    FT w (V.setCell ⟨x2, 0, none⟩ (.slice ta' n' tc')) x1 x2 n' E := by
  obtain ⟨_, _, _, _, _, _, g1⟩ := h.v1
  obtain ⟨_, _, _, _, _, _, g2⟩ := h.v2
  have e1 := g1.row.lt
  have e2 := g2.row.lt
  have a1 := h.a1
  have a2 := h.a2
  have hs := hb.size
  have r1 := row_store (g1.row.of_block (hb.block _ e1)) (.slice ta n' tc)
  have r2 := (g2.row.of_block (hb.block _ e2)).setOther (a := ⟨x1, 0, none⟩) (by show x2 ≠ x1; exact fun e => h.ne e.symm) (.slice ta n' tc)
  have t1 := (h1.set (a := ⟨x1, 0, none⟩) (by show x1 < _; omega) (.slice ta n' tc)).below hb2
  have q1 := (r1.of_block (hb2.block _ r1.lt)).setOther (a := ⟨x2, 0, none⟩) (by show x1 ≠ x2; exact h.ne) (.slice ta' n' tc')
  have q2 := row_store (r2.of_block (hb2.block _ r2.lt)) (.slice ta' n' tc')
  have hz : (W.setCell ⟨x1, 0, none⟩ (.slice ta n' tc)).heap.size = W.heap.size := by simp
  have bW : Below w.heap.size w (W.setCell ⟨x1, 0, none⟩ (.slice ta n' tc)) := (h.b.trans (hb.mono h.b.size)).setCell (by show w.heap.size ≤ x1; omega) _
  refine ⟨(bW.trans (hb2.mono (by have := h.b.size; rw [hz]; omega))).setCell (by show w.heap.size ≤ x2; omega) _, ⟨ta, tb, tc, _, _, tq, q1, t1.set (a := ⟨x2, 0, none⟩) (by show x2 < _; omega) _, by omega, by omega⟩, ⟨ta', tb', tc', _, _, tq', q2, h2.set (a := ⟨x2, 0, none⟩) (by show x2 < _; rw [hz]; omega) _, by rw [hz]; omega, by rw [hz]; omega⟩, h.a1, h.a2, h.ne⟩

end Go.Proofs.Ytpbebpcoeeednaa

/-
  Tables: what stays valid, without a program.
-/
namespace Go.Proofs.Ytpbebpcoeeednaa
open Go.RowKit

theorem bl_total : ∀ a b : List UInt8, Op.bytesLess a b = false → a ≠ b → Op.bytesLess b a = true
  | [], [], _, h => absurd rfl h
  | [], _ :: _, h, _ => by cases h
  | _ :: _, [], _, _ => rfl
  | x :: a, y :: b, h, hne => by
    unfold Op.bytesLess at h ⊢
    simp only [Bool.or_eq_false_iff, Bool.and_eq_false_iff, decide_eq_false_iff_not, beq_eq_false_iff_ne] at h
    simp only [Bool.or_eq_true, Bool.and_eq_true, decide_eq_true_eq, beq_iff_eq]
    by_cases e : x = y
    · subst e
      right
      refine ⟨rfl, bl_total a b ?_ (fun h2 => hne (by rw [h2]))⟩
      rcases h.2 with h2 | h2
      · exact absurd rfl h2
      · exact h2
    · left
      have h1 := h.1
      rw [UInt8.lt_iff_toNat_lt] at *
      have : x.toNat ≠ y.toNat := fun h2 => e (UInt8.toNat_inj.1 h2)
      omega

theorem kl_total {k1 : Int} {m1 : ByteArray} {k2 : Int} {m2 : ByteArray} (h : kl k1 m1 k2 m2 = false) (hs : ¬ sk k1 m1 k2 m2) : kl k2 m2 k1 m1 = true := by
  unfold kl lt at *
  simp only [Bool.or_eq_false_iff, Bool.and_eq_false_iff, decide_eq_false_iff_not] at h
  simp only [Bool.or_eq_true, Bool.and_eq_true, decide_eq_true_eq]
  by_cases e : k1 = k2
  · right
    refine ⟨e.symm, bl_total _ _ ?_ (fun h2 => hs ⟨e, h2⟩)⟩
    rcases h.2 with h2 | h2
    · exact absurd e h2
    · exact h2
  · left
    have := h.1
    omega

theorem vt_mk {n : Nat} {D : Nat → SD} (hn : n ≤ 4096) (h1 : ∀ i, i < n → sv (D i) = true) (hU : Up n D) : vt n D = true := by
  refine vt_yes (by omega) (fun i hi => ?_)
  unfold so
  rw [h1 i hi, Bool.true_and]
  by_cases e : i = 0
  · subst e; rfl
  · rw [hU (i - 1) i (by omega) hi, Bool.or_true]

theorem up_upd {n i : Nat} {D : Nat → SD} {d : SD} (hU : Up n D) (hk : d.k = (D i).k) (hm : d.m = (D i).m) : Up n (updF D i d) := by
  have e : ∀ j, (updF D i d j).k = (D j).k ∧ (updF D i d j).m = (D j).m := fun j => by
    by_cases e : j = i
    · subst e; rw [updF_at]; exact ⟨hk, hm⟩
    · rw [updF_ne e]; exact ⟨rfl, rfl⟩
  intro a b hab hb
  rw [(e a).1, (e a).2, (e b).1, (e b).2]
  exact hU a b hab hb

theorem vt_upd {n i : Nat} {D : Nat → SD} {d : SD} (hv : vt n D = true) (hk : d.k = (D i).k) (hm : d.m = (D i).m) (hs : sv d = true) : vt n (updF D i d) = true := by
  refine vt_mk (by by_cases h : 4096 < n
                   · rw [vt_big h] at hv; cases hv
                   · omega) (fun j hj => ?_) (up_upd (up_of hv) hk hm)
  by_cases e : j = i
  · subst e; rw [updF_at]; exact hs
  · rw [updF_ne e]; exact vt_sv' hv hj

theorem sv_parts {d : SD} (h : sv d = true) : kv d.k d.m = true ∧ (d.has = true → (free d ∨ held d) ∧ 1 ≤ d.chg ∧ d.chg ≤ d.ver ∧ dv d.n d.dk d.dm = true) ∧ (d.has = false → held d ∧ d.v.size = 0 ∧ d.n = 0 ∧ d.ver = 0 ∧ d.chg = 0) := by
  unfold sv at h
  rw [Bool.and_eq_true] at h
  refine ⟨h.1, fun hh => ?_, fun hh => ?_⟩
  · have h2 := h.2
    rw [hh] at h2
    simp only [if_true, Bool.and_eq_true, decide_eq_true_eq] at h2
    exact ⟨h2.1.1, h2.1.2.1, h2.1.2.2, h2.2⟩
  · have h2 := h.2
    rw [hh] at h2
    simpa using h2
theorem svh_mk {d : SD} (hk : kv d.k d.m = true) (hh : d.has = true) (h1 : free d ∨ held d) (h2 : 1 ≤ d.chg) (h3 : d.chg ≤ d.ver) (h4 : dv d.n d.dk d.dm = true) : sv d = true := by
  unfold sv
  rw [hk, hh, if_pos rfl, h4, decide_eq_true ⟨h1, h2, h3⟩]; rfl
theorem svn_mk {d : SD} (hk : kv d.k d.m = true) (hh : d.has = false) (h1 : held d ∧ d.v.size = 0 ∧ d.n = 0 ∧ d.ver = 0 ∧ d.chg = 0) : sv d = true := by
  unfold sv
  rw [hk, hh, if_neg (by simp), decide_eq_true h1]; rfl

theorem vt_len' {n : Nat} {D : Nat → SD} (hv : vt n D = true) : n ≤ 4096 := by
  by_cases h : 4096 < n
  · rw [vt_big h] at hv; cases hv
  · omega

theorem mine_parts {n i : Nat} {D : Nat → SD} {k : Int} {m : ByteArray} {wk rev : Int} (h : mine n D k m wk rev = some i) : slotOf n D k m = some i ∧ (D i).sin = rev ∧ (D i).own = wk + 1 ∧ (D i).ver ≤ rev := by
  unfold mine at h
  cases hs : slotOf n D k m with
  | none => rw [hs] at h; cases h
  | some j =>
    rw [hs] at h
    simp only at h
    split at h
    · next hc => cases h; exact ⟨rfl, hc⟩
    · cases h
theorem slot_lt {n i : Nat} {D : Nat → SD} {k : Int} {m : ByteArray} (h : slotOf n D k m = some i) : i < n := by
  unfold slotOf at h
  exact List.mem_range.1 (List.mem_of_find?_eq_some h)

theorem vt_clm {n : Nat} {D : Nat → SD} {k : Int} {m : ByteArray} {wk rev cpy : Int} (hv : vt n D = true) (hk : kv k m = true) (hwk : 0 ≤ wk ∧ wk < 16) (hr : 1 ≤ rev) (hc : cpy ≤ 4096) (hnc : (n : Int) ≤ cpy) :
    vt (clmN n D k m cpy) (clmD n D k m wk rev cpy) = true ∧ (clmN n D k m cpy : Int) ≤ cpy := by
  have hU := up_of hv
  cases hs : slotOf n D k m with
  | none =>
    by_cases hf : cpy ≤ (n : Int)
    · rw [(clm_full (wk := wk) (rev := rev) hs hf).2.1, (clm_full hs hf).2.2]
      exact ⟨hv, hnc⟩
    · rw [(clm_new (wk := wk) (rev := rev) hs hf).2.1, (clm_new hs hf).2.2]
      have hno : ∀ j, j < n → ¬ sk (D j).k (D j).m k m := fun j hj h => by
        rw [slot_some hU hj h] at hs; cases hs
      refine ⟨vt_mk (by omega) (fun j hj => ?_) (fun a b hab hb => ?_), by omega⟩
      · rcases Nat.lt_trichotomy j (posK n D k m) with c | c | c
        · rw [putD_lt c]; exact vt_sv' hv (by have := pos_le n D k m; omega)
        · rw [c, putD_at]
          exact svn_mk (d := nw k m wk rev) hk rfl ⟨⟨by show 1 ≤ wk + 1; omega, by show wk + 1 ≤ 16; omega, hr⟩, rfl, rfl, rfl, rfl⟩
        · rw [putD_gn c]; exact vt_sv' hv (by omega)
      · have hp := pos_le n D k m
        rcases Nat.lt_trichotomy a (posK n D k m) with c | c | c
        · rw [putD_lt c]
          rcases Nat.lt_trichotomy b (posK n D k m) with e | e | e
          · rw [putD_lt e]; exact hU a b hab (by omega)
          · rw [e, putD_at]; exact pos_lt c
          · rw [putD_gn e]; exact hU a (b - 1) (by omega) (by omega)
        · rw [c, putD_at, putD_gn (by omega)]
          exact kl_total (show kl (D (b - 1)).k (D (b - 1)).m k m = false from pos_ge hU (by omega) (by omega)) (hno (b - 1) (by omega))
        · rw [putD_gn c, putD_gn (by omega)]; exact hU (a - 1) (b - 1) (by omega) (by omega)
  | some i =>
    have hi := slot_lt hs
    by_cases he : (D i).sin = rev
    · rw [(clm_no (wk := wk) (rev := rev) hs he).2.1, (clm_no hs he).2.2]
      exact ⟨hv, hnc⟩
    · rw [(clm_take (wk := wk) (rev := rev) hs he).2.1, (clm_take hs he).2.2]
      refine ⟨vt_upd hv rfl rfl ?_, hnc⟩
      obtain ⟨s1, s2, s3⟩ := sv_parts (vt_sv' hv hi)
      have hh : held (tk (D i) wk rev) := ⟨by show 1 ≤ wk + 1; omega, by show wk + 1 ≤ 16; omega, hr⟩
      cases hb : (D i).has
      · obtain ⟨_, q2, q3, q4, q5⟩ := s3 hb
        exact svn_mk (d := tk (D i) wk rev) s1 hb ⟨hh, q2, q3, q4, q5⟩
      · obtain ⟨_, q2, q3, q4⟩ := s2 hb
        exact svh_mk (d := tk (D i) wk rev) s1 hb (Or.inr hh) q2 q3 q4

theorem vt_fin {n : Nat} {D : Nat → SD} {k : Int} {m : ByteArray} {wk rev : Int} {v : ByteArray} {dn : Nat} {dK : Nat → Int} {dM : Nat → ByteArray} (hv : vt n D = true) (hr : 1 ≤ rev) (hd : dv dn dK dM = true) : vt n (finD n D k m wk rev v dn dK dM) = true := by
  cases hm : mine n D k m wk rev with
  | none => rw [(fin_none (p := fun _ => (⟨none, 0, 0, 0⟩ : SP)) (q := ⟨none, 0, 0, 0⟩) hm).2.1]; exact hv
  | some i =>
    rw [(fin_yes (p := fun _ => (⟨none, 0, 0, 0⟩ : SP)) (q := ⟨none, 0, 0, 0⟩) hm).2.1]
    obtain ⟨h1, h2, h3, h4⟩ := mine_parts hm
    obtain ⟨s1, s2, s3⟩ := sv_parts (vt_sv' hv (slot_lt h1))
    refine vt_upd hv rfl rfl (svh_mk (d := fin (D i) rev v dn dK dM) s1 rfl (Or.inl ⟨rfl, rfl⟩) ?_ ?_ hd)
    · show 1 ≤ (if (D i).has && ((D i).v.toList == v.toList) then (D i).chg else rev)
      split
      · next hc =>
        rw [Bool.and_eq_true] at hc
        exact (s2 hc.1).2.1
      · exact hr
    · show (if (D i).has && ((D i).v.toList == v.toList) then (D i).chg else rev) ≤ rev
      split
      · next hc =>
        rw [Bool.and_eq_true] at hc
        have := (s2 hc.1).2.2.1
        omega
      · exact Int.le_refl _

theorem vt_conf {n : Nat} {D : Nat → SD} {k : Int} {m : ByteArray} {wk rev : Int} (hv : vt n D = true) : vt n (confD n D k m wk rev) = true := by
  cases hm : mine n D k m wk rev with
  | none => rw [(conf_none hm).2]; exact hv
  | some i =>
    cases hb : (D i).has
    · rw [(conf_no hm hb).2]; exact hv
    · rw [(conf_yes hm hb).2]
      obtain ⟨h1, h2, h3, h4⟩ := mine_parts hm
      obtain ⟨s1, s2, s3⟩ := sv_parts (vt_sv' hv (slot_lt h1))
      obtain ⟨_, q2, q3, q4⟩ := s2 hb
      exact vt_upd hv rfl rfl (svh_mk (d := cfm (D i) rev) s1 hb (Or.inl ⟨rfl, rfl⟩) q2 (by show (D i).chg ≤ rev; omega) q4)

theorem kt_parts {n : Nat} {D : Nat → SD} {wk : Int} {j : Nat} (h : j < kc D wk n) : kt n D wk j < n ∧ del wk (D (kt n D wk j)) = false := by
  have e : kt n D wk j = (ks n D wk)[j]'h := by
    unfold kt
    rw [List.getD_eq_getElem?_getD, List.getElem?_eq_getElem h]; rfl
  have hm : kt n D wk j ∈ ks n D wk := by rw [e]; exact List.getElem_mem h
  unfold ks at hm
  rw [List.mem_filter] at hm
  exact ⟨List.mem_range.1 hm.1, by simpa using hm.2⟩
theorem kt_up {n : Nat} {D : Nat → SD} {wk : Int} {a b : Nat} (hab : a < b) (hb : b < kc D wk n) : kt n D wk a < kt n D wk b := by
  have hs : (ks n D wk).Pairwise (· < ·) := by
    unfold ks
    exact (List.pairwise_lt_range).filter _
  have ha : a < (ks n D wk).length := Nat.lt_trans hab hb
  have e : ∀ j (h : j < (ks n D wk).length), kt n D wk j = (ks n D wk)[j] := fun j h => by
    unfold kt
    rw [List.getD_eq_getElem?_getD, List.getElem?_eq_getElem h]; rfl
  rw [e a ha, e b hb]
  exact List.pairwise_iff_getElem.1 hs a b ha hb hab

theorem vt_rel {n : Nat} {D : Nat → SD} {wk : Int} (hv : vt n D = true) : vt (kc D wk n) (relD n D wk) = true := by
  have hU := up_of hv
  have hle := kc_le D wk n
  have hn := vt_len' hv
  have ek : ∀ d : SD, (rel wk d).k = d.k ∧ (rel wk d).m = d.m := fun d => by unfold rel; split <;> exact ⟨rfl, rfl⟩
  refine vt_mk (by omega) (fun j hj => ?_) (fun a b hab hb => ?_)
  · obtain ⟨h1, h2⟩ := kt_parts hj
    have h3 := vt_sv' hv h1
    show sv (rel wk (D (kt n D wk j))) = true
    unfold rel
    split
    · next ho =>
      unfold del at h2
      rw [decide_eq_true ho, Bool.true_and] at h2
      have hb : (D (kt n D wk j)).has = true := by simpa using h2
      obtain ⟨s1, s2, _⟩ := sv_parts h3
      obtain ⟨_, q2, q3, q4⟩ := s2 hb
      exact svh_mk (d := { D (kt n D wk j) with own := 0, sin := 0 }) s1 hb (Or.inl ⟨rfl, rfl⟩) q2 q3 q4
    · exact h3
  · show kl (rel wk (D (kt n D wk a))).k (rel wk (D (kt n D wk a))).m (rel wk (D (kt n D wk b))).k (rel wk (D (kt n D wk b))).m = true
    rw [(ek _).1, (ek _).2, (ek _).1, (ek _).2]
    exact hU _ _ (kt_up hab hb) (kt_parts hb).1

end Go.Proofs.Ytpbebpcoeeednaa

/-
  Tables: what a run of the operations keeps, without a program.
-/
namespace Go.Proofs.Ytpbebpcoeeednaa
open Go.RowKit

/-- The table is valid, its answers are short, and it is within the capacity. -/
structure DI (n : Nat) (D : Nat → SD) (cap : Int) : Prop where
  vt : vt n D = true
  vs : ∀ i, i < n → (D i).v.size ≤ 1
  cap : (n : Int) ≤ cap

/-- Fit slots, of what is small. -/
theorem fit_of {d : SD} (h : small d) (hlo : -9223372036854775808 ≤ d.own) (hhi : d.own ≤ 9223372036854775807) : Fit d :=
  ⟨by have := h.1; omega, by have := h.2.1; omega, hlo, hhi, fun i hi => by have := h.2.2.2 i hi; omega, by have := h.2.2.1; omega⟩

theorem kv_size {k : Int} {m : ByteArray} (h : kv k m = true) : m.size ≤ 12 := by
  unfold kv at h
  rw [Bool.and_eq_true] at h
  by_cases hc : 12 < m.size
  · rw [gn_short (Or.inr hc)] at h; cases h.2
  · omega
theorem dv_parts {n : Nat} {K : Nat → Int} {M : Nat → ByteArray} (h : dv n K M = true) : n ≤ 1000 ∧ ∀ i, i < n → (M i).size ≤ 12 := by
  unfold dv allTo at h
  rw [Bool.and_eq_true, decide_eq_true_eq, List.all_eq_true] at h
  exact ⟨h.1, fun i hi => kv_size (h.2 i (List.mem_range.2 hi))⟩

theorem sv_small {d : SD} (h : sv d = true) (hv : d.v.size ≤ 1) : small d ∧ 0 ≤ d.own ∧ d.own ≤ 16 := by
  obtain ⟨s1, s2, s3⟩ := sv_parts h
  have hm := kv_size s1
  cases hb : d.has
  · obtain ⟨q1, q2, q3, q4, q5⟩ := s3 hb
    unfold held at q1
    exact ⟨⟨by omega, by omega, by omega, fun j hj => by omega⟩, by omega, by omega⟩
  · obtain ⟨q1, q2, q3, q4⟩ := s2 hb
    obtain ⟨d1, d2⟩ := dv_parts q4
    unfold held free at q1
    exact ⟨⟨by omega, by omega, by omega, fun j hj => by have := d2 j hj; omega⟩, by omega, by omega⟩

theorem DI.small {n : Nat} {D : Nat → SD} {cap : Int} (h : DI n D cap) : ∀ i, i < n → Go.Proofs.Ytpbebpcoeeednaa.small (D i) := fun i hi => (sv_small (vt_sv' h.vt hi) (h.vs i hi)).1
theorem DI.fit {n : Nat} {D : Nat → SD} {cap : Int} (h : DI n D cap) : ∀ i, i < n → Fit (D i) := fun i hi => by
  obtain ⟨h1, h2, h3⟩ := sv_small (vt_sv' h.vt hi) (h.vs i hi)
  exact fit_of h1 (by omega) (by omega)
theorem DI.len {n : Nat} {D : Nat → SD} {cap : Int} (h : DI n D cap) : n ≤ 4096 := vt_len' h.vt

theorem di_clm {n : Nat} {D : Nat → SD} {k : Int} {m : ByteArray} {wk rev cpy : Int} (h : DI n D cpy) (hk : kv k m = true) (hwk : 0 ≤ wk ∧ wk < 16) (hr : 1 ≤ rev) (hc : cpy ≤ 4096) : DI (clmN n D k m cpy) (clmD n D k m wk rev cpy) cpy := by
  obtain ⟨h1, h2⟩ := vt_clm h.vt hk hwk hr hc h.cap
  refine ⟨h1, fun i hi => ?_, h2⟩
  cases hs : slotOf n D k m with
  | none =>
    by_cases hf : cpy ≤ (n : Int)
    · rw [(clm_full (wk := wk) (rev := rev) hs hf).2.1] at hi
      rw [(clm_full hs hf).2.2]; exact h.vs i hi
    · rw [(clm_new (wk := wk) (rev := rev) hs hf).2.1] at hi
      rw [(clm_new hs hf).2.2]
      have hp := pos_le n D k m
      rcases Nat.lt_trichotomy i (posK n D k m) with c | c | c
      · rw [putD_lt c]; exact h.vs i (by omega)
      · rw [c, putD_at]; exact Nat.zero_le _
      · rw [putD_gn c]; exact h.vs (i - 1) (by omega)
  | some j =>
    by_cases he : (D j).sin = rev
    · rw [(clm_no (wk := wk) (rev := rev) hs he).2.1] at hi
      rw [(clm_no hs he).2.2]; exact h.vs i hi
    · rw [(clm_take (wk := wk) (rev := rev) hs he).2.1] at hi
      rw [(clm_take hs he).2.2]
      by_cases e : i = j
      · subst e; rw [updF_at]; exact h.vs i hi
      · rw [updF_ne e]; exact h.vs i hi

theorem di_fin {n : Nat} {D : Nat → SD} {k : Int} {m : ByteArray} {wk rev cpy : Int} {v : ByteArray} {dn : Nat} {dK : Nat → Int} {dM : Nat → ByteArray} (h : DI n D cpy) (hr : 1 ≤ rev) (hd : dv dn dK dM = true) (hv : v.size ≤ 1) : DI n (finD n D k m wk rev v dn dK dM) cpy := by
  refine ⟨vt_fin h.vt hr hd, fun i hi => ?_, h.cap⟩
  cases hm : mine n D k m wk rev with
  | none => rw [(fin_none (p := fun _ => (⟨none, 0, 0, 0⟩ : SP)) (q := ⟨none, 0, 0, 0⟩) hm).2.1]; exact h.vs i hi
  | some j =>
    rw [(fin_yes (p := fun _ => (⟨none, 0, 0, 0⟩ : SP)) (q := ⟨none, 0, 0, 0⟩) hm).2.1]
    by_cases e : i = j
    · subst e; rw [updF_at]; exact hv
    · rw [updF_ne e]; exact h.vs i hi

theorem di_conf {n : Nat} {D : Nat → SD} {k : Int} {m : ByteArray} {wk rev cpy : Int} (h : DI n D cpy) : DI n (confD n D k m wk rev) cpy := by
  refine ⟨vt_conf h.vt, fun i hi => ?_, h.cap⟩
  cases hm : mine n D k m wk rev with
  | none => rw [(conf_none hm).2]; exact h.vs i hi
  | some j =>
    cases hb : (D j).has
    · rw [(conf_no hm hb).2]; exact h.vs i hi
    · rw [(conf_yes hm hb).2]
      by_cases e : i = j
      · subst e; rw [updF_at]; exact h.vs i hi
      · rw [updF_ne e]; exact h.vs i hi

theorem di_rel {n : Nat} {D : Nat → SD} {wk cpy : Int} (h : DI n D cpy) : DI (kc D wk n) (relD n D wk) cpy := by
  have hle := kc_le D wk n
  have hc := h.cap
  refine ⟨vt_rel h.vt, fun i hi => ?_, by omega⟩
  have := h.vs _ (kt_parts hi).1
  show (rel wk (D (kt n D wk i))).v.size ≤ 1
  unfold rel
  split <;> exact this

/-- What is found ahead of an operation. -/
theorem fnd_cases {n : Nat} {D : Nat → SD} {k : Int} {m : ByteArray} {cpy : Int} (h : DI n D cpy) : (slotOf n D k m = none ∧ fnd n D k m = zd) ∨ ∃ i, i < n ∧ slotOf n D k m = some i ∧ fnd n D k m = D i := by
  unfold fnd
  rw [h.vt, if_pos rfl]
  cases hs : slotOf n D k m with
  | none => exact Or.inl ⟨rfl, rfl⟩
  | some i => exact Or.inr ⟨i, slot_lt hs, rfl, rfl⟩

theorem fnd_own {n : Nat} {D : Nat → SD} {k : Int} {m : ByteArray} {cpy : Int} (h : DI n D cpy) : 0 ≤ (fnd n D k m).own ∧ (fnd n D k m).own ≤ 16 := by
  rcases fnd_cases (k := k) (m := m) h with ⟨_, e⟩ | ⟨i, hi, _, e⟩
  · rw [e]; exact ⟨by show (0 : Int) ≤ 0; omega, by show (0 : Int) ≤ 16; omega⟩
  · rw [e]; exact (sv_small (vt_sv' h.vt hi) (h.vs i hi)).2

/-- A held slot is not claimed. -/
theorem clm_held {n : Nat} {D : Nat → SD} {k : Int} {m : ByteArray} {rev cpy : Int} (h : DI n D cpy) (hc : clmC n D k m rev cpy = 0) (ho : 0 < (fnd n D k m).own) : ¬ (fnd n D k m).sin = rev := by
  intro he
  rcases fnd_cases (k := k) (m := m) h with ⟨_, e⟩ | ⟨i, hi, hs, e⟩
  · rw [e] at ho
    have : (0 : Int) < 0 := ho
    omega
  · rw [e] at he
    have := (clm_no (wk := 0) (cpy := cpy) hs he).1
    omega

/-- What is found behind a finish. -/
theorem fin_found {n : Nat} {D : Nat → SD} {k : Int} {m : ByteArray} {wk rev cpy : Int} {v : ByteArray} {dn : Nat} {dK : Nat → Int} {dM : Nat → ByteArray} (h : DI n D cpy) (hr : 1 ≤ rev) (hd : dv dn dK dM = true) (hv : v.size ≤ 1) (hc : finC n D k m wk rev = 0) :
    fnd n (finD n D k m wk rev v dn dK dM) k m = fin (fnd n D k m) rev v dn dK dM := by
  cases hm : mine n D k m wk rev with
  | none => rw [(fin_none (v := v) (dn := dn) (dK := dK) (dM := dM) (p := fun _ => (⟨none, 0, 0, 0⟩ : SP)) (q := ⟨none, 0, 0, 0⟩) hm).1] at hc; cases hc
  | some i =>
    obtain ⟨h1, _⟩ := mine_parts hm
    have hi := slot_lt h1
    have hD := di_fin (k := k) (m := m) (wk := wk) (rev := rev) (v := v) h hr hd hv
    rw [(fin_yes (p := fun _ => (⟨none, 0, 0, 0⟩ : SP)) (q := ⟨none, 0, 0, 0⟩) hm).2.1] at hD ⊢
    have hs2 : slotOf n (updF D i (fin (D i) rev v dn dK dM)) k m = some i := slot_some (up_of hD.vt) hi (by rw [updF_at]; exact slot_sk h1)
    unfold fnd
    rw [hD.vt, h.vt, if_pos rfl, if_pos rfl, hs2, h1]
    show updF D i (fin (D i) rev v dn dK dM) i = _
    rw [updF_at]

end Go.Proofs.Ytpbebpcoeeednaa

/-
  Tables: the keys that the law draws.
-/
namespace Go.Proofs.Ytpbebpcoeeednaa

theorem kv_drawn (x y : Int) : kv (1 + x % 3) (({ data := #[97, 98, 99] } : ByteArray).extract (y % 3).toNat (y % 3 + 1).toNat) = true := by
  have h1 : 1 ≤ 1 + x % 3 ∧ 1 + x % 3 ≤ 3 := by omega
  unfold kv
  rw [decide_eq_true h1, Bool.true_and]
  have h2 : y % 3 = 0 ∨ y % 3 = 1 ∨ y % 3 = 2 := by omega
  rcases h2 with h | h | h
  all_goals
    rw [h]
    decide

theorem val_drawn (y : Int) : (({ data := #[118, 119] } : ByteArray).extract (y % 2).toNat (y % 2 + 1).toNat).size = 1 := by
  have h2 : y % 2 = 0 ∨ y % 2 = 1 := by omega
  rcases h2 with h | h
  all_goals
    rw [h]
    decide

theorem dv_one {k : Int} {m : ByteArray} (h : kv k m = true) : dv 1 (fun _ => k) (fun _ => m) = true := by
  unfold dv allTo
  simp [h]

theorem keys_one (w : World) (k : Int) (m : ByteArray) (hm : m.size ≤ 9223372036854775807) : KeysAt (w.alloc (.cells #[.int .i64 k, .string m] 37)) (some ⟨w.heap.size, 0, none⟩) w.heap.size 0 1 (fun _ => k) (fun _ => m) := by
  have r := row2 w (.int .i64 k) (.string m) 37
  refine ⟨fun _ => rfl, fun i hi => ?_, fun i hi => ?_, fun i _ => hm, by omega⟩
  · have e : i = 0 := by omega
    subst e
    exact r.cell (i := 0) (by omega)
  · have e : i = 0 := by omega
    subst e
    exact r.cell (i := 1) (by omega)

end Go.Proofs.Ytpbebpcoeeednaa

/-
  Tables: the loop of the law's run: its body, and what holds at each round.
-/
namespace Go.Proofs.Ytpbebpcoeeednaa
open Go.RowKit

/-- The first loop of a piece of code. -/
def firstLoop : Code → Option Code
  | .loop c => some c
  | .seq a b => match firstLoop a with
    | some c => some c
    | none => firstLoop b
  | .block _ c => firstLoop c
  | .scope c => firstLoop c
  | .cond _ a b => match firstLoop a with
    | some c => some c
    | none => firstLoop b
  | _ => none
noncomputable def runBody : Code := ((Try.f8.body.bind firstLoop).getD .skip)

/-- What holds at each round. -/
def RelT (w : World) (N x1 x2 : Nat) (cap : Int) (r i : Value) (wr : World) : Prop :=
  ∃ (k m : Nat) (rv : Int) (D : Nat → SD), k ≤ N ∧ i = .int .i64 (k : Int) ∧ r = .int .i64 rv ∧ 1 ≤ rv ∧ rv ≤ k + 1 ∧ FT w wr x1 x2 m D ∧ DI m D cap

set_option maxRecDepth 1000000 in
/-- .. with the frame. -/
def WI (w : World) (ao : Option Addr) (n c N x1 x2 : Nat) (cap : Int) (c1 c30 c31 c32 c33 c34 c35 c36 c37 c38 c39 c40 c41 c42 c258 c259 : Value) (a : Act) (w' : World) : Prop :=
  ∃ u2 u5 u8 u9 u10 u11 u12 u13 u14 u15 u16 u17 u18 u19 u20 u21 u22 u23 u24 u25 u26 u27 u28 u29 u43 u44 u45 u46 u47 u48 u49 u50 u51 u52 u53 u54 u55 u56 u57 u58 u59 u60 u61 u62 u63 u64 u65 u66 u67 u68 u69 u70 u71 u72 u73 u74 u75 u76 u77 u78 u79 u80 u81 u82 u83 u84 u85 u86 u87 u88 u89 u90 u91 u92 u93 u94 u95 u96 u97 u98 u99 u100 u101 u102 u103 u104 u105 u106 u107 u108 u109 u110 u111 u112 u113 u114 u115 u116 u117 u118 u119 u120 u121 u122 u123 u124 u125 u126 u127 u128 u129 u130 u131 u132 u133 u134 u135 u136 u137 u138 u139 u140 u141 u142 u143 u144 u145 u146 u147 u148 u149 u150 u151 u152 u153 u154 u155 u156 u157 u158 u159 u160 u161 u162 u163 u164 u165 u166 u167 u168 u169 u170 u171 u172 u173 u174 u175 u176 u177 u178 u179 u180 u181 u182 u183 u184 u185 u186 u187 u188 u189 u190 u191 u192 u193 u194 u195 u196 u197 u198 u199 u200 u201 u202 u203 u204 u205 u206 u207 u208 u209 u210 u211 u212 u213 u214 u215 u216 u217 u218 u219 u220 u221 u222 u223 u224 u225 u226 u227 u228 u229 u230 u231 u232 u233 u234 u235 u236 u237 u238 u239 u240 u241 u242 u243 u244 u245 u246 u247 u248 u249 u250 u251 u252 u253 u254 u255 u256 u257 : Value, RelT w N x1 x2 cap u5 u8 w' ∧ a = ⟨#[.slice ao n c, c1, u2, .pointer (some ⟨x1, 0, none⟩), .pointer (some ⟨x2, 0, none⟩), u5, .int .i64 cap, .int .i64 (N : Int), u8, u9, u10, u11, u12, u13, u14, u15, u16, u17, u18, u19, u20, u21, u22, u23, u24, u25, u26, u27, u28, u29, c30, c31, c32, c33, c34, c35, c36, c37, c38, c39, c40, c41, c42, u43, u44, u45, u46, u47, u48, u49, u50, u51, u52, u53, u54, u55, u56, u57, u58, u59, u60, u61, u62, u63, u64, u65, u66, u67, u68, u69, u70, u71, u72, u73, u74, u75, u76, u77, u78, u79, u80, u81, u82, u83, u84, u85, u86, u87, u88, u89, u90, u91, u92, u93, u94, u95, u96, u97, u98, u99, u100, u101, u102, u103, u104, u105, u106, u107, u108, u109, u110, u111, u112, u113, u114, u115, u116, u117, u118, u119, u120, u121, u122, u123, u124, u125, u126, u127, u128, u129, u130, u131, u132, u133, u134, u135, u136, u137, u138, u139, u140, u141, u142, u143, u144, u145, u146, u147, u148, u149, u150, u151, u152, u153, u154, u155, u156, u157, u158, u159, u160, u161, u162, u163, u164, u165, u166, u167, u168, u169, u170, u171, u172, u173, u174, u175, u176, u177, u178, u179, u180, u181, u182, u183, u184, u185, u186, u187, u188, u189, u190, u191, u192, u193, u194, u195, u196, u197, u198, u199, u200, u201, u202, u203, u204, u205, u206, u207, u208, u209, u210, u211, u212, u213, u214, u215, u216, u217, u218, u219, u220, u221, u222, u223, u224, u225, u226, u227, u228, u229, u230, u231, u232, u233, u234, u235, u236, u237, u238, u239, u240, u241, u242, u243, u244, u245, u246, u247, u248, u249, u250, u251, u252, u253, u254, u255, u256, u257, c258, c259], []⟩

/-- The measure. -/
def Wmu (N : Nat) (a : Act) (_ : World) : Nat := N - (intOf (a.tmps.getD 8 undef)).toNat

end Go.Proofs.Ytpbebpcoeeednaa

