/-
  The program's Same.
-/
import Derived.Test.YtdgbcblajgmpcaaWalk
namespace Go.Proofs.Ytdgbcblajgmpcaa
open Go.RowKit

def SamePost (N : Nat) (G : Nat → ND) (a b : Int) (w : World) (e : Ending) (w' : World) : Prop :=
  ((e = .returned (.bool false) ∧ ¬ SameAns N G a b) ∨ (e = .returned (.bool true) ∧ SameAns N G a b)) ∧ Below w.heap.size w w'

theorem kok2 {N : Nat} {a b : Int} {D : Nat → Int} (h0 : D 0 = a) (h1 : D 1 = b) : kok 2 D N = true ↔ ((0 ≤ a ∧ a < N) ∧ (0 ≤ b ∧ b < N)) := by
  constructor
  · intro h
    have r0 := of_decide_eq_true (allTo_at h (k := 0) (by omega))
    have r1 := of_decide_eq_true (allTo_at h (k := 1) (by omega))
    rw [h0] at r0; rw [h1] at r1
    exact ⟨r0, r1⟩
  · rintro ⟨h2, h3⟩
    refine allTo_true (fun j hj => ?_)
    match j, hj with
    | 0, _ => exact decide_eq_true (by rw [h0]; exact h2)
    | 1, _ => exact decide_eq_true (by rw [h1]; exact h3)

theorem kept_of_below {w w' : World} (h : Below w.heap.size w w') : Kept (fun k => k < w.heap.size) w w' := ⟨h.os, h.tape, h.output, h.size, h.block⟩
theorem below_of_kept {w w' : World} (h : Kept (fun k => k < w.heap.size) w w') : Below w.heap.size w w' := ⟨h.os, h.tape, h.output, h.size, h.block⟩

/-- The struct is laid behind the leaders. -/
theorem lead_behind {w w2 W w3 : World} {N : Nat} {gv : Value} (B2 : Below w.heap.size w w2) (hW : Below w2.heap.size w2 W) (hs : W.heap.size = w2.heap.size) (hF : Fill W w3 3 N N (fun i => .int .i64 (i : Int)) (.int .i64 0)) :
    Lead (w3.alloc (.cells #[gv, .slice (some ⟨w2.heap.size, 0, none⟩) N N] 42)) w3.heap.size w2.heap.size N (fun n => n) ∧ (w3.alloc (.cells #[gv, .slice (some ⟨w2.heap.size, 0, none⟩) N N] 42)).cell? ⟨w3.heap.size, 0, none⟩ = some gv ∧
    Kept (fun k => k < w.heap.size) w (w3.alloc (.cells #[gv, .slice (some ⟨w2.heap.size, 0, none⟩) N N] 42)) ∧ w.heap.size ≤ w2.heap.size := by
  have R := row2 w3 gv (.slice (some ⟨w2.heap.size, 0, none⟩) N N) 42
  have r := hF.row
  have hlt := hF.row.lt
  have hb3 := hF.below
  rw [hs] at r hlt
  have h2 := B2.size
  have B3 : Below w.heap.size w w3 := (B2.trans (hW.mono h2)).trans (hb3.mono (by rw [hs]; exact h2))
  exact ⟨⟨R.cell (i := 1) (by omega), (r.alloc _).congr (fun i hi => by rw [if_pos hi]), by omega⟩, R.cell (i := 0) (by omega), kept_of_below (B3.alloc B3.size _), h2⟩

/-- The leaders are laid behind the struct. -/
theorem lead_ahead {w w2 W w3 : World} {N : Nat} {gv z0 z1 : Value} (B2 : Below w.heap.size w w2) (hW : Below w2.heap.size w2 W) (hs : W.heap.size = w2.heap.size + 1) (hF : Fill W w3 3 N N (fun i => .int .i64 (i : Int)) (.int .i64 0))
    (RR : w3.rowIs w2.heap.size 42 2 (v2 z0 z1)) :
    Lead ((w3.setCell ⟨w2.heap.size, 0, none⟩ gv).setCell ⟨w2.heap.size, 1, none⟩ (.slice (some ⟨w2.heap.size + 1, 0, none⟩) N N)) w2.heap.size (w2.heap.size + 1) N (fun n => n) ∧
    ((w3.setCell ⟨w2.heap.size, 0, none⟩ gv).setCell ⟨w2.heap.size, 1, none⟩ (.slice (some ⟨w2.heap.size + 1, 0, none⟩) N N)).cell? ⟨w2.heap.size, 0, none⟩ = some gv ∧
    Kept (fun k => k < w.heap.size) w ((w3.setCell ⟨w2.heap.size, 0, none⟩ gv).setCell ⟨w2.heap.size, 1, none⟩ (.slice (some ⟨w2.heap.size + 1, 0, none⟩) N N)) ∧ w.heap.size ≤ w2.heap.size + 1 := by
  have R := (RR.set 0 gv).set 1 (.slice (some ⟨w2.heap.size + 1, 0, none⟩) N N)
  have r := hF.row
  have hb3 := hF.below
  rw [hs] at r
  have h2 := B2.size
  have B3 : Below w.heap.size w w3 := (B2.trans (hW.mono h2)).trans (hb3.mono (by rw [hs]; omega))
  refine ⟨⟨R.cell (i := 1) (by omega), ((r.setOther (a := ⟨w2.heap.size, 0, none⟩) (by show w2.heap.size + 1 ≠ w2.heap.size; omega) _).setOther (a := ⟨w2.heap.size, 1, none⟩) (by show w2.heap.size + 1 ≠ w2.heap.size; omega) _).congr (fun i hi => by rw [if_pos hi]), by omega⟩, R.cell (i := 0) (by omega), kept_of_below ((B3.setCell h2 _).setCell h2 _), by omega⟩

set_option maxRecDepth 100000 in
set_option maxHeartbeats 8000000 in
theorem c7 (ao : Option Addr) (gb go N gc : Nat) (p : Nat → NP) (G : Nat → ND) (a b : Int) (w : World) (h1 : NodesAt w ao gb go N p G) (hnk : ∀ i, i < N → (G i).nk ≤ 1048576) :
    Calls Try.prog 7 #[.agg #[.slice ao N gc], .int .i64 a, .int .i64 b] w (SamePost N G a b w) := by
  have HB : Hid (∀ w', Below w.heap.size w w' → NodesAt w' ao gb go N p G) := fun w' hb => h1.below hb
  have HG : Hid (NodesAt w ao gb go N p G) := h1
  have HNK : Hid (∀ i, i < N → (G i).nk ≤ 1048576) := hnk
  have hlen := h1.len
  clear h1 hnk
  go_enter Try.func7, Try.ntmps7
  go_wp2_with fail
  refine (c14 ao gb go N gc p G _ (by exact HB.out _ (bel1 _ _))).mono ?_
  rintro e w1 ⟨rfl, hb1⟩
  have B1 : Below w.heap.size w w1 := (bel1 w _).trans (hb1.mono (by simp))
  have k1 : w1.cell? ⟨w.heap.size, 0, none⟩ = some (.slice ao N gc) := by rw [hb1.cell (p := ⟨w.heap.size, 0, none⟩) (by simp)]; simp
  have z1 : w.heap.size < w1.heap.size := by have := hb1.size; simp at this; omega
  clear hb1
  cases hv : vgr N G
  · have FIN : Hid (SamePost N G a b w (.returned (.bool false)) w1) := ⟨Or.inl ⟨rfl, fun h => by have := h.valid; rw [hv] at this; cases this⟩, B1⟩
    clear hv
    go_wp2
    go_ret
    exact FIN.out
  have HV : Hid (vgr N G = true) := hv
  clear hv
  have hN := vgr_size HV.out
  go_wp2_with fail
  have R1 := row2 w1 (.int .i64 a) (.int .i64 b) 3
  refine (c15 ao N gc (some ⟨w1.heap.size, 0, none⟩) w1.heap.size 0 2 2 (fun i => if i = 0 then a else b) _ ⟨fun _ => rfl, fun i hi => (by rw [Nat.zero_add, R1.cell hi]; match i, hi with | 0, _ => rfl | 1, _ => rfl), by omega⟩ hlen).mono ?_
  rintro e w2 ⟨rfl, hb2⟩
  have C2 : Below w1.heap.size w1 w2 := (bel1 w1 _).trans (hb2.mono (by simp))
  have B2 : Below w.heap.size w w2 := B1.trans (C2.mono B1.size)
  have k2 : w2.cell? ⟨w.heap.size, 0, none⟩ = some (.slice ao N gc) := (C2.cell (p := ⟨w.heap.size, 0, none⟩) z1).trans k1
  have z2 : w.heap.size < w2.heap.size := by have := C2.size; omega
  have HKK : Hid (kok 2 (fun i => if i = 0 then a else b) N = true ↔ ((0 ≤ a ∧ a < N) ∧ (0 ≤ b ∧ b < N))) := kok2 rfl rfl
  clear hb2 R1 C2 B1 k1 z1
  cases hk : kok 2 (fun i => if i = 0 then a else b) N
  · have FIN : Hid (SamePost N G a b w (.returned (.bool false)) w2) := ⟨Or.inl ⟨rfl, fun h => by have := HKK.out.2 ⟨⟨h.a0, h.a1⟩, ⟨h.b0, h.b1⟩⟩; rw [hk] at this; cases this⟩, B2⟩
    clear hk
    go_wp2
    go_ret
    exact FIN.out
  obtain ⟨⟨a0, a1⟩, b0, b1⟩ := HKK.out.1 hk
  clear hk HKK
  obtain ⟨x, rfl⟩ := Int.eq_ofNat_of_zero_le a0
  obtain ⟨y, rfl⟩ := Int.eq_ofNat_of_zero_le b0
  have hx : x < N := by omega
  have hy : y < N := by omega
  have hN1 : N ≤ 1048576 := by omega
  go_wp2
  go_cut [7] (fun s7 wc => ∃ M lb : Nat, s7 = .pointer (some ⟨M, 0, none⟩) ∧ Lead wc M lb N (fun n => n) ∧ wc.cell? ⟨M, 0, none⟩ = some (.slice ao N gc) ∧ Kept (fun k => k < w.heap.size) w wc ∧ w.heap.size ≤ lb)
  case first =>
    have hne0 : ¬ (w.heap.size = w2.heap.size) := by omega
    have hne1 : ¬ (w2.heap.size = w.heap.size) := by omega
    go_region_held3 (fun w' => w'.cell? ⟨w.heap.size, 0, none⟩ = some (.slice ao N gc)) (go_keep)
      (first | (go_at_call 16; refine (c16 N _ hN1).mono ?_; rintro e w3 ⟨rfl, hF⟩; have z := (hF.below.cell (p := ⟨w.heap.size, 0, none⟩) (by simp; omega)); first | (have RR := (row2 w2 (.slice none 0 0) (.slice none 0 0) 42).of_block (hF.below.block w2.heap.size (by simp)); have q0 : w3.cell? ⟨w2.heap.size, 0, none⟩ = some (.slice none 0 0) := RR.cell (i := 0) (by omega); have q1 : w3.cell? ⟨w2.heap.size, 1, none⟩ = some (.slice none 0 0) := RR.cell (i := 1) (by omega); have f0 := RR.frozen 0; have f1 := RR.frozen 1) | skip))
    · have FF := lead_behind (gv := .slice ao N gc) B2 (Below.refl _ _).drew rfl hF
      clear hF z
      go_wp2
      go_meet
      case rel => exact ⟨w3.heap.size, w2.heap.size, rfl, FF.1, FF.2.1, FF.2.2.1, FF.2.2.2⟩
    · have FF := lead_ahead (gv := .slice ao N gc) B2 (bel1 w2 (.cells #[.slice none 0 0, .slice none 0 0] 42)).drew (by simp) hF RR
      clear hF z RR q0 q1 f0 f1
      go_wp2
      go_meet
      case rel => exact ⟨w2.heap.size, w2.heap.size + 1, rfl, FF.1, FF.2.1, FF.2.2.1, FF.2.2.2⟩
  case rest =>
    obtain ⟨M, lb, rfl, hL, hg, hkp, hlo⟩ := hcut
    clear k2 z2 B2
    go_wp2_with fail
    refine (c17 w.heap.size w M lb N ao gb go gc p G x y wc hL hg hkp hlo rfl HG.out HV.out hx hy HNK.out).mono ?_
    intro e w' hP
    obtain ⟨hP, hK'⟩ := hP
    have hBw := below_of_kept hK'
    rcases hP with ⟨rfl, hs⟩ | ⟨rfl, hs⟩
    · have FIN : Hid (SamePost N G (x : Int) (y : Int) w (.returned (.bool false)) w') := ⟨Or.inl ⟨rfl, fun h => hs (by have := h.same; simpa using this)⟩, hBw⟩
      clear hs hK' hBw hL hg hkp
      go_wp2
      go_ret
      exact FIN.out
    · have FIN : Hid (SamePost N G (x : Int) (y : Int) w (.returned (.bool true)) w') := ⟨Or.inr ⟨rfl, ⟨HV.out, a0, a1, b0, b1, by simpa using hs⟩⟩, hBw⟩
      clear hs hK' hBw hL hg hkp
      go_wp2
      go_ret
      exact FIN.out

end Go.Proofs.Ytdgbcblajgmpcaa
