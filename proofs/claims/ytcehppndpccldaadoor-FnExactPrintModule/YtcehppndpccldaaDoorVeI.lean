/-
  The stack of printed parts: pure, and in memory.
-/
import Derived.Test.YtcehppndpccldaaDoorVeH
namespace Go.Proofs.YtcehppndpccldaaDoor
open Go.RowKit

theorem rn_none {fo : Nat → Option Fm} {lim k : Nat} (h : rn fo lim k = none) : ∀ n, k ≤ n → rn fo lim n = none := by
  intro n hn
  induction n with
  | zero =>
    have : k = 0 := by omega
    rw [this] at h
    exact h
  | succ n ih =>
    by_cases e : k = n + 1
    · rw [← e]; exact h
    · rw [rn, ih (by omega)]
theorem pl_none {fo : Nat → Option Fm} {lim k n : Nat} (h : rn fo lim k = none) (hn : k ≤ n) : plF fo lim n = none := by
  unfold plF
  rw [rn_none h n hn]
theorem rn_no {fo : Nat → Option Fm} {lim k : Nat} {st : List Wh} (h : rn fo lim k = some st) (hf : fo k = none) : rn fo lim (k + 1) = none := by rw [rn, h, hf]
theorem rn_few {fo : Nat → Option Fm} {lim k : Nat} {st : List Wh} {f : Fm} (h : rn fo lim k = some st) (hf : fo k = some f) (hl : st.length < f.needs.length) : rn fo lim (k + 1) = none := by
  rw [rn, h, hf]
  dsimp only
  rw [if_neg (by omega)]
/-- The new part and the stack with it. -/
def newW (f : Fm) (st : List Wh) : Wh := (arnd f.needs f.texts (st.drop (st.length - f.needs.length)), f.lev)
def newS (f : Fm) (st : List Wh) : List Wh := st.take (st.length - f.needs.length) ++ [newW f st]
theorem newS_sz (f : Fm) (st : List Wh) : szW (newS f st) + szW (st.drop (st.length - f.needs.length)) = szW st + (newW f st).1.size := by
  unfold newS
  rw [szW_app, szW_one]
  have := szW_take st (st.length - f.needs.length)
  omega
theorem rn_big {fo : Nat → Option Fm} {lim k : Nat} {st : List Wh} {f : Fm} (h : rn fo lim k = some st) (hf : fo k = some f) (hl : f.needs.length ≤ st.length) (hs : lim < szW (newS f st)) : rn fo lim (k + 1) = none := by
  rw [rn, h, hf]
  dsimp only
  rw [if_pos hl, if_neg (by unfold newS newW at hs; omega)]
theorem rn_yes {fo : Nat → Option Fm} {lim k : Nat} {st : List Wh} {f : Fm} (h : rn fo lim k = some st) (hf : fo k = some f) (hl : f.needs.length ≤ st.length) (hs : szW (newS f st) ≤ lim) : rn fo lim (k + 1) = some (newS f st) := by
  rw [rn, h, hf]
  dsimp only
  rw [if_pos hl, if_pos (by unfold newS newW at hs; omega)]
  rfl
theorem rn_sz {fo : Nat → Option Fm} {lim : Nat} : ∀ {k : Nat} {st : List Wh}, rn fo lim k = some st → szW st ≤ lim ∧ st.length ≤ k
  | 0, st, h => by
    cases h
    exact ⟨Nat.zero_le _, Nat.le_refl _⟩
  | k + 1, st, h => by
    rw [rn] at h
    split at h
    · rename_i st0 f e0 ef
      obtain ⟨i1, i2⟩ := rn_sz e0
      split at h
      · split at h
        · rename_i hs
          cases h
          refine ⟨hs, ?_⟩
          rw [List.length_append, List.length_take, List.length_singleton]
          omega
        · cases h
      · cases h
    · cases h

def whV (x : Wh) : List Value := [.string x.1, .int .i64 (x.2 : Int)]
def whC (st : List Wh) : List Value := st.flatMap whV
theorem whV_len (x : Wh) : (whV x).length = 2 := rfl
theorem whC_len (st : List Wh) : (whC st).length = st.length * 2 := flat_len whV 2 whV_len st
theorem whC_snoc (st : List Wh) (x : Wh) : whC (st ++ [x]) = whC st ++ [.string x.1, .int .i64 (x.2 : Int)] := by simp [whC, whV]
theorem whC_take : ∀ (st : List Wh) (j : Nat), (whC st).take (j * 2) = whC (st.take j)
  | [], j => by simp [whC]
  | x :: st, 0 => by simp [whC]
  | x :: st, j + 1 => by
    show (Value.string x.1 :: .int .i64 (x.2 : Int) :: whC st).take ((j + 1) * 2) = Value.string x.1 :: .int .i64 (x.2 : Int) :: whC (st.take j)
    rw [← whC_take st j, show (j + 1) * 2 = j * 2 + 1 + 1 by omega, List.take_succ_cons, List.take_succ_cons]
/-- The stack cut short. -/
theorem own_cut {w : World} {B m vc j : Nat} {va : Option Addr} {st : List Wh} (h : w.ownsRow B 100 2 (.slice va m vc) m (whC st)) (hm : m = st.length) (hj : j ≤ m) : w.ownsRow B 100 2 (.slice va j vc) j (whC (st.take j)) := by
  refine ⟨by rw [whC_len, List.length_take]; omega, ?_⟩
  rcases h.2 with ⟨h1, h0⟩ | ⟨g, cap, cur, h1, h2, h3, h4, h5, h6, h7⟩
  · left
    cases h1
    have : j = 0 := by omega
    subst this
    exact ⟨rfl, rfl⟩
  · right
    cases h1
    refine ⟨g, vc, cur, rfl, h2, h3, by omega, h5, h6, ?_⟩
    rw [← whC_take, ← h7, List.take_take, Nat.min_eq_left (by omega)]
/-- Its upper part. -/
theorem own_top {w : World} {B m vc j g : Nat} {va : Option Addr} {st : List Wh} (h : w.ownsRow B 100 2 (.slice va m vc) m (whC st)) (hm : m = st.length) (ha : va = some ⟨g, 0, none⟩) : WhA w (some ⟨g, j * 2, none⟩) g (j * 2) (st.drop j) := by
  subst ha hm
  refine ⟨fun _ => rfl, fun k hk => ?_, fun k hk => ?_⟩
  · have hk2 : j + k < st.length := by rw [List.length_drop] at hk; omega
    have := own_at whV_len h rfl hk2 (r := 0) (by omega) (u := .string st[j + k].1) rfl
    rw [List.getElem_drop, ← this]
    congr 2
    omega
  · have hk2 : j + k < st.length := by rw [List.length_drop] at hk; omega
    have := own_at whV_len h rfl hk2 (r := 1) (by omega) (u := .int .i64 (st[j + k].2 : Int)) rfl
    rw [List.getElem_drop, ← this]
    congr 2
    omega
theorem WhA.nil {w : World} {a : Option Addr} {g o : Nat} : WhA w a g o [] := ⟨fun h => absurd h (Nat.lt_irrefl _), fun _ h => absurd h (Nat.not_lt_zero _), fun _ h => absurd h (Nat.not_lt_zero _)⟩
theorem Tryd.infoW : (Tryd.prog.info? 100).map (fun i => (i.zero, i.size, i.bytes)) = some (some (.agg #[.string ByteArray.empty, .int .i64 0]), 2, 24) := by kernel_rfl
theorem Tryd.elemW : Tryd.prog.elem 95 = 100 := by kernel_rfl
theorem Tryd.sizeW (w : World) : (Go.sizeOf 100).run Tryd.prog w = .ok 2 w := by
  obtain ⟨i0, hi0, hz0, hz1, hz2⟩ := info_parts Tryd.infoW
  simp [Go.sizeOf, typeInfo, hi0, hz1]
theorem slice_top (va : Option Addr) (m vc j : Nat) (hj : j ≤ m) (W : World) : (Instr.slice 95 (.slice va m vc) (some (.int .i64 (j : Int))) none none).run Tryd.prog W = .ok (.slice (if vc = j then va else va.map (·.add (j * 2))) (m - j) (vc - j)) W := by
  rw [run_slice_l (ht := by rw [Tryd.elemW]; exact Tryd.underlying95) (h0 := by omega) (h1 := by omega), Tryd.elemW, Tryd.sizeW]
  simp [sliced, Result.andThen]
theorem slice_bot (va : Option Addr) (m vc j : Nat) (hj : j ≤ vc) (W : World) : (Instr.slice 95 (.slice va m vc) none (some (.int .i64 (j : Int))) none).run Tryd.prog W = .ok (.slice va j vc) W := by
  rw [run_slice_h (ht := by rw [Tryd.elemW]; exact Tryd.underlying95) (h0 := by omega) (h2 := by omega), Tryd.elemW, Tryd.sizeW]
  simp only [sliced, Result.andThen, Int.toNat_natCast, Nat.zero_mul, Nat.sub_zero]
  have e : (va.map fun x => x.add 0) = va := by cases va <;> rfl
  rw [e, ite_self]
/-- The stack's upper part as the program sees it. -/
theorem own_top' {w : World} {B m vc j : Nat} {va : Option Addr} {st : List Wh} (h : w.ownsRow B 100 2 (.slice va m vc) m (whC st)) (hm : m = st.length) (hj : j ≤ m) : ∃ g o, WhA w (if vc = j then va else va.map (·.add (j * 2))) g o (st.drop j) := by
  by_cases e : j = m
  · refine ⟨0, 0, ?_⟩
    rw [List.drop_eq_nil_of_le (by omega)]
    exact WhA.nil
  · rcases h.2 with ⟨_, h0⟩ | ⟨g, cap, cur, h1, h2, h3, h4, h5, h6, h7⟩
    · omega
    · cases h1
      refine ⟨g, j * 2, ?_⟩
      rw [if_neg (by omega)]
      have := own_top (j := j) h hm rfl
      rw [show Option.map (fun x : Addr => x.add (j * 2)) (some ⟨g, 0, none⟩) = some ⟨g, j * 2, none⟩ from by
        show some (Addr.add ⟨g, 0, none⟩ (j * 2)) = _
        unfold Addr.add
        split
        · rename_i z; rw [z]
        · simp]
      exact this
theorem below_grow {w u w9 : World} {o : Obj} {B n size : Nat} {e : TypeId} {v : Value} {xs : List Value} (hb : Below B w u) (hB : B ≤ u.heap.size) (hown : u.ownsRow B e size v n xs) (hg : (u.alloc o).grownBy w9 v.ownBlock) : Below B w w9 :=
  ⟨hg.os.trans hb.os, hg.tape.trans hb.tape, hg.output.trans hb.output, Nat.le_trans hb.size (Nat.le_trans (by simp) hg.size), fun b hlt => ((hg.block b (by simp; omega) (fun e => by have := (hown.lt b e.symm).1; omega)).trans (Below.heap_alloc _ _ _ (by omega))).trans (hb.block b hlt)⟩

end Go.Proofs.YtcehppndpccldaaDoor
