/-
  The iterator of strings.Lines.
-/
import Derived.Test.YthmihmnagnibmaaDoorPrR
import Derived.Shelf.Abstract
import Derived.Shelf.RegionOpen
import Derived.WalkKit
import Derived.OwnWalkIn
import Derived.TacticsInMore
import Derived.LoopNIn
import Derived.LoopIn
namespace Go.Proofs.YthmihmnagnibmaaDoor
open Go Go.RowKit Go.Shelf

/-- How long the text in a cell is. -/
def lenIn (W : World) (xb : Nat) : Nat := match W.cell? ⟨xb, 0, none⟩ with | some (.string s) => s.size | _ => 0
theorem lenIn_eq {W : World} {xb : Nat} {s : ByteArray} (h : W.cell? ⟨xb, 0, none⟩ = some (.string s)) : lenIn W xb = s.size := by unfold lenIn; rw [h]

theorem idxB_some : ∀ {l : List UInt8} {c : UInt8} {i : Nat}, l[i]? = some c → (∀ j, j < i → l[j]? ≠ some c) → Lib.indexByte l c = i
  | [], _, i, h, _ => by simp at h
  | b :: l, c, 0, h, _ => by
    have : b = c := by simpa using h
    subst this
    show (if b == b then (0 : Int) else _) = 0
    rw [if_pos (by simp)]
  | b :: l, c, i + 1, h, hm => by
    have hb : ¬ (b == c) = true := fun e => hm 0 (by omega) (by simpa using e)
    have ih := idxB_some (l := l) (c := c) (i := i) (by simpa using h) (fun j hj hx => hm (j + 1) (by omega) (by simpa using hx))
    show (if b == c then (0 : Int) else if Lib.indexByte l c == -1 then -1 else Lib.indexByte l c + 1) = ((i + 1 : Nat) : Int)
    rw [if_neg hb, ih, if_neg (by intro e; have := beq_iff_eq.1 e; omega)]
    omega
theorem idxB_none : ∀ {l : List UInt8} {c : UInt8}, (∀ j : Nat, l[j]? ≠ some c) → Lib.indexByte l c = -1
  | [], _, _ => rfl
  | b :: l, c, hm => by
    have hb : ¬ (b == c) = true := fun e => hm 0 (by simpa using e)
    have ih := idxB_none (l := l) (c := c) (fun j hx => hm (j + 1) (by simpa using hx))
    show (if b == c then (0 : Int) else if Lib.indexByte l c == -1 then -1 else Lib.indexByte l c + 1) = -1
    rw [if_neg hb, ih, if_pos (by decide)]
theorem ext_end (s : ByteArray) : s.extract s.size s.size = ⟨#[]⟩ := ba_eq (by rw [ba_ext, Nat.sub_self]; simp)

theorem ext_head (s : ByteArray) (f i : Nat) (h : f + i < s.size) : (s.extract f s.size).extract 0 (i + 1) = s.extract f (f + i + 1) :=
  ba_eq (by rw [ba_ext, ba_ext, ba_ext, List.drop_zero, Nat.sub_zero, List.take_take, show min (i + 1) (s.size - f) = f + i + 1 - f by omega])
theorem ext_tail (s : ByteArray) (f i : Nat) (h : f + i < s.size) : (s.extract f s.size).extract (i + 1) (s.extract f s.size).size = s.extract (f + i + 1) s.size :=
  ba_eq (by rw [ba_ext, ba_ext, ba_ext, ext_size _ _ _ (Nat.le_refl _), List.drop_take, List.drop_drop, List.take_take, show min (s.size - f - (i + 1)) (s.size - f - (i + 1)) = s.size - (f + i + 1) by omega, Nat.add_assoc])

def LnSt (s r : ByteArray) (k : Nat) : Prop := (∃ f, At s f k ∧ r = s.extract f s.size) ∨ (r = ⟨#[]⟩ ∧ (linesOf s).length = k)
def LineV (s : ByteArray) (k : Nat) (x : ByteArray) : Prop := trimNl x = lineAt s k ∧ x.size ≤ s.size

set_option maxRecDepth 100000 in
set_option maxHeartbeats 4000000 in
theorem lines_seq (n : Nat) (hn : 2 ≤ n) (xb : Nat) (s : ByteArray) (hs : s.size ≤ 1048576) : SeqC n Tryd.prog 23 #[.pointer (some ⟨xb, 0, none⟩)] xb s (LineV s) (linesOf s).length := by
  intro l J Jx W hc hf hJs hJd hY h0
  have HJs : Hid (∀ k W v, J k W → J k (W.setCell ⟨xb, 0, none⟩ v)) := hJs
  have HJd : Hid (∀ k W m, J k W → J k (W.drewN m)) := hJd
  clear hJs hJd
  refine callsIn_of_wp Tryd.func23 rfl trivial ?_ rfl
  simp only [Tryd.ntmps23, List.size_toArray, List.length_cons, List.length_nil, Nat.reduceAdd, Nat.reduceSub, Array.replicate_succ, Array.replicate_zero, List.push_toArray, List.append_toArray, List.nil_append, List.cons_append]
  gi_wp2
  gi_loopw [3] (fun _ wr => ∃ (r : ByteArray) (k : Nat), Hid (LnSt s r k) ∧ wr.cell? ⟨xb, 0, none⟩ = some (.string r) ∧ wr.frozen? ⟨xb, 0, none⟩ = false ∧ Hid (J k wr)) (fun _ wr => lenIn wr xb)
  case atStart =>
    exact ⟨s, 0, Or.inl ⟨0, at_zero s, by rw [ByteArray.extract_zero_size]⟩, hc, hf, h0⟩
  case round =>
    obtain ⟨r, k, hL, hc1, hf1, hJ⟩ := hrel
    by_cases hz : r.size = 0
    · have hr0 : r = ⟨#[]⟩ := ba_eq (by
        have : r.data.toList.length = 0 := by rw [← Lib.size_eq]; exact hz
        rw [List.length_eq_zero_iff.1 this])
      have HN : Hid ((linesOf s).length = k) := Lib.hid (by
        rcases hL.out with ⟨f, hA, hr⟩ | ⟨_, h⟩
        · refine at_end ?_
          have h1 := ext_size s f s.size (Nat.le_refl _)
          rw [← hr, hz] at h1
          have h2 := hA.le
          have h3 : f = s.size := by omega
          rw [← h3]; exact hA
        · exact h)
      subst hr0
      clear hz
      gi_wp2
      go_end0
      exact ⟨⟨_, rfl⟩, .inl (by rw [HN.out]; exact hJ.out)⟩
    obtain ⟨f, hA0, hr⟩ : ∃ f, At s f k ∧ r = s.extract f s.size := by
      rcases hL.out with h | ⟨h, _⟩
      · exact h
      · exact absurd (by rw [h]; rfl) hz
    have hA : Hid (At s f k) := hA0
    clear hA0 hL
    have hrs : r.size = s.size - f := by rw [hr, ext_size _ _ _ (Nat.le_refl _)]
    have hrp : 0 < r.size := by omega
    have hfl : f < s.size := by omega
    rcases by_cases_first r 10 r.size (Nat.le_refl _) with ⟨i, hi, hb, hm⟩ | hm
    · have HST : Hid (k < (linesOf s).length ∧ lineAt s k = s.extract f (f + i) ∧ At s (f + i + 1) (k + 1)) := Lib.hid (at_step hA.out (by omega) (by
          rw [hr, by_ext s f s.size i (by omega) (Nat.le_refl _)] at hb; exact hb) (fun j hj => by
          have := hm j hj
          rw [hr, by_ext s f s.size j (by omega) (Nat.le_refl _)] at this; exact this))
      have CI : Hid (Calls Tryd.prog 24 #[.string r, .int .u8 10] wr fun e w' => e = .returned (.int .i64 (i : Int)) ∧ w' = wr) := Lib.hid (by
        have h := Tryd.strings_IndexByte r 10 wr
        have e : Lib.indexByte r.data.toList 10 = (i : Int) := idxB_some ((bl_at hi).2 hb) (fun j hj hx => hm j hj ((bl_at (by omega)).1 hx))
        have e2 : (10 : Int).toNat.toUInt8 = 10 := rfl
        rw [e2, e] at h
        exact h)
      have HR : Hid (r = s.extract f s.size) := hr
      have HRS : Hid (r.size = s.size - f) := hrs
      have HBY : Hid (by_ r i = 10) := hb
      clear hr hm hb hz hrs
      have hn1 : 1 ≤ n := by omega
      gi_wp2_with fail
      refine ⟨trivial, (callsIn_wide.2 CI.out).mono ?_⟩
      rintro e w1 ⟨rfl, rfl⟩
      have hi0 : (0 : Int) ≤ (i : Int) := by omega
      have hi1 : (i : Int) + 1 ≤ (r.size : Int) := by omega
      have hrb : r.size ≤ 1048576 := by have := HRS.out; omega
      gi_wp2
      gi_region
      obtain ⟨r2, hr2⟩ : ∃ r2, r2 = r.extract (i + 1) r.size := ⟨_, rfl⟩
      obtain ⟨x, hx⟩ : ∃ x, x = r.extract 0 (i + 1) := ⟨_, rfl⟩
      obtain ⟨W2, hW2⟩ : ∃ W2, W2 = (w1.setCell ⟨xb, 0, none⟩ (.string r2)).drew := ⟨_, rfl⟩
      rw [← hr2, ← hx, ← hW2]
      have hJ2 : J k W2 := by rw [hW2]; exact HJd.out k _ 1 (HJs.out k _ _ hJ.out)
      have c2 : W2.cell? ⟨xb, 0, none⟩ = some (.string r2) := by rw [hW2]; exact World.cell?_setCell_same' _ _ _ (by rw [hc1]; rfl)
      have f2 : W2.frozen? ⟨xb, 0, none⟩ = false := by
        rw [hW2]
        show (w1.setCell ⟨xb, 0, none⟩ (.string r2)).frozen? ⟨xb, 0, none⟩ = false
        rw [World.frozen?_setCell]; exact hf1
      have er2 : r2 = s.extract (f + i + 1) s.size := by
        rw [hr2, HR.out]; exact ext_tail s f i (by have := HRS.out; omega)
      have ex : x = s.extract f (f + i + 1) := by
        rw [hx, HR.out]; exact ext_head s f i (by have := HRS.out; omega)
      have hV : LineV s k x := by
        refine ⟨?_, by rw [ex, ByteArray.size_extract]; omega⟩
        rw [ex, HST.out.2.1]
        exact trim_yes s f i (by have := HRS.out; omega) (by
          have := HBY.out
          rw [HR.out, by_ext s f s.size i (by have := HRS.out; omega) (Nat.le_refl _)] at this; exact this)
      obtain ⟨fn, tmps, assign, body, hy, hR⟩ := hY k x W2 hJ2 HST.out.1 hV
      have HE : Hid (r2 = s.extract (f + i + 1) s.size ∧ r2.size < r.size ∧ lenIn w1 xb = r.size) := Lib.hid ⟨er2, by rw [hr2, ByteArray.size_extract]; omega, lenIn_eq hc1⟩
      clear hr2 hx hW2 er2 ex hV hc1 hf1 hJ hc hf
      gi_wp2
      refine hR.mono ?_
      rintro e W3 (⟨rfl, hJ3, hk3⟩ | ⟨rfl, hlt3, hJx3⟩)
      · have c3 : W3.cell? ⟨xb, 0, none⟩ = some (.string r2) := (World.cell?_of_block (a := ⟨xb, 0, none⟩) hk3).trans c2
        have f3 : W3.frozen? ⟨xb, 0, none⟩ = false := (World.frozen?_of_block (a := ⟨xb, 0, none⟩) hk3).trans f2
        gi_wp2
        go_roundw
        case rel => exact ⟨r2, k + 1, Or.inl ⟨f + i + 1, HST.out.2.2, HE.out.1⟩, c3, f3, hJ3⟩
        case measure => rw [lenIn_eq c3, HE.out.2.2]; exact HE.out.2.1
      · gi_wp2
        refine bodyPost_ret (results_none rfl _ _ _) rfl ?_
        exact ⟨⟨_, rfl⟩, .inr ⟨k, hlt3, hJx3⟩⟩
    · have HST : Hid ((linesOf s).length = k + 1 ∧ lineAt s k = s.extract f s.size) := Lib.hid (at_last hA.out hfl (fun j h1 h2 => by
          have := hm (j - f) (by omega)
          rw [hr, by_ext s f s.size (j - f) (by omega) (Nat.le_refl _), show f + (j - f) = j by omega] at this; exact this))
      have HNO : Hid (∀ j, f ≤ j → j < s.size → by_ s j ≠ 10) := Lib.hid (fun j h1 h2 => by
          have := hm (j - f) (by omega)
          rw [hr, by_ext s f s.size (j - f) (by omega) (Nat.le_refl _), show f + (j - f) = j by omega] at this; exact this)
      have CI : Hid (Calls Tryd.prog 24 #[.string r, .int .u8 10] wr fun e w' => e = .returned (.int .i64 (-1)) ∧ w' = wr) := Lib.hid (by
        have h := Tryd.strings_IndexByte r 10 wr
        have e : Lib.indexByte r.data.toList 10 = -1 := idxB_none (fun j hx => hm j (bl_out hx) ((bl_at (bl_out hx)).1 hx))
        have e2 : (10 : Int).toNat.toUInt8 = 10 := rfl
        rw [e2, e] at h
        exact h)
      have HR : Hid (r = s.extract f s.size) := hr
      have HRS : Hid (r.size = s.size - f) := hrs
      clear hr hm hz hrs
      have hn1 : 1 ≤ n := by omega
      gi_wp2_with fail
      refine ⟨trivial, (callsIn_wide.2 CI.out).mono ?_⟩
      rintro e w1 ⟨rfl, rfl⟩
      have hJ2 : J k (w1.setCell ⟨xb, 0, none⟩ (.string ⟨#[]⟩)) := HJs.out k _ _ hJ.out
      have c2 : (w1.setCell ⟨xb, 0, none⟩ (.string ⟨#[]⟩)).cell? ⟨xb, 0, none⟩ = some (.string ⟨#[]⟩) := World.cell?_setCell_same' _ _ _ (by rw [hc1]; rfl)
      have f2 : (w1.setCell ⟨xb, 0, none⟩ (.string ⟨#[]⟩)).frozen? ⟨xb, 0, none⟩ = false := by rw [World.frozen?_setCell]; exact hf1
      have hV : LineV s k r := by
        refine ⟨?_, by have := HRS.out; omega⟩
        rw [HST.out.2, HR.out]
        exact trim_no s f HNO.out
      obtain ⟨fn, tmps, assign, body, hy, hR⟩ := hY k r _ hJ2 (by rw [HST.out.1]; omega) hV
      have HE : Hid (lenIn w1 xb = r.size ∧ 0 < r.size) := Lib.hid ⟨lenIn_eq hc1, hrp⟩
      clear hV hJ hc hf
      gi_wp2
      refine hR.mono ?_
      rintro e W3 (⟨rfl, hJ3, hk3⟩ | ⟨rfl, hlt3, hJx3⟩)
      · have c3 : W3.cell? ⟨xb, 0, none⟩ = some (.string ⟨#[]⟩) := (World.cell?_of_block (a := ⟨xb, 0, none⟩) hk3).trans c2
        have f3 : W3.frozen? ⟨xb, 0, none⟩ = false := (World.frozen?_of_block (a := ⟨xb, 0, none⟩) hk3).trans f2
        clear c2 f2 hk3 hc1 hf1
        gi_wp2
        go_roundw
        case rel => exact ⟨⟨#[]⟩, k + 1, Or.inr ⟨rfl, HST.out.1⟩, c3, f3, hJ3⟩
        case measure => rw [lenIn_eq c3, HE.out.1]; exact HE.out.2
      · gi_wp2
        refine bodyPost_ret (results_none rfl _ _ _) rfl ?_
        exact ⟨⟨_, rfl⟩, .inr ⟨k, hlt3, hJx3⟩⟩

end Go.Proofs.YthmihmnagnibmaaDoor
