/-
  Merged for the claim: Class Fresh PbA.
-/
import Derived.Test.YtdjkgilohhjfoaaGreatDoorM02
import Derived.Test.YtdjkgilohhjfoaaGreatDoorM00
import Derived.Lib.Bytealg
import Derived.Lib.IndexBytes
import Derived.Lib.IndexEntry
import Derived.Laws.Externs
import Derived.Laws.Strings3
import Derived.Lib.UnsafeStr
import Derived.Lib.BufferWrite
import Derived.Laws.MakeOwn
import Derived.Deep.RegionHeld3
import Derived.Test.YtdjkgilohhjfoaaGreatDoorM01
namespace Go.Proofs.YtdjkgilohhjfoaaGreatDoor
open Go.RowKit

set_option maxRecDepth 100000 in
set_option maxHeartbeats 400000 in
theorem c19 (c : Int) (w : World) :
    Calls Tryz.prog 55 #[.int .u8 c] w fun e w' => e = .returned (.bool (dg c)) ∧ w' = w := by
  by_cases h1 : 48 ≤ c <;> by_cases h2 : c ≤ 57 <;>
  (go_enter Tryz.func55, Tryz.ntmps55
   go_wp2
   go_ret
   exact ⟨by simp [dg, h1, h2], rfl⟩)

theorem ret_int {a b : Int} (h : a = b) : Ending.returned (.int .i64 a) = .returned (.int .i64 b) := by rw [h]

theorem zero_one {t : ByteArray} (hp : 0 < t.size) (h : ((t[0]'hp).toNat : Int) = 48) : (t.toList == [48]) = decide (t.size = 1) := by
  have hl : t.toList.length = t.size := by rw [ByteArray.toList_eq]; rfl
  by_cases e : t.size = 1
  · rw [decide_eq_true e]
    have hh := head_at t hp
    rw [← ByteArray.toList_eq] at hh
    cases q : t.toList with
    | nil => rw [q] at hl; simp at hl; omega
    | cons a l =>
      rw [q] at hl hh
      simp only [List.length_cons] at hl
      have : l = [] := List.eq_nil_of_length_eq_zero (by omega)
      subst this
      simp only [List.headD_cons] at hh
      have : a = 48 := by
        rw [← UInt8.toNat_inj, hh]; simp only [UInt8.reduceToNat]; omega
      subst this; rfl
  · rw [decide_eq_false e, beq_eq_false_iff_ne]
    intro q
    rw [q] at hl
    simp at hl; omega

theorem num_at {t : ByteArray} (hp : 0 < t.size) : num t.toList = (dg ((t[0]'hp).toNat : Int) && !decide (9 < t.size ∨ ((t[0]'hp).toNat : Int) = 48 ∧ 1 < t.size)) := by
  have hl : t.toList.length = t.size := by rw [ByteArray.toList_eq]; rfl
  have hh := head_at t hp
  rw [← ByteArray.toList_eq] at hh
  unfold num
  rw [hh, hl]

set_option maxRecDepth 100000 in
set_option maxHeartbeats 1000000 in
theorem c42 (t : ByteArray) (w : World) (hp : 0 < t.size) (_hs : t.size ≤ 9223372036854775807) :
    Calls Tryz.prog 76 #[.string t] w fun e w' => e = .returned (.bool (num t.toList)) ∧ w' = w := by
  have HN : Hid (num t.toList = (dg ((t[0]'hp).toNat : Int) && !decide (9 < t.size ∨ ((t[0]'hp).toNat : Int) = 48 ∧ 1 < t.size))) := num_at hp
  cases hd : dg ((t[0]'hp).toNat : Int)
  · go_enter Tryz.func76, Tryz.ntmps76
    go_wp2_with (go_at_call 55; refine (c19 _ _).mono ?_; rintro e w' ⟨rfl, rfl⟩)
    go_ret
    exact ⟨ret_bool (by rw [HN.out, hd]; rfl), rfl⟩
  · by_cases h9 : t.size ≤ 9
    · by_cases h0 : ((t[0]'hp).toNat : Int) = 48
      · have hz := zero_one hp h0
        have hb : (((t[0]'hp).toNat : Int) != 48) = false := by rw [bne_eq_false_iff_eq]; exact h0
        have H0 : Hid (((t[0]'hp).toNat : Int) = 48) := h0
        have HZ : Hid ((t.toList == [48]) = decide (t.size = 1)) := hz
        clear h0 hz
        go_enter Tryz.func76, Tryz.ntmps76
        go_wp2_with (go_at_call 55; refine (c19 _ _).mono ?_; rintro e w' ⟨rfl, rfl⟩)
        go_ret
        refine ⟨ret_bool ?_, rfl⟩
        rw [HN.out, hd, HZ.out, Bool.true_and]
        by_cases q : t.size = 1
        · rw [decide_eq_true q, decide_eq_false (by omega)]; rfl
        · rw [decide_eq_false q, decide_eq_true (by have := H0.out; omega)]; rfl
      · have hb : (((t[0]'hp).toNat : Int) != 48) = true := by rw [bne_iff_ne]; exact h0
        have HF : Hid (num t.toList = true) := by
          show num t.toList = true
          rw [HN.out, hd, decide_eq_false (by omega)]; rfl
        clear h0
        go_enter Tryz.func76, Tryz.ntmps76
        go_wp2_with (go_at_call 55; refine (c19 _ _).mono ?_; rintro e w' ⟨rfl, rfl⟩)
        go_ret
        exact ⟨ret_bool HF.out.symm, rfl⟩
    · have HF : Hid (num t.toList = false) := by
        show num t.toList = false
        rw [HN.out, decide_eq_true (by omega)]; simp
      go_enter Tryz.func76, Tryz.ntmps76
      go_wp2_with (go_at_call 55; refine (c19 _ _).mono ?_; rintro e w' ⟨rfl, rfl⟩)
      go_ret
      exact ⟨ret_bool HF.out.symm, rfl⟩

set_option maxRecDepth 100000 in
set_option maxHeartbeats 1000000 in
theorem c53 (s : ByteArray) (c : Int) (w : World) :
    Calls Tryz.prog 94 #[.string s, .int .u8 c] w fun e w' => e = .returned (.int .i64 (Lib.indexByte s.data.toList c.toNat.toUInt8)) ∧ w' = w := by
  go_enter Tryz.func94, Tryz.ntmps94
  go_wp2
  rw [run_callFunc_extern Tryz.func100 (by kernel_rfl) (by kernel_rfl) (by kernel_rfl) (e := Extern.BytealgIndexByte.indexByte) (by kernel_rfl), Lib.run_indexByteString]
  simp only [Result.andThen]
  rw [Oper.upon_value]
  go_wp2
  go_ret
  exact ⟨rfl, rfl⟩


/-- The signs as a text. -/
def sgT : ByteArray := ⟨#[59, 58, 61, 63, 123, 125, 40, 41, 44, 46, 43, 60]⟩
theorem sgT_list : sgT.data.toList = sgs := rfl
theorem sgT_size : sgT.size = 12 := rfl

theorem no_sign {t : ByteArray} (hp : 0 < t.size) (h : sg ((t[0]'hp).toNat : Int) = false) : Lib.index sgs t.data.toList = -1 := by
  have hh := head_at t hp
  cases q : t.data.toList with
  | nil =>
    have hl : t.data.toList.length = t.size := rfl
    rw [q] at hl; simp at hl; omega
  | cons a l =>
    rw [q] at hh
    simp only [List.headD_cons] at hh
    have := not_in (b := a) (l := l) (by rw [hh]; exact h)
    unfold Lib.contains at this
    have h2 := Lib.index_ge sgs (a :: l)
    simp only [decide_eq_false_iff_not] at this
    omega

theorem no_byte {c : UInt8} (h : sg (c.toNat : Int) = false) (a b : Nat) : Lib.indexByte (sgT.extract a b).data.toList c = -1 := by
  have hb : ∀ x ∈ sgs, (x == c) = false := fun x hx => by
    rw [beq_eq_false_iff_ne]
    intro e; subst e
    revert h; revert hx
    simp only [sgs, List.mem_cons, List.not_mem_nil, or_false]
    rintro (rfl | rfl | rfl | rfl | rfl | rfl | rfl | rfl | rfl | rfl | rfl | rfl) <;> decide
  have hs : ∀ x ∈ (sgT.extract a b).data.toList, x ∈ sgs := fun x hx => by
    rw [ByteArray.data_extract, Array.toList_extract, List.extract_eq_take_drop] at hx
    exact List.mem_of_mem_drop (List.mem_of_mem_take hx)
  generalize (sgT.extract a b).data.toList = l at hs
  induction l with
  | nil => rfl
  | cons x l ih =>
    have h1 := hb x (hs x List.mem_cons_self)
    have h2 := ih (fun y hy => hs y (List.mem_cons_of_mem _ hy))
    unfold Lib.indexByte
    rw [h1, h2]; rfl

set_option maxRecDepth 100000 in
set_option maxHeartbeats 4000000 in
theorem c52 (t : ByteArray) (m : Int) (w : World) (hp : 0 < t.size) (hs : t.size ≤ 4294967280) (hm : w.cell? ⟨1, 0, none⟩ = some (.int .i64 m)) (hc : t.size = 1 ∨ sg ((t[0]'hp).toNat : Int) = false) :
    Calls Tryz.prog 90 #[.string sgT, .string t] w fun e w' => e = .returned (.int .i64 (Lib.index sgs t.data.toList)) ∧ w' = w := by
  have b0 : ((t.size : Int) == 0) = false := beq_eq_false_iff_ne.2 (by omega)
  by_cases h1 : t.size = 1
  · have H1 : Hid (Lib.index sgs t.data.toList = Lib.indexByte sgT.data.toList (t[0]'hp)) := by
      show _ = _
      have := Lib.one sgT t h1
      rw [Lib.byte_back] at this; exact this
    have b1 : ((t.size : Int) == 1) = true := beq_iff_eq.2 (by omega)
    have e1 : (t.toList == sgT.toList) = false := by
      rw [beq_eq_false_iff_ne]
      intro q
      have : t.toList.length = t.size := by rw [ByteArray.toList_eq]; rfl
      rw [q, h1] at this
      rw [ByteArray.toList_eq] at this
      cases this
    go_enter Tryz.func90, Tryz.ntmps90
    go_wp2_with (go_at_call 94; refine (c53 _ _ _).mono ?_; rintro e w' ⟨rfl, rfl⟩)
    go_ret
    exact ⟨ret_int H1.out.symm, rfl⟩
  have hc' : sg ((t[0]'hp).toNat : Int) = false := hc.resolve_left h1
  have H1 : Hid (Lib.index sgs t.data.toList = -1) := no_sign hp hc'
  have b1 : ((t.size : Int) == 1) = false := beq_eq_false_iff_ne.2 (by omega)
  have e1 : (t.toList == sgT.toList) = false := by
    rw [beq_eq_false_iff_ne]
    intro q
    have e0 := head_at t hp
    rw [← ByteArray.toList_eq, q] at e0
    have : (sgT.toList.headD 0) = 59 := by rw [ByteArray.toList_eq]; rfl
    rw [this] at e0
    rw [← e0] at hc'
    revert hc'; decide
  have hz : sgT.size = 12 := rfl
  by_cases h12 : 12 ≤ t.size
  · go_enter Tryz.func90, Tryz.ntmps90
    go_wp2
    go_ret
    exact ⟨ret_int H1.out.symm, rfl⟩
  by_cases hM : (t.size : Int) ≤ m
  · have hIS : (callFunc 95 #[.string sgT, .string t]).run Tryz.prog w = .ok (.value (.int .i64 (-1))) w := by
      rw [run_callFunc_extern Tryz.func95 (by kernel_rfl) (by kernel_rfl) (by kernel_rfl) (e := Extern.BytealgIndex.index) (by kernel_rfl), Lib.run_indexString sgT t w 1 m (by kernel_rfl) hm (by omega) hM (by rw [hz]; omega)]
      simp only [Result.andThen]
      rw [sgT_list, H1.out]
    go_enter Tryz.func90, Tryz.ntmps90
    go_wp2
    go_ret
    exact ⟨ret_int H1.out.symm, rfl⟩
  · have e0 : (((sgT[0]'(by rw [hz]; omega)).toNat : Int) != ((t[0]'hp).toNat : Int)) = true := by
      rw [bne_iff_ne]
      intro q
      rw [← q, show ((sgT[0]'(by rw [hz]; omega)).toNat : Int) = 59 from rfl] at hc'
      revert hc'; decide
    have HB : Hid (∀ a b : Nat, Lib.indexByte (sgT.extract a b).data.toList (((t[0]'hp).toNat : Int)).toNat.toUInt8 = -1) := fun a b => by
      rw [Lib.byte_back]
      exact no_byte hc' a b
    go_enter Tryz.func90, Tryz.ntmps90
    go_wp2_with (first | (go_at_call 94; refine (c53 _ _ _).mono ?_; rintro e w' ⟨rfl, rfl⟩))
    go_loop [8] (fun i => i = .int .i64 0) (fun _ => 0)
    case atStart => rfl
    case round =>
      subst hrel
      go_wp2_with (first | (go_at_call 94; refine (c53 _ _ _).mono ?_; rintro e w' ⟨rfl, rfl⟩; rw [HB.out]))
      go_ret
      exact ⟨ret_int H1.out.symm, rfl⟩


set_option maxRecDepth 100000 in
set_option maxHeartbeats 1000000 in
theorem c51 (t : ByteArray) (m : Int) (w : World) (hp : 0 < t.size) (hs : t.size ≤ 4294967280) (hm : w.cell? ⟨1, 0, none⟩ = some (.int .i64 m)) (hc : t.size = 1 ∨ sg ((t[0]'hp).toNat : Int) = false) :
    Calls Tryz.prog 84 #[.string sgT, .string t] w fun e w' => e = .returned (.int .i64 (Lib.index sgs t.data.toList)) ∧ w' = w := by
  go_enter Tryz.func84, Tryz.ntmps84
  go_wp2_with (go_at_call 90; refine (c52 t m _ hp hs hm hc).mono ?_; rintro e w' ⟨rfl, rfl⟩)
  go_ret
  exact ⟨rfl, rfl⟩

set_option maxRecDepth 100000 in
set_option maxHeartbeats 1000000 in
theorem c43 (t : ByteArray) (m : Int) (w : World) (hp : 0 < t.size) (hs : t.size ≤ 4294967280) (hm : w.cell? ⟨1, 0, none⟩ = some (.int .i64 m)) (hc : t.size = 1 ∨ sg ((t[0]'hp).toNat : Int) = false) :
    Calls Tryz.prog 77 #[.string sgT, .string t] w fun e w' => e = .returned (.bool (Lib.contains sgs t.toList)) ∧ w' = w := by
  have HL : Hid (t.toList = t.data.toList) := ByteArray.toList_eq t
  go_enter Tryz.func77, Tryz.ntmps77
  go_wp2_with (go_at_call 84; refine (c51 t m _ hp hs hm hc).mono ?_; rintro e w' ⟨rfl, rfl⟩)
  go_ret
  exact ⟨ret_bool (by rw [HL.out]; rfl), rfl⟩

theorem gn_list (t : ByteArray) : gn t = gnl t.toList := by rw [ByteArray.toList_eq]; rfl

set_option maxRecDepth 100000 in
set_option maxHeartbeats 2000000 in
theorem c33 (t : ByteArray) (m : Int) (w : World) (hp : 0 < t.size) (hs : t.size ≤ 4294967280) (hm : w.cell? ⟨1, 0, none⟩ = some (.int .i64 m)) (hc : t.size = 1 ∨ sg ((t[0]'hp).toNat : Int) = false) :
    Calls Tryz.prog 65 #[.string t] w fun e w' => e = .returned (.int .i64 (cls t.toList)) ∧ w' = w := by
  have HL : Hid (gn t = gnl t.toList) := gn_list t
  have HC : Hid (cls t.toList = if gnl t.toList then 1 else if rsv t.toList then 2 else if num t.toList then 3 else if t.toList == [45, 62] || Lib.contains sgs t.toList then 4 else 0) := rfl
  have HQ : Hid (t.size = 1 ∨ sg ((t[0]'hp).toNat : Int) = false) := hc
  clear hc
  cases h1 : gn t
  case true =>
    have HF : Hid (cls t.toList = 1) := by show _ = _; rw [HC.out, ← HL.out, h1]; rfl
    go_enter Tryz.func65, Tryz.ntmps65
    go_wp2_with (go_at_call 34; refine (c40 t _ (by omega)).mono ?_; rintro e w' ⟨rfl, rfl⟩)
    go_ret
    exact ⟨ret_int HF.out.symm, rfl⟩
  cases h2 : rsv t.toList
  case true =>
    have HF : Hid (cls t.toList = 2) := by show _ = _; rw [HC.out, ← HL.out, h1, h2]; rfl
    go_enter Tryz.func65, Tryz.ntmps65
    go_wp2_with (first | (go_at_call 34; refine (c40 t _ (by omega)).mono ?_; rintro e w' ⟨rfl, rfl⟩) | (go_at_call 47; refine (c41 t _).mono ?_; rintro e w' ⟨rfl, rfl⟩))
    go_ret
    exact ⟨ret_int HF.out.symm, rfl⟩
  cases h3 : num t.toList
  case true =>
    have HF : Hid (cls t.toList = 3) := by show _ = _; rw [HC.out, ← HL.out, h1, h2, h3]; rfl
    go_enter Tryz.func65, Tryz.ntmps65
    go_wp2_with (first | (go_at_call 34; refine (c40 t _ (by omega)).mono ?_; rintro e w' ⟨rfl, rfl⟩) | (go_at_call 47; refine (c41 t _).mono ?_; rintro e w' ⟨rfl, rfl⟩) | (go_at_call 76; refine (c42 t _ hp (by omega)).mono ?_; rintro e w' ⟨rfl, rfl⟩))
    go_ret
    exact ⟨ret_int HF.out.symm, rfl⟩
  cases h4 : (t.toList == [45, 62])
  case true =>
    have HF : Hid (cls t.toList = 4) := by show _ = _; rw [HC.out, ← HL.out, h1, h2, h3, h4]; rfl
    go_enter Tryz.func65, Tryz.ntmps65
    go_wp2_with (first | (go_at_call 34; refine (c40 t _ (by omega)).mono ?_; rintro e w' ⟨rfl, rfl⟩) | (go_at_call 47; refine (c41 t _).mono ?_; rintro e w' ⟨rfl, rfl⟩) | (go_at_call 76; refine (c42 t _ hp (by omega)).mono ?_; rintro e w' ⟨rfl, rfl⟩))
    go_ret
    exact ⟨ret_int HF.out.symm, rfl⟩
  cases h5 : Lib.contains sgs t.toList
  · have HF : Hid (cls t.toList = 0) := by show _ = _; rw [HC.out, ← HL.out, h1, h2, h3, h4, h5]; rfl
    go_enter Tryz.func65, Tryz.ntmps65
    go_wp2_with (first | (go_at_call 34; refine (c40 t _ (by omega)).mono ?_; rintro e w' ⟨rfl, rfl⟩) | (go_at_call 47; refine (c41 t _).mono ?_; rintro e w' ⟨rfl, rfl⟩) | (go_at_call 76; refine (c42 t _ hp (by omega)).mono ?_; rintro e w' ⟨rfl, rfl⟩) | (go_at_call 77; refine (c43 t m _ hp hs hm HQ.out).mono ?_; rintro e w' ⟨rfl, rfl⟩))
    go_ret
    exact ⟨ret_int HF.out.symm, rfl⟩
  · have HF : Hid (cls t.toList = 4) := by show _ = _; rw [HC.out, ← HL.out, h1, h2, h3, h4, h5]; rfl
    go_enter Tryz.func65, Tryz.ntmps65
    go_wp2_with (first | (go_at_call 34; refine (c40 t _ (by omega)).mono ?_; rintro e w' ⟨rfl, rfl⟩) | (go_at_call 47; refine (c41 t _).mono ?_; rintro e w' ⟨rfl, rfl⟩) | (go_at_call 76; refine (c42 t _ hp (by omega)).mono ?_; rintro e w' ⟨rfl, rfl⟩) | (go_at_call 77; refine (c43 t m _ hp hs hm HQ.out).mono ?_; rintro e w' ⟨rfl, rfl⟩))
    go_ret
    exact ⟨ret_int HF.out.symm, rfl⟩

end Go.Proofs.YtdjkgilohhjfoaaGreatDoor

namespace Go.Proofs.YtdjkgilohhjfoaaGreatDoor
open Go.RowKit

theorem Tryz.info5 : (Tryz.prog.info? 5).map (fun i => (i.zero, i.size, i.bytes)) = some (some (.int .u8 0), 1, 1) := by kernel_rfl

set_option maxRecDepth 100000 in
set_option maxHeartbeats 4000000 in
theorem c44 (s : ByteArray) (w : World) (hp : 0 < s.size) (hs : s.size ≤ 1048576) :
    Calls Tryz.prog 35 #[.string s] w fun e w' => e = .returned (.string s) ∧ Below w.heap.size w w' := by
  obtain ⟨i0, hi, hz0, hz1, hz2⟩ := info_parts Tryz.info5
  have hsz : (Tryz.prog.info? 5).map (·.size) = some 1 := by rw [hi]; simp [hz1]
  have hone : Tryz.prog.cellsOf 5 = 1 := by simp [Program.cellsOf, hi, hz1]
  have hlen : s.data.toList.length = s.size := rfl
  obtain ⟨M, hM⟩ : ∃ M, M = madeCells (Value.int .u8 0).cells (((s.size : Nat) : Int).toNat * i0.size) := ⟨_, rfl⟩
  have hMs : M.size = s.size := by rw [hM, size_madeCells, hz1]; simp
  have hmk : ∀ W : World, (Instr.makeSlice 79 (.int .i64 (s.size : Int)) (.int .i64 (s.size : Int))).run Tryz.prog W = .ok (.slice (some ⟨W.heap.size, 0, none⟩) s.size s.size) (W.alloc (.cells M 5)) := fun W => by
    have h := run_make (P := Tryz.prog) W 79 5 i0 (.int .u8 0) Tryz.underlying79 hi hz0 .i64 .i64 (s.size : Int) (s.size : Int) (by omega) (by omega) (by rw [hz2]; omega) (by omega)
    rw [← hM] at h
    simpa using h
  clear hM
  have hcp := Lib.run_copy_row_string (P := Tryz.prog) (w.alloc (.cells M 5)) 79 9 3 5 w.heap.size 0 s.size s.size s M 5 Tryz.underlying79 hsz (heap_alloc_new w _) (Nat.le_refl _) (by omega)
  obtain ⟨Y, hY⟩ : ∃ Y, Y = (M.toList.take 0 ++ Lib.byteCells s.data.toList ++ M.toList.drop (0 + s.size)).toArray := ⟨_, rfl⟩
  rw [← hY] at hcp
  have hYl : Y.toList = Lib.byteCells s.data.toList := by
    rw [hY, List.toList_toArray, List.take_zero, List.nil_append, List.drop_of_length_le (by rw [Array.length_toList]; omega), List.append_nil]
  have hYs : Y.size = s.size := by rw [← Array.length_toList, hYl, Lib.byteCells_length, hlen]
  have hgY : ((w.alloc (.cells M 5)).setRow w.heap.size Y).heap[w.heap.size]? = some (.cells Y 5 (0, 0)) := setRow_heap _ _ M _ 5 (0, 0) (heap_alloc_new w _)
  have hUS := Lib.run_unsafeString_row (P := Tryz.prog) ((w.alloc (.cells M 5)).setRow w.heap.size Y) 84 3 9 5 Tryz.underlying84 hone w.heap.size Y.size (by unfold World.shape?; rw [hgY]) s.data.toList (fun e => by rw [e] at hlen; simp at hlen; omega) (by omega) (by omega)
    (fun j x hx => Lib.cells_of_row hgY Y.size j _ (by rw [List.take_of_length_le (by rw [Array.length_toList]; exact Nat.le_refl _), hYl]; simp [Lib.byteCells, hx]))
  rw [hlen] at hUS
  have b0 : ((s.size : Int) == 0) = false := beq_eq_false_iff_ne.2 (by omega)
  clear hY
  go_enter Tryz.func35, Tryz.ntmps35
  go_wp2
  go_ret
  have hb : Below w.heap.size (w.alloc (.cells M 5)) ((w.alloc (.cells M 5)).setRow w.heap.size Y) := ⟨rfl, rfl, rfl, by simp, fun k hk => setRow_other _ _ _ _ (by omega)⟩
  exact ⟨rfl, Lib.below_freeze ((bel1 w _).trans hb) (p := ⟨w.heap.size, 0, none⟩) (Nat.le_refl _) _⟩

set_option maxRecDepth 100000 in
set_option maxHeartbeats 1000000 in
theorem c34 (s : ByteArray) (w : World) (hp : 0 < s.size) (hs : s.size ≤ 1048576) :
    Calls Tryz.prog 22 #[.string s] w fun e w' => e = .returned (.string s) ∧ Below w.heap.size w w' := by
  go_enter Tryz.func22, Tryz.ntmps22
  go_wp2_with (go_at_call 35; refine (c44 s _ hp hs).mono ?_; rintro e w' ⟨rfl, hb⟩)
  go_ret
  exact ⟨rfl, hb⟩

/-- Three values by their place. -/
def v3 (a b c : Value) : Nat → Value := fun i => if i = 0 then a else if i = 1 then b else c
theorem row3 (w : World) (a b c : Value) (t : TypeId) : (w.alloc (.cells #[a, b, c] t)).rowIs w.heap.size t 3 (v3 a b c) :=
  World.rowIs_alloc w #[a, b, c] t _ (fun i hi => by
    match i, hi with
    | 0, _ => rfl
    | 1, _ => rfl
    | 2, _ => rfl)

/-- The library's number stays where it is. -/
theorem max_below {w w' : World} {m : Int} (h : w.cell? ⟨1, 0, none⟩ = some (.int .i64 m)) (hb : Below w.heap.size w w') : w'.cell? ⟨1, 0, none⟩ = some (.int .i64 m) := by
  rw [hb.cell (p := ⟨1, 0, none⟩) (World.block_lt_of_cell? _ _ h)]; exact h

set_option maxRecDepth 100000 in
set_option maxHeartbeats 2000000 in
theorem c21 (t : ByteArray) (k : Nat) (m : Int) (w : World) (hp : 0 < t.size) (hs : t.size ≤ 1048576) (hm : w.cell? ⟨1, 0, none⟩ = some (.int .i64 m)) (hc : t.size = 1 ∨ sg ((t[0]'hp).toNat : Int) = false) :
    Calls Tryz.prog 56 #[.string t, .int .i64 (k : Int)] w fun e w' => e = .returned (.agg #[.int .i64 (cls t.toList), .string t, .int .i64 (k : Int)]) ∧ Below w.heap.size w w' := by
  have HM : Hid (∀ w', Below w.heap.size w w' → w'.cell? ⟨1, 0, none⟩ = some (.int .i64 m)) := fun w' hb => max_below hm hb
  clear hm
  go_enter Tryz.func56, Tryz.ntmps56
  go_wp2_with fail
  refine (c33 t m _ hp (by omega) (HM.out _ (bel1 _ _)) hc).mono ?_
  rintro e w' ⟨rfl, rfl⟩
  go_wp2_with fail
  refine (c34 t _ hp hs).mono ?_
  rintro e w1 ⟨rfl, hb⟩
  have r1 := (row3 w (.int .i64 0) (.string ⟨#[]⟩) (.int .i64 0) 89).of_block (hb.block _ (by simp))
  have B1 := (bel1 w _).trans (hb.mono (by simp))
  have k0 := r1.cell (i := 0) (by omega)
  have k1 := r1.cell (i := 1) (by omega)
  have k2 := r1.cell (i := 2) (by omega)
  have f0 := r1.frozen 0
  have f1 := r1.frozen 1
  have f2 := r1.frozen 2
  have hB := ((B1.setCell (p := ⟨w.heap.size, 0, none⟩) (Nat.le_refl _) (.int .i64 (cls t.toList))).setCell (p := ⟨w.heap.size, 1, none⟩) (Nat.le_refl _) (.string t)).setCell (p := ⟨w.heap.size, 2, none⟩) (Nat.le_refl _) (.int .i64 (k : Int))
  have r2 := ((r1.set 0 (.int .i64 (cls t.toList))).set 1 (.string t)).set 2 (.int .i64 (k : Int))
  have z0 := r2.cell (i := 0) (by omega)
  have z1 := r2.cell (i := 1) (by omega)
  have z2 := r2.cell (i := 2) (by omega)
  clear hb r1 r2 HM
  go_wp2
  exact bodyPost_ret (v := .agg #[.int .i64 (cls t.toList), .string t, .int .i64 (k : Int)]) (by simp [results, Tryz.results56, go_sem, z0, z1, z2]) rfl ⟨rfl, hB⟩

end Go.Proofs.YtdjkgilohhjfoaaGreatDoor

namespace Go.Proofs.YtdjkgilohhjfoaaGreatDoor
open Go.RowKit

def tkA (l : List TK) (i : Nat) : TK := l.getD i ⟨0, ByteArray.empty, 0⟩

/-- Nothing but these blocks has changed. -/
structure But (S : List Nat) (w w' : World) : Prop where
  os : w'.os = w.os
  tape : w'.tape = w.tape
  output : w'.output = w.output
  size : w.heap.size ≤ w'.heap.size
  block : ∀ k, k < w.heap.size → k ∉ S → w'.heap[k]? = w.heap[k]?
theorem But.refl (S : List Nat) (w : World) : But S w w := ⟨rfl, rfl, rfl, Nat.le_refl _, fun _ _ _ => rfl⟩
theorem But.trans {S S' : List Nat} {w w1 w2 : World} (h : But S w w1) (h' : But S' w1 w2) (hs : ∀ k, k ∈ S' → k < w.heap.size → k ∈ S) : But S w w2 :=
  ⟨h'.os.trans h.os, h'.tape.trans h.tape, h'.output.trans h.output, Nat.le_trans h.size h'.size, fun k hk hn => (h'.block k (Nat.lt_of_lt_of_le hk h.size) (fun z => hn (hs k z hk))).trans (h.block k hk hn)⟩
theorem But.then_ {S : List Nat} {w w1 w2 : World} (h : But S w w1) (h' : But S w1 w2) : But S w w2 := h.trans h' (fun _ z _ => z)
theorem But.below {S : List Nat} {w w1 w2 : World} (h : But S w w1) (hb : Below w1.heap.size w1 w2) : But S w w2 :=
  ⟨hb.os.trans h.os, hb.tape.trans h.tape, hb.output.trans h.output, Nat.le_trans h.size hb.size, fun k hk hn => (hb.block k (Nat.lt_of_lt_of_le hk h.size)).trans (h.block k hk hn)⟩
theorem But.set {S : List Nat} {w w1 : World} (h : But S w w1) {b : Nat} (hb : b < w.heap.size → b ∈ S) (o : Nat) (v : Value) : But S w (w1.setCell ⟨b, o, none⟩ v) :=
  ⟨h.os, h.tape, h.output, by rw [World.size_setCell]; exact h.size, fun k hk hn => (Below.heap_setCell _ _ _ _ (by show k ≠ b; rintro rfl; exact hn (hb hk))).trans (h.block k hk hn)⟩
theorem But.alloc {S : List Nat} {w w1 : World} (h : But S w w1) (o : Obj) : But S w (w1.alloc o) := h.below (bel1 _ _)
theorem But.more {S S' : List Nat} {w w1 : World} (h : But S w w1) (hs : ∀ k, k ∈ S → k ∈ S') : But S' w w1 := ⟨h.os, h.tape, h.output, h.size, fun k hk hn => h.block k hk (fun z => hn (hs k z))⟩
theorem But.cell {S : List Nat} {w w1 : World} (h : But S w w1) {b o : Nat} {v : Value} (hc : w.cell? ⟨b, o, none⟩ = some v) (hb : b ∉ S) : w1.cell? ⟨b, o, none⟩ = some v :=
  (World.cell?_of_block (h.block b (World.block_lt_of_cell? _ _ hc) hb)).trans hc

/-- Tokens in memory. -/
structure TkAt (w : World) (tb o : Nat) (ts : List TK) : Prop where
  c0 : ∀ j, j < ts.length → w.cell? ⟨tb, o + j * 3, none⟩ = some (.int .i64 (tkA ts j).cls)
  c1 : ∀ j, j < ts.length → w.cell? ⟨tb, o + j * 3 + 1, none⟩ = some (.string (tkA ts j).txt)
  c2 : ∀ j, j < ts.length → w.cell? ⟨tb, o + j * 3 + 2, none⟩ = some (.int .i64 ((tkA ts j).loc : Int))
  len : ts.length ≤ 1000
  sz : ∀ j, j < ts.length → (tkA ts j).txt.size ≤ 1000
  gd : ∀ j, j < ts.length → (tkA ts j).cls = cls (tkA ts j).txt.toList
theorem TkAt.but {S : List Nat} {w w1 : World} {tb o : Nat} {ts : List TK} (h : TkAt w tb o ts) (hb : But S w w1) (hn : tb ∉ S) : TkAt w1 tb o ts :=
  ⟨fun j hj => hb.cell (h.c0 j hj) hn, fun j hj => hb.cell (h.c1 j hj) hn, fun j hj => hb.cell (h.c2 j hj) hn, h.len, h.sz, h.gd⟩

/-- The parser stands at token i. -/
structure PsAt (w : World) (P tb o i : Nat) (ts : List TK) (eT : TypeId) (eV : Value) : Prop where
  box : ∃ ao c, w.rowIs P 100 1 (fun _ => .slice ao (ts.length - i) c) ∧ (i < ts.length → ao = some ⟨tb, o + i * 3, none⟩) ∧ ts.length - i ≤ c
  le : i ≤ ts.length
  tk : TkAt w tb o ts
  ne : P ≠ tb
  pos : P ≠ 0
  ev : w.cell? ⟨0, 0, none⟩ = some (.iface eT eV)

theorem PsAt.but {S : List Nat} {w w1 : World} {P tb o i : Nat} {ts : List TK} {eT : TypeId} {eV : Value} (h : PsAt w P tb o i ts eT eV) (hb : But S w w1) (hP : P ∉ S) (ht : tb ∉ S) (h0 : 0 ∉ S) : PsAt w1 P tb o i ts eT eV := by
  obtain ⟨ao, c, hr, r⟩ := h.box
  exact ⟨⟨ao, c, hr.of_block (hb.block P hr.lt hP), r⟩, h.le, h.tk.but hb ht, h.ne, h.pos, hb.cell h.ev h0⟩

/-- The parser's box is written, and it stands at another token. -/
theorem PsAt.step {w w1 : World} {P tb o i j : Nat} {ts : List TK} {eT : TypeId} {eV : Value} (h : PsAt w P tb o i ts eT eV) (hb : But [P] w w1) (hP : w1.heap[P]? = w.heap[P]?) {ao : Option Addr} {c : Nat} (hj : j ≤ ts.length) (ha : j < ts.length → ao = some ⟨tb, o + j * 3, none⟩) (hc : ts.length - j ≤ c) :
    PsAt (w1.setCell ⟨P, 0, none⟩ (.slice ao (ts.length - j) c)) P tb o j ts eT eV := by
  obtain ⟨ao', c', hr, _⟩ := h.box
  have hr1 := hr.of_block hP
  have hb2 : But [P] w (w1.setCell ⟨P, 0, none⟩ (.slice ao (ts.length - j) c)) := hb.set (fun _ => by simp) 0 _
  refine ⟨⟨ao, c, (hr1.set 0 _).congr (fun k hk => by
    match k, hk with
    | 0, _ => rfl), ha, hc⟩, hj, h.tk.but hb2 (by simp; exact fun e => h.ne e.symm), h.ne, h.pos, hb2.cell h.ev (by simp; exact fun e => h.pos e.symm)⟩

def tkV (t : TK) : Value := .agg #[.int .i64 t.cls, .string t.txt, .int .i64 (t.loc : Int)]

set_option maxRecDepth 100000 in
set_option maxHeartbeats 1000000 in
theorem p_next {P tb o i : Nat} {ts : List TK} {eT : TypeId} {eV : Value} (w : World) (h : PsAt w P tb o i ts eT eV) (hi : i < ts.length) :
    Calls Tryz.prog 66 #[.pointer (some ⟨P, 0, none⟩)] w fun e w' => e = .returned (tkV (tkA ts i)) ∧ PsAt w' P tb o (i + 1) ts eT eV ∧ But [P] w w' := by
  have HP : Hid (PsAt w P tb o i ts eT eV) := h
  obtain ⟨ao, c, hr, ha, hc⟩ := h.box
  have ea := ha hi
  subst ea
  have t0 := h.tk.c0 i hi
  have t1 := h.tk.c1 i hi
  have t2 := h.tk.c2 i hi
  have hl := h.tk.len
  obtain ⟨m, hm⟩ : ∃ m, m = ts.length - i := ⟨_, rfl⟩
  have HM : Hid (m = ts.length - i) := hm
  rw [← hm] at hr hc
  have hb := hr.cell (i := 0) (by omega)
  have hf := hr.frozen 0
  have hm0 : 0 < m := by omega
  have qm : ((m : Int) == 0) = false := beq_eq_false_iff_ne.2 (by omega)
  have tb1 := World.block_lt_of_cell? _ _ t0
  have lP := hr.lt
  obtain ⟨k0, hk0⟩ : ∃ k, k = (tkA ts i).cls := ⟨_, rfl⟩
  obtain ⟨k1, hk1⟩ : ∃ k, k = (tkA ts i).txt := ⟨_, rfl⟩
  obtain ⟨k2, hk2⟩ : ∃ k, k = ((tkA ts i).loc : Int) := ⟨_, rfl⟩
  have HV : Hid (tkV (tkA ts i) = .agg #[.int .i64 k0, .string k1, .int .i64 k2]) := by show tkV _ = _; rw [hk0, hk1, hk2]; rfl
  rw [← hk0] at t0
  rw [← hk1] at t1
  rw [← hk2] at t2
  have BA := bel1 w (.cells #[.int .i64 0, .string ⟨#[]⟩, .int .i64 0] 89)
  have a0 := (BA.cell (p := ⟨tb, o + i * 3, none⟩) tb1).trans t0
  have a1 := (BA.cell (p := ⟨tb, o + i * 3 + 1, none⟩) tb1).trans t1
  have a2 := (BA.cell (p := ⟨tb, o + i * 3 + 2, none⟩) tb1).trans t2
  have ab := (BA.cell (p := ⟨P, 0, none⟩) lP).trans hb
  have RB : ((w.alloc (.cells #[.int .i64 0, .string ⟨#[]⟩, .int .i64 0] 89)).alloc (.cells #[.int .i64 k0, .string k1, .int .i64 k2] 89)).rowIs P 100 1 (fun _ => .slice (some ⟨tb, o + i * 3, none⟩) m c) := (hr.alloc _).alloc _
  have bb := RB.cell (i := 0) (by omega)
  have bf := RB.frozen 0
  clear h ha hm hk0 hk1 hk2 BA RB hr t0 t1 t2 hb hf
  go_enter Tryz.func66, Tryz.ntmps66
  have EQ : Hid (ts.length - (i + 1) = m - 1) := by show _ = _; rw [HM.out]; omega
  have FIN : Hid (∀ (ao : Option Addr) (c' : Nat) (x y : Obj), (i + 1 < ts.length → ao = some ⟨tb, o + i * 3 + 3, none⟩) → m - 1 ≤ c' → PsAt (((w.setCell ⟨P, 0, none⟩ (.slice ao (m - 1) c')).alloc x).alloc y) P tb o (i + 1) ts eT eV ∧ But [P] w (((w.setCell ⟨P, 0, none⟩ (.slice ao (m - 1) c')).alloc x).alloc y)) := fun ao c' x y h1 h2 => by
    have hs := HP.out.step (But.refl [P] w) rfl (ao := ao) (c := c') (j := i + 1) (by omega) (fun z => by rw [h1 z]; congr 2; omega) (by rw [EQ.out]; exact h2)
    rw [EQ.out] at hs
    have hb1 : But [P] w (w.setCell ⟨P, 0, none⟩ (.slice ao (m - 1) c')) := (But.refl [P] w).set (fun _ => by simp) 0 _
    have hb2 : But ([] : List Nat) (w.setCell ⟨P, 0, none⟩ (.slice ao (m - 1) c')) (((w.setCell ⟨P, 0, none⟩ (.slice ao (m - 1) c')).alloc x).alloc y) := ((But.refl [] _).alloc x).alloc y
    exact ⟨hs.but hb2 (by simp) (by simp) (by simp), hb1.trans hb2 (fun _ z => by simp at z)⟩
  go_wp2
  case inr =>
    exact bodyPost_ret (v := .agg #[.int .i64 k0, .string k1, .int .i64 k2]) (by simp [results, Tryz.results66, go_sem]) rfl ⟨by rw [HV.out], FIN.out _ _ _ _ (fun _ => rfl) (by omega)⟩
  case inl =>
    exact bodyPost_ret (v := .agg #[.int .i64 k0, .string k1, .int .i64 k2]) (by simp [results, Tryz.results66, go_sem]) rfl ⟨by rw [HV.out], FIN.out _ _ _ _ (fun z => by have := HM.out; omega) (by omega)⟩

set_option maxRecDepth 100000 in
set_option maxHeartbeats 1000000 in
theorem p_next_no {P tb o i : Nat} {ts : List TK} {eT : TypeId} {eV : Value} (w : World) (h : PsAt w P tb o i ts eT eV) (hi : ¬ i < ts.length) :
    Calls Tryz.prog 66 #[.pointer (some ⟨P, 0, none⟩)] w fun e w' => e = .panicked [{ v := .iface eT eV, recovered := false }] ∧ But [P] w w' := by
  obtain ⟨ao, c, hr, ha, hc⟩ := h.box
  have he : ts.length - i = 0 := by omega
  rw [he] at hr
  have RB := hr.alloc (.cells #[.int .i64 0, .string ⟨#[]⟩, .int .i64 0] 89)
  have bb := RB.cell (i := 0) (by omega)
  have be := ((bel1 w (.cells #[.int .i64 0, .string ⟨#[]⟩, .int .i64 0] 89)).cell (p := ⟨0, 0, none⟩) (World.block_lt_of_cell? _ _ h.ev)).trans h.ev
  have HB : Hid (But [P] w (w.alloc (.cells #[.int .i64 0, .string ⟨#[]⟩, .int .i64 0] 89))) := (But.refl _ _).alloc _
  clear h ha hc he RB hr
  go_enter Tryz.func66, Tryz.ntmps66
  go_wp2
  exact ⟨rfl, rfl, HB.out⟩

end Go.Proofs.YtdjkgilohhjfoaaGreatDoor

