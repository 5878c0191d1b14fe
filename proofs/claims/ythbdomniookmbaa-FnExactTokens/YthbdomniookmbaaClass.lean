/-
  The contracts of the program's classes of tokens.
-/
import Derived.Test.YthbdomniookmbaaNames2
import Derived.Test.YthbdomniookmbaaScan
import Derived.Lib.Bytealg
import Derived.Lib.IndexBytes
import Derived.Lib.IndexEntry
import Derived.Laws.Externs
import Derived.Laws.Strings3
namespace Go.Proofs.Ythbdomniookmbaa
open Go.RowKit

set_option maxHeartbeats 400000 in
theorem c19 (c : Int) (w : World) :
    Calls Try.prog 19 #[.int .u8 c] w fun e w' => e = .returned (.bool (dg c)) ∧ w' = w := by
  by_cases h1 : 48 ≤ c <;> by_cases h2 : c ≤ 57 <;>
  (go_enter Try.func19, Try.ntmps19
   go_wp2
   go_ret
   exact ⟨by simp [dg, h1, h2], rfl⟩)

theorem ret_int {a b : Int} (h : a = b) : Ending.returned (.int .i64 a) = .returned (.int .i64 b) := by rw [h]

theorem zero_one {t : ByteArray} (hp : 0 < t.size) (h : ((t[0]'hp).toNat : Int) = 48) : (t.toList == [48]) = decide (t.size = 1) := by
  have hl : t.toList.length = t.size := by rw [ByteArray.toList_eq]; rfl
  by_cases e : t.size = 1
  · rw [decide_eq_true e]
    have hh := head_at t hp
    rw [← ByteArray.toList_eq] at hh
    cases q : t.toList with
    | nil => rw [q] at hl; simp at hl; omega
    | cons a l =>
      rw [q] at hl hh
      simp only [List.length_cons] at hl
      have : l = [] := List.eq_nil_of_length_eq_zero (by omega)
      subst this
      simp only [List.headD_cons] at hh
      have : a = 48 := by
        rw [← UInt8.toNat_inj, hh]; simp only [UInt8.reduceToNat]; omega
      subst this; rfl
  · rw [decide_eq_false e, beq_eq_false_iff_ne]
    intro q
    rw [q] at hl
    simp at hl; omega

theorem num_at {t : ByteArray} (hp : 0 < t.size) : num t.toList = (dg ((t[0]'hp).toNat : Int) && !decide (9 < t.size ∨ ((t[0]'hp).toNat : Int) = 48 ∧ 1 < t.size)) := by
  have hl : t.toList.length = t.size := by rw [ByteArray.toList_eq]; rfl
  have hh := head_at t hp
  rw [← ByteArray.toList_eq] at hh
  unfold num
  rw [hh, hl]

set_option maxHeartbeats 1000000 in
theorem c42 (t : ByteArray) (w : World) (hp : 0 < t.size) (_hs : t.size ≤ 9223372036854775807) :
    Calls Try.prog 42 #[.string t] w fun e w' => e = .returned (.bool (num t.toList)) ∧ w' = w := by
  have HN : Hid (num t.toList = (dg ((t[0]'hp).toNat : Int) && !decide (9 < t.size ∨ ((t[0]'hp).toNat : Int) = 48 ∧ 1 < t.size))) := num_at hp
  cases hd : dg ((t[0]'hp).toNat : Int)
  · go_enter Try.func42, Try.ntmps42
    go_wp2_with (go_at_call 19; refine (c19 _ _).mono ?_; rintro e w' ⟨rfl, rfl⟩)
    go_ret
    exact ⟨ret_bool (by rw [HN.out, hd]; rfl), rfl⟩
  · by_cases h9 : t.size ≤ 9
    · by_cases h0 : ((t[0]'hp).toNat : Int) = 48
      · have hz := zero_one hp h0
        have hb : (((t[0]'hp).toNat : Int) != 48) = false := by rw [bne_eq_false_iff_eq]; exact h0
        have H0 : Hid (((t[0]'hp).toNat : Int) = 48) := h0
        have HZ : Hid ((t.toList == [48]) = decide (t.size = 1)) := hz
        clear h0 hz
        go_enter Try.func42, Try.ntmps42
        go_wp2_with (go_at_call 19; refine (c19 _ _).mono ?_; rintro e w' ⟨rfl, rfl⟩)
        go_ret
        refine ⟨ret_bool ?_, rfl⟩
        rw [HN.out, hd, HZ.out, Bool.true_and]
        by_cases q : t.size = 1
        · rw [decide_eq_true q, decide_eq_false (by omega)]; rfl
        · rw [decide_eq_false q, decide_eq_true (by have := H0.out; omega)]; rfl
      · have hb : (((t[0]'hp).toNat : Int) != 48) = true := by rw [bne_iff_ne]; exact h0
        have HF : Hid (num t.toList = true) := by
          show num t.toList = true
          rw [HN.out, hd, decide_eq_false (by omega)]; rfl
        clear h0
        go_enter Try.func42, Try.ntmps42
        go_wp2_with (go_at_call 19; refine (c19 _ _).mono ?_; rintro e w' ⟨rfl, rfl⟩)
        go_ret
        exact ⟨ret_bool HF.out.symm, rfl⟩
    · have HF : Hid (num t.toList = false) := by
        show num t.toList = false
        rw [HN.out, decide_eq_true (by omega)]; simp
      go_enter Try.func42, Try.ntmps42
      go_wp2_with (go_at_call 19; refine (c19 _ _).mono ?_; rintro e w' ⟨rfl, rfl⟩)
      go_ret
      exact ⟨ret_bool HF.out.symm, rfl⟩

set_option maxHeartbeats 1000000 in
theorem c53 (s : ByteArray) (c : Int) (w : World) :
    Calls Try.prog 53 #[.string s, .int .u8 c] w fun e w' => e = .returned (.int .i64 (Lib.indexByte s.data.toList c.toNat.toUInt8)) ∧ w' = w := by
  go_enter Try.func53, Try.ntmps53
  go_wp2
  rw [run_callFunc_extern Try.func57 (by kernel_rfl) (by kernel_rfl) (by kernel_rfl) (e := Extern.BytealgIndexByte.indexByte) (by kernel_rfl), Lib.run_indexByteString]
  simp only [Result.andThen]
  rw [Oper.upon_value]
  go_wp2
  go_ret
  exact ⟨rfl, rfl⟩


/-- The signs as a text. -/
def sgT : ByteArray := ⟨#[59, 58, 61, 63, 123, 125, 40, 41, 44, 46, 43, 60]⟩
theorem sgT_list : sgT.data.toList = sgs := rfl
theorem sgT_size : sgT.size = 12 := rfl

theorem no_sign {t : ByteArray} (hp : 0 < t.size) (h : sg ((t[0]'hp).toNat : Int) = false) : Lib.index sgs t.data.toList = -1 := by
  have hh := head_at t hp
  cases q : t.data.toList with
  | nil =>
    have hl : t.data.toList.length = t.size := rfl
    rw [q] at hl; simp at hl; omega
  | cons a l =>
    rw [q] at hh
    simp only [List.headD_cons] at hh
    have := not_in (b := a) (l := l) (by rw [hh]; exact h)
    unfold Lib.contains at this
    have h2 := Lib.index_ge sgs (a :: l)
    simp only [decide_eq_false_iff_not] at this
    omega

theorem no_byte {c : UInt8} (h : sg (c.toNat : Int) = false) (a b : Nat) : Lib.indexByte (sgT.extract a b).data.toList c = -1 := by
  have hb : ∀ x ∈ sgs, (x == c) = false := fun x hx => by
    rw [beq_eq_false_iff_ne]
    intro e; subst e
    revert h; revert hx
    simp only [sgs, List.mem_cons, List.not_mem_nil, or_false]
    rintro (rfl | rfl | rfl | rfl | rfl | rfl | rfl | rfl | rfl | rfl | rfl | rfl) <;> decide
  have hs : ∀ x ∈ (sgT.extract a b).data.toList, x ∈ sgs := fun x hx => by
    rw [ByteArray.data_extract, Array.toList_extract, List.extract_eq_take_drop] at hx
    exact List.mem_of_mem_drop (List.mem_of_mem_take hx)
  generalize (sgT.extract a b).data.toList = l at hs
  induction l with
  | nil => rfl
  | cons x l ih =>
    have h1 := hb x (hs x List.mem_cons_self)
    have h2 := ih (fun y hy => hs y (List.mem_cons_of_mem _ hy))
    unfold Lib.indexByte
    rw [h1, h2]; rfl

set_option maxHeartbeats 4000000 in
theorem c52 (t : ByteArray) (m : Int) (w : World) (hp : 0 < t.size) (hs : t.size ≤ 4294967280) (hm : w.cell? ⟨0, 0, none⟩ = some (.int .i64 m)) (hc : t.size = 1 ∨ sg ((t[0]'hp).toNat : Int) = false) :
    Calls Try.prog 52 #[.string sgT, .string t] w fun e w' => e = .returned (.int .i64 (Lib.index sgs t.data.toList)) ∧ w' = w := by
  have b0 : ((t.size : Int) == 0) = false := beq_eq_false_iff_ne.2 (by omega)
  by_cases h1 : t.size = 1
  · have H1 : Hid (Lib.index sgs t.data.toList = Lib.indexByte sgT.data.toList (t[0]'hp)) := by
      show _ = _
      have := Lib.one sgT t h1
      rw [Lib.byte_back] at this; exact this
    have b1 : ((t.size : Int) == 1) = true := beq_iff_eq.2 (by omega)
    have e1 : (t.toList == sgT.toList) = false := by
      rw [beq_eq_false_iff_ne]
      intro q
      have : t.toList.length = t.size := by rw [ByteArray.toList_eq]; rfl
      rw [q, h1] at this
      rw [ByteArray.toList_eq] at this
      cases this
    go_enter Try.func52, Try.ntmps52
    go_wp2_with (go_at_call 53; refine (c53 _ _ _).mono ?_; rintro e w' ⟨rfl, rfl⟩)
    go_ret
    exact ⟨ret_int H1.out.symm, rfl⟩
  have hc' : sg ((t[0]'hp).toNat : Int) = false := hc.resolve_left h1
  have H1 : Hid (Lib.index sgs t.data.toList = -1) := no_sign hp hc'
  have b1 : ((t.size : Int) == 1) = false := beq_eq_false_iff_ne.2 (by omega)
  have e1 : (t.toList == sgT.toList) = false := by
    rw [beq_eq_false_iff_ne]
    intro q
    have e0 := head_at t hp
    rw [← ByteArray.toList_eq, q] at e0
    have : (sgT.toList.headD 0) = 59 := by rw [ByteArray.toList_eq]; rfl
    rw [this] at e0
    rw [← e0] at hc'
    revert hc'; decide
  have hz : sgT.size = 12 := rfl
  by_cases h12 : 12 ≤ t.size
  · go_enter Try.func52, Try.ntmps52
    go_wp2
    go_ret
    exact ⟨ret_int H1.out.symm, rfl⟩
  by_cases hM : (t.size : Int) ≤ m
  · have hIS : (callFunc 54 #[.string sgT, .string t]).run Try.prog w = .ok (.value (.int .i64 (-1))) w := by
      rw [run_callFunc_extern Try.func54 (by kernel_rfl) (by kernel_rfl) (by kernel_rfl) (e := Extern.BytealgIndex.index) (by kernel_rfl), Lib.run_indexString sgT t w 0 m (by kernel_rfl) hm (by omega) hM (by rw [hz]; omega)]
      simp only [Result.andThen]
      rw [sgT_list, H1.out]
    go_enter Try.func52, Try.ntmps52
    go_wp2
    go_ret
    exact ⟨ret_int H1.out.symm, rfl⟩
  · have e0 : (((sgT[0]'(by rw [hz]; omega)).toNat : Int) != ((t[0]'hp).toNat : Int)) = true := by
      rw [bne_iff_ne]
      intro q
      rw [← q, show ((sgT[0]'(by rw [hz]; omega)).toNat : Int) = 59 from rfl] at hc'
      revert hc'; decide
    have HB : Hid (∀ a b : Nat, Lib.indexByte (sgT.extract a b).data.toList (((t[0]'hp).toNat : Int)).toNat.toUInt8 = -1) := fun a b => by
      rw [Lib.byte_back]
      exact no_byte hc' a b
    go_enter Try.func52, Try.ntmps52
    go_wp2_with (first | (go_at_call 53; refine (c53 _ _ _).mono ?_; rintro e w' ⟨rfl, rfl⟩))
    go_loop [8] (fun i => i = .int .i64 0) (fun _ => 0)
    case atStart => rfl
    case round =>
      subst hrel
      go_wp2_with (first | (go_at_call 53; refine (c53 _ _ _).mono ?_; rintro e w' ⟨rfl, rfl⟩; rw [HB.out]))
      go_ret
      exact ⟨ret_int H1.out.symm, rfl⟩


set_option maxHeartbeats 1000000 in
theorem c51 (t : ByteArray) (m : Int) (w : World) (hp : 0 < t.size) (hs : t.size ≤ 4294967280) (hm : w.cell? ⟨0, 0, none⟩ = some (.int .i64 m)) (hc : t.size = 1 ∨ sg ((t[0]'hp).toNat : Int) = false) :
    Calls Try.prog 51 #[.string sgT, .string t] w fun e w' => e = .returned (.int .i64 (Lib.index sgs t.data.toList)) ∧ w' = w := by
  go_enter Try.func51, Try.ntmps51
  go_wp2_with (go_at_call 52; refine (c52 t m _ hp hs hm hc).mono ?_; rintro e w' ⟨rfl, rfl⟩)
  go_ret
  exact ⟨rfl, rfl⟩

set_option maxHeartbeats 1000000 in
theorem c43 (t : ByteArray) (m : Int) (w : World) (hp : 0 < t.size) (hs : t.size ≤ 4294967280) (hm : w.cell? ⟨0, 0, none⟩ = some (.int .i64 m)) (hc : t.size = 1 ∨ sg ((t[0]'hp).toNat : Int) = false) :
    Calls Try.prog 43 #[.string sgT, .string t] w fun e w' => e = .returned (.bool (Lib.contains sgs t.toList)) ∧ w' = w := by
  have HL : Hid (t.toList = t.data.toList) := ByteArray.toList_eq t
  go_enter Try.func43, Try.ntmps43
  go_wp2_with (go_at_call 51; refine (c51 t m _ hp hs hm hc).mono ?_; rintro e w' ⟨rfl, rfl⟩)
  go_ret
  exact ⟨ret_bool (by rw [HL.out]; rfl), rfl⟩

theorem gn_list (t : ByteArray) : gn t = gnl t.toList := by rw [ByteArray.toList_eq]; rfl

set_option maxHeartbeats 2000000 in
theorem c33 (t : ByteArray) (m : Int) (w : World) (hp : 0 < t.size) (hs : t.size ≤ 4294967280) (hm : w.cell? ⟨0, 0, none⟩ = some (.int .i64 m)) (hc : t.size = 1 ∨ sg ((t[0]'hp).toNat : Int) = false) :
    Calls Try.prog 33 #[.string t] w fun e w' => e = .returned (.int .i64 (cls t.toList)) ∧ w' = w := by
  have HL : Hid (gn t = gnl t.toList) := gn_list t
  have HC : Hid (cls t.toList = if gnl t.toList then 1 else if rsv t.toList then 2 else if num t.toList then 3 else if t.toList == [45, 62] || Lib.contains sgs t.toList then 4 else 0) := rfl
  have HQ : Hid (t.size = 1 ∨ sg ((t[0]'hp).toNat : Int) = false) := hc
  clear hc
  cases h1 : gn t
  case true =>
    have HF : Hid (cls t.toList = 1) := by show _ = _; rw [HC.out, ← HL.out, h1]; rfl
    go_enter Try.func33, Try.ntmps33
    go_wp2_with (go_at_call 40; refine (c40 t _ (by omega)).mono ?_; rintro e w' ⟨rfl, rfl⟩)
    go_ret
    exact ⟨ret_int HF.out.symm, rfl⟩
  cases h2 : rsv t.toList
  case true =>
    have HF : Hid (cls t.toList = 2) := by show _ = _; rw [HC.out, ← HL.out, h1, h2]; rfl
    go_enter Try.func33, Try.ntmps33
    go_wp2_with (first | (go_at_call 40; refine (c40 t _ (by omega)).mono ?_; rintro e w' ⟨rfl, rfl⟩) | (go_at_call 41; refine (c41 t _).mono ?_; rintro e w' ⟨rfl, rfl⟩))
    go_ret
    exact ⟨ret_int HF.out.symm, rfl⟩
  cases h3 : num t.toList
  case true =>
    have HF : Hid (cls t.toList = 3) := by show _ = _; rw [HC.out, ← HL.out, h1, h2, h3]; rfl
    go_enter Try.func33, Try.ntmps33
    go_wp2_with (first | (go_at_call 40; refine (c40 t _ (by omega)).mono ?_; rintro e w' ⟨rfl, rfl⟩) | (go_at_call 41; refine (c41 t _).mono ?_; rintro e w' ⟨rfl, rfl⟩) | (go_at_call 42; refine (c42 t _ hp (by omega)).mono ?_; rintro e w' ⟨rfl, rfl⟩))
    go_ret
    exact ⟨ret_int HF.out.symm, rfl⟩
  cases h4 : (t.toList == [45, 62])
  case true =>
    have HF : Hid (cls t.toList = 4) := by show _ = _; rw [HC.out, ← HL.out, h1, h2, h3, h4]; rfl
    go_enter Try.func33, Try.ntmps33
    go_wp2_with (first | (go_at_call 40; refine (c40 t _ (by omega)).mono ?_; rintro e w' ⟨rfl, rfl⟩) | (go_at_call 41; refine (c41 t _).mono ?_; rintro e w' ⟨rfl, rfl⟩) | (go_at_call 42; refine (c42 t _ hp (by omega)).mono ?_; rintro e w' ⟨rfl, rfl⟩))
    go_ret
    exact ⟨ret_int HF.out.symm, rfl⟩
  cases h5 : Lib.contains sgs t.toList
  · have HF : Hid (cls t.toList = 0) := by show _ = _; rw [HC.out, ← HL.out, h1, h2, h3, h4, h5]; rfl
    go_enter Try.func33, Try.ntmps33
    go_wp2_with (first | (go_at_call 40; refine (c40 t _ (by omega)).mono ?_; rintro e w' ⟨rfl, rfl⟩) | (go_at_call 41; refine (c41 t _).mono ?_; rintro e w' ⟨rfl, rfl⟩) | (go_at_call 42; refine (c42 t _ hp (by omega)).mono ?_; rintro e w' ⟨rfl, rfl⟩) | (go_at_call 43; refine (c43 t m _ hp hs hm HQ.out).mono ?_; rintro e w' ⟨rfl, rfl⟩))
    go_ret
    exact ⟨ret_int HF.out.symm, rfl⟩
  · have HF : Hid (cls t.toList = 4) := by show _ = _; rw [HC.out, ← HL.out, h1, h2, h3, h4, h5]; rfl
    go_enter Try.func33, Try.ntmps33
    go_wp2_with (first | (go_at_call 40; refine (c40 t _ (by omega)).mono ?_; rintro e w' ⟨rfl, rfl⟩) | (go_at_call 41; refine (c41 t _).mono ?_; rintro e w' ⟨rfl, rfl⟩) | (go_at_call 42; refine (c42 t _ hp (by omega)).mono ?_; rintro e w' ⟨rfl, rfl⟩) | (go_at_call 43; refine (c43 t m _ hp hs hm HQ.out).mono ?_; rintro e w' ⟨rfl, rfl⟩))
    go_ret
    exact ⟨ret_int HF.out.symm, rfl⟩

end Go.Proofs.Ythbdomniookmbaa
