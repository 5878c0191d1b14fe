/-
  Merged for the claim: Mem2 Words Names Names2 Class Fresh.
-/
import Derived.Test.YtcehppndpccldaaGreatDoorProg
import Derived.Test.YtcehppndpccldaaGreatDoorM1
import Derived.WalkKit
import Derived.WalkSmall
import Derived.WalkSpells
import Derived.WalkLawsBesides
import Derived.Deep.OwnRows
import Derived.Deep.Draws
import Derived.Deep.QuietTactic
import Derived.BigQuiet
import Derived.Deep.RegionWith
import Derived.Lib.Bytealg
import Derived.Lib.IndexBytes
import Derived.Lib.IndexEntry
import Derived.Laws.Externs
import Derived.Laws.Strings3
import Derived.Lib.UnsafeStr
import Derived.Lib.BufferWrite
import Derived.Laws.MakeOwn
import Derived.Deep.RegionHeld3
namespace Go.Proofs.YtcehppndpccldaaGreatDoor
open Go.RowKit

/-- The bound that every length keeps once the law has counted. -/
def lim : Nat := 1048576

/-- A slice of strings. -/
structure StrsAt (w : World) (ao : Option Addr) (b o n : Nat) (S : Nat → ByteArray) : Prop where
  at_ : 0 < n → ao = some ⟨b, o, none⟩
  cell : ∀ i, i < n → w.cell? ⟨b, o + i, none⟩ = some (.string (S i))
  size : ∀ i, i < n → (S i).size ≤ 9223372036854775807
  len : n ≤ 9223372036854775807

/-- A slice of numbers. -/
structure IntsAt (w : World) (ao : Option Addr) (b o n : Nat) (D : Nat → Int) : Prop where
  at_ : 0 < n → ao = some ⟨b, o, none⟩
  cell : ∀ i, i < n → w.cell? ⟨b, o + i, none⟩ = some (.int .i64 (D i))
  len : n ≤ 9223372036854775807

theorem StrsAt.below {w w' : World} {ao : Option Addr} {b o n : Nat} {S : Nat → ByteArray} (h : StrsAt w ao b o n S) (hb : Below w.heap.size w w') : StrsAt w' ao b o n S :=
  ⟨h.at_, fun i hi => by rw [hb.cell (p := ⟨b, o + i, none⟩) (World.block_lt_of_cell? _ _ (h.cell i hi))]; exact h.cell i hi, h.size, h.len⟩
theorem IntsAt.below {w w' : World} {ao : Option Addr} {b o n : Nat} {D : Nat → Int} (h : IntsAt w ao b o n D) (hb : Below w.heap.size w w') : IntsAt w' ao b o n D :=
  ⟨h.at_, fun i hi => by rw [hb.cell (p := ⟨b, o + i, none⟩) (World.block_lt_of_cell? _ _ (h.cell i hi))]; exact h.cell i hi, h.len⟩
theorem below_drewN' (w : World) (n : Nat) : Below w.heap.size w (w.drewN n) := ⟨rfl, rfl, rfl, Nat.le_refl _, fun _ _ => rfl⟩


theorem bel1 (w : World) (o1 : Obj) : Below w.heap.size w (w.alloc o1) := (Below.refl _ _).alloc (Nat.le_refl _) _
theorem bel2 (w : World) (o1 o2 : Obj) : Below w.heap.size w ((w.alloc o1).alloc o2) := (bel1 w o1).alloc (by simp) _
theorem bel2d (w : World) (o1 o2 : Obj) (k : Nat) : Below w.heap.size w (((w.alloc o1).alloc o2).drewN k) := below_drewN (bel2 w o1 o2) k

end Go.Proofs.YtcehppndpccldaaGreatDoor

namespace Go.Proofs.YtcehppndpccldaaGreatDoor
open Go.RowKit

set_option maxRecDepth 100000 in
set_option maxHeartbeats 400000 in
theorem c18 (c : Int) (w : World) :
    Calls Tryz.prog 38 #[.int .u8 c] w fun e w' => e = .returned (.bool (sl c)) ∧ w' = w := by
  by_cases h1 : 97 ≤ c <;> by_cases h2 : c ≤ 122 <;>
  (go_enter Tryz.func38, Tryz.ntmps38
   go_wp2
   go_ret
   exact ⟨by simp [sl, h1, h2], rfl⟩)

set_option maxRecDepth 100000 in
set_option maxHeartbeats 1000000 in
theorem c30 (c : Int) (w : World) :
    Calls Tryz.prog 67 #[.int .u8 c] w fun e w' => e = .returned (.bool (wb c)) ∧ w' = w := by
  by_cases h1 : 97 ≤ c <;> by_cases h2 : c ≤ 122 <;> by_cases h3 : 48 ≤ c <;> by_cases h4 : c ≤ 57 <;> by_cases h5 : c = 95 <;> try (exfalso; omega)
  all_goals
    have h5' : (c == 95) = decide (c = 95) := by rw [Bool.eq_iff_iff]; simp
    go_enter Tryz.func67, Tryz.ntmps67
    go_wp2
    go_ret
    exact ⟨by simp [wb, *], rfl⟩

set_option maxRecDepth 100000 in
set_option maxHeartbeats 1000000 in
theorem c31 (s : ByteArray) (w : World) :
    Calls Tryz.prog 68 #[.string s] w fun e w' => e = .returned (.bool (rsv s.toList)) ∧ w' = w := by
  go_enter Tryz.func68, Tryz.ntmps68
  go_wp2
  all_goals
    go_ret
    exact ⟨by first | (simp_all [rsv]; done) | (refine congrArg (fun b => Ending.returned (Value.bool b)) ?_; rw [Bool.eq_iff_iff]; simp_all [rsv]), rfl⟩

set_option maxRecDepth 100000 in
set_option maxHeartbeats 1000000 in
theorem c41 (s : ByteArray) (w : World) :
    Calls Tryz.prog 105 #[.string s] w fun e w' => e = .returned (.bool (rsv s.toList)) ∧ w' = w := by
  go_enter Tryz.func105, Tryz.ntmps105
  go_wp2
  all_goals
    go_ret
    exact ⟨by simp_all [rsv], rfl⟩

end Go.Proofs.YtcehppndpccldaaGreatDoor

namespace Go.Proofs.YtcehppndpccldaaGreatDoor
open Go.RowKit

theorem ret_bool {a b : Bool} (h : a = b) : Ending.returned (.bool a) = .returned (.bool b) := by rw [h]

set_option maxRecDepth 100000 in
set_option maxHeartbeats 1000000 in
theorem c20 (c : Int) (w : World) :
    Calls Tryz.prog 40 #[.int .u8 c] w fun e w' => e = .returned (.bool (wb c)) ∧ w' = w := by
  by_cases h1 : 97 ≤ c <;> by_cases h2 : c ≤ 122 <;> by_cases h3 : 48 ≤ c <;> by_cases h4 : c ≤ 57 <;> by_cases h5 : c = 95 <;> try (exfalso; omega)
  all_goals
    have h5' : (c == 95) = decide (c = 95) := by rw [Bool.eq_iff_iff]; simp
    have h6 : sl c = decide (97 ≤ c ∧ c ≤ 122) := rfl
    go_enter Tryz.func40, Tryz.ntmps40
    go_wp2_with (go_at_call 38; refine (c18 _ _).mono ?_; rintro e w' ⟨rfl, rfl⟩)
    go_ret
    exact ⟨by simp [wb, *] <;> omega, rfl⟩

set_option maxRecDepth 100000 in
set_option maxHeartbeats 1000000 in
theorem c32 (s : ByteArray) (w : World) (_hs : s.size ≤ 9223372036854775807) :
    Calls Tryz.prog 62 #[.string s] w fun e w' => e = .returned (.bool (gn s)) ∧ w' = w := by
  by_cases h1 : s.size < 1
  · have HG : Hid (gn s = false) := gn_short (s := s) (Or.inl h1)
    go_enter Tryz.func62, Tryz.ntmps62
    go_wp2
    go_ret
    exact ⟨ret_bool HG.out.symm, rfl⟩
  by_cases h2 : 12 < s.size
  · have HG : Hid (gn s = false) := gn_short (s := s) (Or.inr h2)
    go_enter Tryz.func62, Tryz.ntmps62
    go_wp2
    go_ret
    exact ⟨ret_bool HG.out.symm, rfl⟩
  have hp : 0 < s.size := by omega
  have H0 : Hid (sl ((s[0]'hp).toNat : Int) = decide (97 ≤ ((s[0]'hp).toNat : Int) ∧ ((s[0]'hp).toNat : Int) ≤ 122)) := rfl
  by_cases h3 : 97 ≤ ((s[0]'hp).toNat : Int)
  case neg =>
    have HG : Hid (gn s = false) := gn_head hp (by rw [H0.out]; exact decide_eq_false (fun h => h3 h.1))
    have h3' : ((s[0]'hp).toNat : Int) < 97 := by omega
    go_enter Tryz.func62, Tryz.ntmps62
    go_wp2
    go_ret
    exact ⟨ret_bool HG.out.symm, rfl⟩
  by_cases h4 : ((s[0]'hp).toNat : Int) ≤ 122
  case neg =>
    have HG : Hid (gn s = false) := gn_head hp (by rw [H0.out]; exact decide_eq_false (fun h => h4 h.2))
    have h4' : 122 < ((s[0]'hp).toNat : Int) := by omega
    go_enter Tryz.func62, Tryz.ntmps62
    go_wp2
    go_ret
    exact ⟨ret_bool HG.out.symm, rfl⟩
  have Hs : Hid (sl ((s[0]'hp).toNat : Int) = true) := by rw [H0.out]; exact decide_eq_true ⟨h3, h4⟩
  go_enter Tryz.func62, Tryz.ntmps62
  go_wp2
  go_loop [3] (fun i => ∃ k : Nat, k ≤ s.size ∧ i = .int .i64 k ∧ Hid (∀ j (h : j < s.size), j < k → wb (s[j].toNat : Int) = true)) (fun i => s.size - (intOf i).toNat)
  case atStart => exact ⟨0, Nat.zero_le _, rfl, fun j _ h => absurd h (Nat.not_lt_zero _)⟩
  case round =>
    obtain ⟨k, hk, rfl, HA⟩ := hrel
    by_cases hlt : k < s.size
    · cases hw : wb (s[k].toNat : Int)
      · have HG : Hid (gn s = false) := gn_byte k hlt hw
        go_wp2_with (go_at_call 67; refine (c30 _ _).mono ?_; rintro e w' ⟨rfl, rfl⟩)
        go_ret
        exact ⟨ret_bool HG.out.symm, rfl⟩
      · have HW : Hid (wb (s[k].toNat : Int) = true) := hw
        go_wp2_with (go_at_call 67; refine (c30 _ _).mono ?_; rintro e w' ⟨rfl, rfl⟩)
        go_round
        case rel => exact ⟨k + 1, by omega, by go_num, fun j h hj => by
          by_cases e : j = k
          · subst e; exact HW.out
          · exact HA.out j h (by omega)⟩
        case measure => simp [intOf]; omega
    · have HE : Hid (gn s = !rsv s.toList) := gn_end (by omega) (by omega) Hs.out (fun j h => HA.out j h (by omega))
      go_wp2_with (go_at_call 68; refine (c31 _ _).mono ?_; rintro e w' ⟨rfl, rfl⟩)
      go_ret
      exact ⟨ret_bool HE.out.symm, rfl⟩

end Go.Proofs.YtcehppndpccldaaGreatDoor

namespace Go.Proofs.YtcehppndpccldaaGreatDoor
open Go.RowKit

set_option maxRecDepth 100000 in
set_option maxHeartbeats 1000000 in
theorem c40 (s : ByteArray) (w : World) (_hs : s.size ≤ 9223372036854775807) :
    Calls Tryz.prog 93 #[.string s] w fun e w' => e = .returned (.bool (gn s)) ∧ w' = w := by
  by_cases h1 : s.size = 0
  · have HG : Hid (gn s = false) := gn_short (s := s) (Or.inl (by omega))
    go_enter Tryz.func93, Tryz.ntmps93
    go_wp2
    go_ret
    exact ⟨ret_bool HG.out.symm, rfl⟩
  by_cases h2 : 12 < s.size
  · have HG : Hid (gn s = false) := gn_short (s := s) (Or.inr h2)
    have h1' : ((s.size : Int) == 0) = false := beq_eq_false_iff_ne.2 (by omega)
    go_enter Tryz.func93, Tryz.ntmps93
    go_wp2
    go_ret
    exact ⟨ret_bool HG.out.symm, rfl⟩
  have hp : 0 < s.size := by omega
  have h1' : ((s.size : Int) == 0) = false := beq_eq_false_iff_ne.2 (by omega)
  cases h3 : sl ((s[0]'hp).toNat : Int)
  · have HG : Hid (gn s = false) := gn_head hp h3
    go_enter Tryz.func93, Tryz.ntmps93
    go_wp2_with (go_at_call 38; refine (c18 _ _).mono ?_; rintro e w' ⟨rfl, rfl⟩)
    go_ret
    exact ⟨ret_bool HG.out.symm, rfl⟩
  have Hs : Hid (sl ((s[0]'hp).toNat : Int) = true) := h3
  go_enter Tryz.func93, Tryz.ntmps93
  go_wp2_with (go_at_call 38; refine (c18 _ _).mono ?_; rintro e w' ⟨rfl, rfl⟩)
  clear h3
  go_loop [3] (fun i => ∃ k : Nat, 1 ≤ k ∧ k ≤ s.size ∧ i = .int .i64 k ∧ Hid (∀ j (h : j < s.size), j < k → wb (s[j].toNat : Int) = true)) (fun i => s.size - (intOf i).toNat)
  case atStart => exact ⟨1, Nat.le_refl _, by omega, rfl, fun j _ h => by
    have : j = 0 := by omega
    subst this; exact wb_of_sl Hs.out⟩
  case round =>
    obtain ⟨k, hk1, hk, rfl, HA⟩ := hrel
    by_cases hlt : k < s.size
    · cases hw : wb (s[k].toNat : Int)
      · have HG : Hid (gn s = false) := gn_byte k hlt hw
        go_wp2_with (go_at_call 40; refine (c20 _ _).mono ?_; rintro e w' ⟨rfl, rfl⟩)
        go_ret
        exact ⟨ret_bool HG.out.symm, rfl⟩
      · have HW : Hid (wb (s[k].toNat : Int) = true) := hw
        go_wp2_with (go_at_call 40; refine (c20 _ _).mono ?_; rintro e w' ⟨rfl, rfl⟩)
        go_round
        case rel => exact ⟨k + 1, by omega, by omega, by go_num, fun j h hj => by
          by_cases e : j = k
          · subst e; exact HW.out
          · exact HA.out j h (by omega)⟩
        case measure => simp [intOf]; omega
    · have HE : Hid (gn s = !rsv s.toList) := gn_end (by omega) (by omega) Hs.out (fun j h => HA.out j h (by omega))
      go_wp2_with (go_at_call 105; refine (c41 _ _).mono ?_; rintro e w' ⟨rfl, rfl⟩)
      go_ret
      exact ⟨ret_bool HE.out.symm, rfl⟩

end Go.Proofs.YtcehppndpccldaaGreatDoor

namespace Go.Proofs.YtcehppndpccldaaGreatDoor
open Go.RowKit

set_option maxRecDepth 100000 in
set_option maxHeartbeats 400000 in
theorem c19 (c : Int) (w : World) :
    Calls Tryz.prog 39 #[.int .u8 c] w fun e w' => e = .returned (.bool (dg c)) ∧ w' = w := by
  by_cases h1 : 48 ≤ c <;> by_cases h2 : c ≤ 57 <;>
  (go_enter Tryz.func39, Tryz.ntmps39
   go_wp2
   go_ret
   exact ⟨by simp [dg, h1, h2], rfl⟩)

theorem ret_int {a b : Int} (h : a = b) : Ending.returned (.int .i64 a) = .returned (.int .i64 b) := by rw [h]

theorem zero_one {t : ByteArray} (hp : 0 < t.size) (h : ((t[0]'hp).toNat : Int) = 48) : (t.toList == [48]) = decide (t.size = 1) := by
  have hl : t.toList.length = t.size := by rw [ByteArray.toList_eq]; rfl
  by_cases e : t.size = 1
  · rw [decide_eq_true e]
    have hh := head_at t hp
    rw [← ByteArray.toList_eq] at hh
    cases q : t.toList with
    | nil => rw [q] at hl; simp at hl; omega
    | cons a l =>
      rw [q] at hl hh
      simp only [List.length_cons] at hl
      have : l = [] := List.eq_nil_of_length_eq_zero (by omega)
      subst this
      simp only [List.headD_cons] at hh
      have : a = 48 := by
        rw [← UInt8.toNat_inj, hh]; simp only [UInt8.reduceToNat]; omega
      subst this; rfl
  · rw [decide_eq_false e, beq_eq_false_iff_ne]
    intro q
    rw [q] at hl
    simp at hl; omega

theorem num_at {t : ByteArray} (hp : 0 < t.size) : num t.toList = (dg ((t[0]'hp).toNat : Int) && !decide (9 < t.size ∨ ((t[0]'hp).toNat : Int) = 48 ∧ 1 < t.size)) := by
  have hl : t.toList.length = t.size := by rw [ByteArray.toList_eq]; rfl
  have hh := head_at t hp
  rw [← ByteArray.toList_eq] at hh
  unfold num
  rw [hh, hl]

set_option maxRecDepth 100000 in
set_option maxHeartbeats 1000000 in
theorem c42 (t : ByteArray) (w : World) (hp : 0 < t.size) (_hs : t.size ≤ 9223372036854775807) :
    Calls Tryz.prog 106 #[.string t] w fun e w' => e = .returned (.bool (num t.toList)) ∧ w' = w := by
  have HN : Hid (num t.toList = (dg ((t[0]'hp).toNat : Int) && !decide (9 < t.size ∨ ((t[0]'hp).toNat : Int) = 48 ∧ 1 < t.size))) := num_at hp
  cases hd : dg ((t[0]'hp).toNat : Int)
  · go_enter Tryz.func106, Tryz.ntmps106
    go_wp2_with (go_at_call 39; refine (c19 _ _).mono ?_; rintro e w' ⟨rfl, rfl⟩)
    go_ret
    exact ⟨ret_bool (by rw [HN.out, hd]; rfl), rfl⟩
  · by_cases h9 : t.size ≤ 9
    · by_cases h0 : ((t[0]'hp).toNat : Int) = 48
      · have hz := zero_one hp h0
        have hb : (((t[0]'hp).toNat : Int) != 48) = false := by rw [bne_eq_false_iff_eq]; exact h0
        have H0 : Hid (((t[0]'hp).toNat : Int) = 48) := h0
        have HZ : Hid ((t.toList == [48]) = decide (t.size = 1)) := hz
        clear h0 hz
        go_enter Tryz.func106, Tryz.ntmps106
        go_wp2_with (go_at_call 39; refine (c19 _ _).mono ?_; rintro e w' ⟨rfl, rfl⟩)
        go_ret
        refine ⟨ret_bool ?_, rfl⟩
        rw [HN.out, hd, HZ.out, Bool.true_and]
        by_cases q : t.size = 1
        · rw [decide_eq_true q, decide_eq_false (by omega)]; rfl
        · rw [decide_eq_false q, decide_eq_true (by have := H0.out; omega)]; rfl
      · have hb : (((t[0]'hp).toNat : Int) != 48) = true := by rw [bne_iff_ne]; exact h0
        have HF : Hid (num t.toList = true) := by
          show num t.toList = true
          rw [HN.out, hd, decide_eq_false (by omega)]; rfl
        clear h0
        go_enter Tryz.func106, Tryz.ntmps106
        go_wp2_with (go_at_call 39; refine (c19 _ _).mono ?_; rintro e w' ⟨rfl, rfl⟩)
        go_ret
        exact ⟨ret_bool HF.out.symm, rfl⟩
    · have HF : Hid (num t.toList = false) := by
        show num t.toList = false
        rw [HN.out, decide_eq_true (by omega)]; simp
      go_enter Tryz.func106, Tryz.ntmps106
      go_wp2_with (go_at_call 39; refine (c19 _ _).mono ?_; rintro e w' ⟨rfl, rfl⟩)
      go_ret
      exact ⟨ret_bool HF.out.symm, rfl⟩

set_option maxRecDepth 100000 in
set_option maxHeartbeats 1000000 in
theorem c53 (s : ByteArray) (c : Int) (w : World) :
    Calls Tryz.prog 153 #[.string s, .int .u8 c] w fun e w' => e = .returned (.int .i64 (Lib.indexByte s.data.toList c.toNat.toUInt8)) ∧ w' = w := by
  go_enter Tryz.func153, Tryz.ntmps153
  go_wp2
  rw [run_callFunc_extern Tryz.func164 (by kernel_rfl) (by kernel_rfl) (by kernel_rfl) (e := Extern.BytealgIndexByte.indexByte) (by kernel_rfl), Lib.run_indexByteString]
  simp only [Result.andThen]
  rw [Oper.upon_value]
  go_wp2
  go_ret
  exact ⟨rfl, rfl⟩


/-- The signs as a text. -/
def sgT : ByteArray := ⟨#[59, 58, 61, 63, 123, 125, 40, 41, 44, 46, 43, 60]⟩
theorem sgT_list : sgT.data.toList = sgs := rfl
theorem sgT_size : sgT.size = 12 := rfl

theorem no_sign {t : ByteArray} (hp : 0 < t.size) (h : sg ((t[0]'hp).toNat : Int) = false) : Lib.index sgs t.data.toList = -1 := by
  have hh := head_at t hp
  cases q : t.data.toList with
  | nil =>
    have hl : t.data.toList.length = t.size := rfl
    rw [q] at hl; simp at hl; omega
  | cons a l =>
    rw [q] at hh
    simp only [List.headD_cons] at hh
    have := not_in (b := a) (l := l) (by rw [hh]; exact h)
    unfold Lib.contains at this
    have h2 := Lib.index_ge sgs (a :: l)
    simp only [decide_eq_false_iff_not] at this
    omega

theorem no_byte {c : UInt8} (h : sg (c.toNat : Int) = false) (a b : Nat) : Lib.indexByte (sgT.extract a b).data.toList c = -1 := by
  have hb : ∀ x ∈ sgs, (x == c) = false := fun x hx => by
    rw [beq_eq_false_iff_ne]
    intro e; subst e
    revert h; revert hx
    simp only [sgs, List.mem_cons, List.not_mem_nil, or_false]
    rintro (rfl | rfl | rfl | rfl | rfl | rfl | rfl | rfl | rfl | rfl | rfl | rfl) <;> decide
  have hs : ∀ x ∈ (sgT.extract a b).data.toList, x ∈ sgs := fun x hx => by
    rw [ByteArray.data_extract, Array.toList_extract, List.extract_eq_take_drop] at hx
    exact List.mem_of_mem_drop (List.mem_of_mem_take hx)
  generalize (sgT.extract a b).data.toList = l at hs
  induction l with
  | nil => rfl
  | cons x l ih =>
    have h1 := hb x (hs x List.mem_cons_self)
    have h2 := ih (fun y hy => hs y (List.mem_cons_of_mem _ hy))
    unfold Lib.indexByte
    rw [h1, h2]; rfl

set_option maxRecDepth 100000 in
set_option maxHeartbeats 4000000 in
theorem c52 (t : ByteArray) (m : Int) (w : World) (hp : 0 < t.size) (hs : t.size ≤ 4294967280) (hm : w.cell? ⟨1, 0, none⟩ = some (.int .i64 m)) (hc : t.size = 1 ∨ sg ((t[0]'hp).toNat : Int) = false) :
    Calls Tryz.prog 147 #[.string sgT, .string t] w fun e w' => e = .returned (.int .i64 (Lib.index sgs t.data.toList)) ∧ w' = w := by
  have b0 : ((t.size : Int) == 0) = false := beq_eq_false_iff_ne.2 (by omega)
  by_cases h1 : t.size = 1
  · have H1 : Hid (Lib.index sgs t.data.toList = Lib.indexByte sgT.data.toList (t[0]'hp)) := by
      show _ = _
      have := Lib.one sgT t h1
      rw [Lib.byte_back] at this; exact this
    have b1 : ((t.size : Int) == 1) = true := beq_iff_eq.2 (by omega)
    have e1 : (t.toList == sgT.toList) = false := by
      rw [beq_eq_false_iff_ne]
      intro q
      have : t.toList.length = t.size := by rw [ByteArray.toList_eq]; rfl
      rw [q, h1] at this
      rw [ByteArray.toList_eq] at this
      cases this
    go_enter Tryz.func147, Tryz.ntmps147
    go_wp2_with (go_at_call 153; refine (c53 _ _ _).mono ?_; rintro e w' ⟨rfl, rfl⟩)
    go_ret
    exact ⟨ret_int H1.out.symm, rfl⟩
  have hc' : sg ((t[0]'hp).toNat : Int) = false := hc.resolve_left h1
  have H1 : Hid (Lib.index sgs t.data.toList = -1) := no_sign hp hc'
  have b1 : ((t.size : Int) == 1) = false := beq_eq_false_iff_ne.2 (by omega)
  have e1 : (t.toList == sgT.toList) = false := by
    rw [beq_eq_false_iff_ne]
    intro q
    have e0 := head_at t hp
    rw [← ByteArray.toList_eq, q] at e0
    have : (sgT.toList.headD 0) = 59 := by rw [ByteArray.toList_eq]; rfl
    rw [this] at e0
    rw [← e0] at hc'
    revert hc'; decide
  have hz : sgT.size = 12 := rfl
  by_cases h12 : 12 ≤ t.size
  · go_enter Tryz.func147, Tryz.ntmps147
    go_wp2
    go_ret
    exact ⟨ret_int H1.out.symm, rfl⟩
  by_cases hM : (t.size : Int) ≤ m
  · have hIS : (callFunc 154 #[.string sgT, .string t]).run Tryz.prog w = .ok (.value (.int .i64 (-1))) w := by
      rw [run_callFunc_extern Tryz.func154 (by kernel_rfl) (by kernel_rfl) (by kernel_rfl) (e := Extern.BytealgIndex.index) (by kernel_rfl), Lib.run_indexString sgT t w 1 m (by kernel_rfl) hm (by omega) hM (by rw [hz]; omega)]
      simp only [Result.andThen]
      rw [sgT_list, H1.out]
    go_enter Tryz.func147, Tryz.ntmps147
    go_wp2
    go_ret
    exact ⟨ret_int H1.out.symm, rfl⟩
  · have e0 : (((sgT[0]'(by rw [hz]; omega)).toNat : Int) != ((t[0]'hp).toNat : Int)) = true := by
      rw [bne_iff_ne]
      intro q
      rw [← q, show ((sgT[0]'(by rw [hz]; omega)).toNat : Int) = 59 from rfl] at hc'
      revert hc'; decide
    have HB : Hid (∀ a b : Nat, Lib.indexByte (sgT.extract a b).data.toList (((t[0]'hp).toNat : Int)).toNat.toUInt8 = -1) := fun a b => by
      rw [Lib.byte_back]
      exact no_byte hc' a b
    go_enter Tryz.func147, Tryz.ntmps147
    go_wp2_with (first | (go_at_call 153; refine (c53 _ _ _).mono ?_; rintro e w' ⟨rfl, rfl⟩))
    go_loop [8] (fun i => i = .int .i64 0) (fun _ => 0)
    case atStart => rfl
    case round =>
      subst hrel
      go_wp2_with (first | (go_at_call 153; refine (c53 _ _ _).mono ?_; rintro e w' ⟨rfl, rfl⟩; rw [HB.out]))
      go_ret
      exact ⟨ret_int H1.out.symm, rfl⟩


set_option maxRecDepth 100000 in
set_option maxHeartbeats 1000000 in
theorem c51 (t : ByteArray) (m : Int) (w : World) (hp : 0 < t.size) (hs : t.size ≤ 4294967280) (hm : w.cell? ⟨1, 0, none⟩ = some (.int .i64 m)) (hc : t.size = 1 ∨ sg ((t[0]'hp).toNat : Int) = false) :
    Calls Tryz.prog 135 #[.string sgT, .string t] w fun e w' => e = .returned (.int .i64 (Lib.index sgs t.data.toList)) ∧ w' = w := by
  go_enter Tryz.func135, Tryz.ntmps135
  go_wp2_with (go_at_call 147; refine (c52 t m _ hp hs hm hc).mono ?_; rintro e w' ⟨rfl, rfl⟩)
  go_ret
  exact ⟨rfl, rfl⟩

set_option maxRecDepth 100000 in
set_option maxHeartbeats 1000000 in
theorem c43 (t : ByteArray) (m : Int) (w : World) (hp : 0 < t.size) (hs : t.size ≤ 4294967280) (hm : w.cell? ⟨1, 0, none⟩ = some (.int .i64 m)) (hc : t.size = 1 ∨ sg ((t[0]'hp).toNat : Int) = false) :
    Calls Tryz.prog 107 #[.string sgT, .string t] w fun e w' => e = .returned (.bool (Lib.contains sgs t.toList)) ∧ w' = w := by
  have HL : Hid (t.toList = t.data.toList) := ByteArray.toList_eq t
  go_enter Tryz.func107, Tryz.ntmps107
  go_wp2_with (go_at_call 135; refine (c51 t m _ hp hs hm hc).mono ?_; rintro e w' ⟨rfl, rfl⟩)
  go_ret
  exact ⟨ret_bool (by rw [HL.out]; rfl), rfl⟩

theorem gn_list (t : ByteArray) : gn t = gnl t.toList := by rw [ByteArray.toList_eq]; rfl

set_option maxRecDepth 100000 in
set_option maxHeartbeats 2000000 in
theorem c33 (t : ByteArray) (m : Int) (w : World) (hp : 0 < t.size) (hs : t.size ≤ 4294967280) (hm : w.cell? ⟨1, 0, none⟩ = some (.int .i64 m)) (hc : t.size = 1 ∨ sg ((t[0]'hp).toNat : Int) = false) :
    Calls Tryz.prog 69 #[.string t] w fun e w' => e = .returned (.int .i64 (cls t.toList)) ∧ w' = w := by
  have HL : Hid (gn t = gnl t.toList) := gn_list t
  have HC : Hid (cls t.toList = if gnl t.toList then 1 else if rsv t.toList then 2 else if num t.toList then 3 else if t.toList == [45, 62] || Lib.contains sgs t.toList then 4 else 0) := rfl
  have HQ : Hid (t.size = 1 ∨ sg ((t[0]'hp).toNat : Int) = false) := hc
  clear hc
  cases h1 : gn t
  case true =>
    have HF : Hid (cls t.toList = 1) := by show _ = _; rw [HC.out, ← HL.out, h1]; rfl
    go_enter Tryz.func69, Tryz.ntmps69
    go_wp2_with (go_at_call 93; refine (c40 t _ (by omega)).mono ?_; rintro e w' ⟨rfl, rfl⟩)
    go_ret
    exact ⟨ret_int HF.out.symm, rfl⟩
  cases h2 : rsv t.toList
  case true =>
    have HF : Hid (cls t.toList = 2) := by show _ = _; rw [HC.out, ← HL.out, h1, h2]; rfl
    go_enter Tryz.func69, Tryz.ntmps69
    go_wp2_with (first | (go_at_call 93; refine (c40 t _ (by omega)).mono ?_; rintro e w' ⟨rfl, rfl⟩) | (go_at_call 105; refine (c41 t _).mono ?_; rintro e w' ⟨rfl, rfl⟩))
    go_ret
    exact ⟨ret_int HF.out.symm, rfl⟩
  cases h3 : num t.toList
  case true =>
    have HF : Hid (cls t.toList = 3) := by show _ = _; rw [HC.out, ← HL.out, h1, h2, h3]; rfl
    go_enter Tryz.func69, Tryz.ntmps69
    go_wp2_with (first | (go_at_call 93; refine (c40 t _ (by omega)).mono ?_; rintro e w' ⟨rfl, rfl⟩) | (go_at_call 105; refine (c41 t _).mono ?_; rintro e w' ⟨rfl, rfl⟩) | (go_at_call 106; refine (c42 t _ hp (by omega)).mono ?_; rintro e w' ⟨rfl, rfl⟩))
    go_ret
    exact ⟨ret_int HF.out.symm, rfl⟩
  cases h4 : (t.toList == [45, 62])
  case true =>
    have HF : Hid (cls t.toList = 4) := by show _ = _; rw [HC.out, ← HL.out, h1, h2, h3, h4]; rfl
    go_enter Tryz.func69, Tryz.ntmps69
    go_wp2_with (first | (go_at_call 93; refine (c40 t _ (by omega)).mono ?_; rintro e w' ⟨rfl, rfl⟩) | (go_at_call 105; refine (c41 t _).mono ?_; rintro e w' ⟨rfl, rfl⟩) | (go_at_call 106; refine (c42 t _ hp (by omega)).mono ?_; rintro e w' ⟨rfl, rfl⟩))
    go_ret
    exact ⟨ret_int HF.out.symm, rfl⟩
  cases h5 : Lib.contains sgs t.toList
  · have HF : Hid (cls t.toList = 0) := by show _ = _; rw [HC.out, ← HL.out, h1, h2, h3, h4, h5]; rfl
    go_enter Tryz.func69, Tryz.ntmps69
    go_wp2_with (first | (go_at_call 93; refine (c40 t _ (by omega)).mono ?_; rintro e w' ⟨rfl, rfl⟩) | (go_at_call 105; refine (c41 t _).mono ?_; rintro e w' ⟨rfl, rfl⟩) | (go_at_call 106; refine (c42 t _ hp (by omega)).mono ?_; rintro e w' ⟨rfl, rfl⟩) | (go_at_call 107; refine (c43 t m _ hp hs hm HQ.out).mono ?_; rintro e w' ⟨rfl, rfl⟩))
    go_ret
    exact ⟨ret_int HF.out.symm, rfl⟩
  · have HF : Hid (cls t.toList = 4) := by show _ = _; rw [HC.out, ← HL.out, h1, h2, h3, h4, h5]; rfl
    go_enter Tryz.func69, Tryz.ntmps69
    go_wp2_with (first | (go_at_call 93; refine (c40 t _ (by omega)).mono ?_; rintro e w' ⟨rfl, rfl⟩) | (go_at_call 105; refine (c41 t _).mono ?_; rintro e w' ⟨rfl, rfl⟩) | (go_at_call 106; refine (c42 t _ hp (by omega)).mono ?_; rintro e w' ⟨rfl, rfl⟩) | (go_at_call 107; refine (c43 t m _ hp hs hm HQ.out).mono ?_; rintro e w' ⟨rfl, rfl⟩))
    go_ret
    exact ⟨ret_int HF.out.symm, rfl⟩

end Go.Proofs.YtcehppndpccldaaGreatDoor

namespace Go.Proofs.YtcehppndpccldaaGreatDoor
open Go.RowKit

theorem Tryz.info5 : (Tryz.prog.info? 5).map (fun i => (i.zero, i.size, i.bytes)) = some (some (.int .u8 0), 1, 1) := by kernel_rfl

set_option maxRecDepth 100000 in
set_option maxHeartbeats 4000000 in
theorem c44 (s : ByteArray) (w : World) (hp : 0 < s.size) (hs : s.size ≤ 1048576) :
    Calls Tryz.prog 108 #[.string s] w fun e w' => e = .returned (.string s) ∧ Below w.heap.size w w' := by
  obtain ⟨i0, hi, hz0, hz1, hz2⟩ := info_parts Tryz.info5
  have hsz : (Tryz.prog.info? 5).map (·.size) = some 1 := by rw [hi]; simp [hz1]
  have hone : Tryz.prog.cellsOf 5 = 1 := by simp [Program.cellsOf, hi, hz1]
  have hlen : s.data.toList.length = s.size := rfl
  obtain ⟨M, hM⟩ : ∃ M, M = madeCells (Value.int .u8 0).cells (((s.size : Nat) : Int).toNat * i0.size) := ⟨_, rfl⟩
  have hMs : M.size = s.size := by rw [hM, size_madeCells, hz1]; simp
  have hmk : ∀ W : World, (Instr.makeSlice 29 (.int .i64 (s.size : Int)) (.int .i64 (s.size : Int))).run Tryz.prog W = .ok (.slice (some ⟨W.heap.size, 0, none⟩) s.size s.size) (W.alloc (.cells M 5)) := fun W => by
    have h := run_make (P := Tryz.prog) W 29 5 i0 (.int .u8 0) Tryz.underlying29 hi hz0 .i64 .i64 (s.size : Int) (s.size : Int) (by omega) (by omega) (by rw [hz2]; omega) (by omega)
    rw [← hM] at h
    simpa using h
  clear hM
  have hcp := Lib.run_copy_row_string (P := Tryz.prog) (w.alloc (.cells M 5)) 29 9 3 5 w.heap.size 0 s.size s.size s M 5 Tryz.underlying29 hsz (heap_alloc_new w _) (Nat.le_refl _) (by omega)
  obtain ⟨Y, hY⟩ : ∃ Y, Y = (M.toList.take 0 ++ Lib.byteCells s.data.toList ++ M.toList.drop (0 + s.size)).toArray := ⟨_, rfl⟩
  rw [← hY] at hcp
  have hYl : Y.toList = Lib.byteCells s.data.toList := by
    rw [hY, List.toList_toArray, List.take_zero, List.nil_append, List.drop_of_length_le (by rw [Array.length_toList]; omega), List.append_nil]
  have hYs : Y.size = s.size := by rw [← Array.length_toList, hYl, Lib.byteCells_length, hlen]
  have hgY : ((w.alloc (.cells M 5)).setRow w.heap.size Y).heap[w.heap.size]? = some (.cells Y 5 (0, 0)) := setRow_heap _ _ M _ 5 (0, 0) (heap_alloc_new w _)
  have hUS := Lib.run_unsafeString_row (P := Tryz.prog) ((w.alloc (.cells M 5)).setRow w.heap.size Y) 150 3 9 5 Tryz.underlying150 hone w.heap.size Y.size (by unfold World.shape?; rw [hgY]) s.data.toList (fun e => by rw [e] at hlen; simp at hlen; omega) (by omega) (by omega)
    (fun j x hx => Lib.cells_of_row hgY Y.size j _ (by rw [List.take_of_length_le (by rw [Array.length_toList]; exact Nat.le_refl _), hYl]; simp [Lib.byteCells, hx]))
  rw [hlen] at hUS
  have b0 : ((s.size : Int) == 0) = false := beq_eq_false_iff_ne.2 (by omega)
  clear hY
  go_enter Tryz.func108, Tryz.ntmps108
  go_wp2
  go_ret
  have hb : Below w.heap.size (w.alloc (.cells M 5)) ((w.alloc (.cells M 5)).setRow w.heap.size Y) := ⟨rfl, rfl, rfl, by simp, fun k hk => setRow_other _ _ _ _ (by omega)⟩
  exact ⟨rfl, Lib.below_freeze ((bel1 w _).trans hb) (p := ⟨w.heap.size, 0, none⟩) (Nat.le_refl _) _⟩

set_option maxRecDepth 100000 in
set_option maxHeartbeats 1000000 in
theorem c34 (s : ByteArray) (w : World) (hp : 0 < s.size) (hs : s.size ≤ 1048576) :
    Calls Tryz.prog 70 #[.string s] w fun e w' => e = .returned (.string s) ∧ Below w.heap.size w w' := by
  go_enter Tryz.func70, Tryz.ntmps70
  go_wp2_with (go_at_call 108; refine (c44 s _ hp hs).mono ?_; rintro e w' ⟨rfl, hb⟩)
  go_ret
  exact ⟨rfl, hb⟩

/-- Three values by their place. -/
def v3 (a b c : Value) : Nat → Value := fun i => if i = 0 then a else if i = 1 then b else c
theorem row3 (w : World) (a b c : Value) (t : TypeId) : (w.alloc (.cells #[a, b, c] t)).rowIs w.heap.size t 3 (v3 a b c) :=
  World.rowIs_alloc w #[a, b, c] t _ (fun i hi => by
    match i, hi with
    | 0, _ => rfl
    | 1, _ => rfl
    | 2, _ => rfl)

/-- The library's number stays where it is. -/
theorem max_below {w w' : World} {m : Int} (h : w.cell? ⟨1, 0, none⟩ = some (.int .i64 m)) (hb : Below w.heap.size w w') : w'.cell? ⟨1, 0, none⟩ = some (.int .i64 m) := by
  rw [hb.cell (p := ⟨1, 0, none⟩) (World.block_lt_of_cell? _ _ h)]; exact h

set_option maxRecDepth 100000 in
set_option maxHeartbeats 2000000 in
theorem c21 (t : ByteArray) (k : Nat) (m : Int) (w : World) (hp : 0 < t.size) (hs : t.size ≤ 1048576) (hm : w.cell? ⟨1, 0, none⟩ = some (.int .i64 m)) (hc : t.size = 1 ∨ sg ((t[0]'hp).toNat : Int) = false) :
    Calls Tryz.prog 41 #[.string t, .int .i64 (k : Int)] w fun e w' => e = .returned (.agg #[.int .i64 (cls t.toList), .string t, .int .i64 (k : Int)]) ∧ Below w.heap.size w w' := by
  have HM : Hid (∀ w', Below w.heap.size w w' → w'.cell? ⟨1, 0, none⟩ = some (.int .i64 m)) := fun w' hb => max_below hm hb
  clear hm
  go_enter Tryz.func41, Tryz.ntmps41
  go_wp2_with fail
  refine (c33 t m _ hp (by omega) (HM.out _ (bel1 _ _)) hc).mono ?_
  rintro e w' ⟨rfl, rfl⟩
  go_wp2_with fail
  refine (c34 t _ hp hs).mono ?_
  rintro e w1 ⟨rfl, hb⟩
  have r1 := (row3 w (.int .i64 0) (.string ⟨#[]⟩) (.int .i64 0) 38).of_block (hb.block _ (by simp))
  have B1 := (bel1 w _).trans (hb.mono (by simp))
  have k0 := r1.cell (i := 0) (by omega)
  have k1 := r1.cell (i := 1) (by omega)
  have k2 := r1.cell (i := 2) (by omega)
  have f0 := r1.frozen 0
  have f1 := r1.frozen 1
  have f2 := r1.frozen 2
  have hB := ((B1.setCell (p := ⟨w.heap.size, 0, none⟩) (Nat.le_refl _) (.int .i64 (cls t.toList))).setCell (p := ⟨w.heap.size, 1, none⟩) (Nat.le_refl _) (.string t)).setCell (p := ⟨w.heap.size, 2, none⟩) (Nat.le_refl _) (.int .i64 (k : Int))
  have r2 := ((r1.set 0 (.int .i64 (cls t.toList))).set 1 (.string t)).set 2 (.int .i64 (k : Int))
  have z0 := r2.cell (i := 0) (by omega)
  have z1 := r2.cell (i := 1) (by omega)
  have z2 := r2.cell (i := 2) (by omega)
  clear hb r1 r2 HM
  go_wp2
  exact bodyPost_ret (v := .agg #[.int .i64 (cls t.toList), .string t, .int .i64 (k : Int)]) (by simp [results, Tryz.results41, go_sem, z0, z1, z2]) rfl ⟨rfl, hB⟩

end Go.Proofs.YtcehppndpccldaaGreatDoor

