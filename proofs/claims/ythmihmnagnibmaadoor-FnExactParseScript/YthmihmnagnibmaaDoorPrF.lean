/-
  Scripts: the program's readLine, over any list of kinds.
-/
import Derived.Test.YthmihmnagnibmaaDoorPrE
import Derived.Shelf.Abstract
import Derived.Laws.EntriesVeiled
namespace Go.Proofs.YthmihmnagnibmaaDoor
open Go.RowKit Go.Shelf

/-- Kinds of lines in memory. -/
def Kinds (w : World) (g n : Nat) (kw : Nat → ByteArray) (kf : Nat → Nat) : Prop :=
  ∀ k, k < n → w.cell? ⟨g, k * 2, none⟩ = some (.string (kw k)) ∧ w.cell? ⟨g, k * 2 + 1, none⟩ = some (.func (.func (kf k)) #[] #[])
theorem Kinds.below {w w' : World} {g n : Nat} {kw : Nat → ByteArray} {kf : Nat → Nat} (h : Kinds w g n kw kf) (hb : Below w.heap.size w w') : Kinds w' g n kw kf :=
  fun k hk => ⟨cell_below (h k hk).1 hb, cell_below (h k hk).2 hb⟩

/-- What the reading of a line gives: the first kind with its word, or nothing. -/
def LinePost (w : World) (n : Nat) (kw : Nat → ByteArray) (word : ByteArray) (found : Bool) (R : Nat → Ending → World → Prop) (e : Ending) (w' : World) : Prop :=
  (∃ j, j < n ∧ found = true ∧ kw j = word ∧ (∀ i, i < j → kw i ≠ word) ∧ R j e w') ∨ ((found = false ∨ ∀ j, j < n → kw j ≠ word) ∧ e = .returned (.bool false) ∧ Below w.heap.size w w')

set_option maxRecDepth 100000 in
set_option maxHeartbeats 4000000 in
theorem p_line (sb g n cp : Nat) (kw : Nat → ByteArray) (kf : Nat → Nat) (line word rest : ByteArray) (found : Bool) (ok : Nat → Bool) (R : Nat → Ending → World → Prop) (w : World) (hn : n ≤ 4)
    (hk : Kinds w g n kw kf) (he : ∀ k, k < n → ∀ args w, (callFunc (kf k) args).run Tryd.prog w = .ok (.enter (kf k) args) w)
    (hc : Calls Tryd.prog 25 #[.string line, .string ⟨#[32]⟩] w fun e w' => e = .returned (.tuple #[.string word, .string rest, .bool found]) ∧ Below w.heap.size w w')
    (hr : ∀ k, k < n → found = true → ∀ W, Below w.heap.size w W → Calls Tryd.prog (kf k) #[.pointer (some ⟨sb, 0, none⟩), .string rest] W fun e w' => e = .returned (.bool (ok k)) ∧ R k e w') :
    Calls Tryd.prog 14 #[.pointer (some ⟨sb, 0, none⟩), .string line, .slice (some ⟨g, 0, none⟩) n cp] w fun e w' => LinePost w n kw word found R e w' := by
  have CC : Hid (Calls Tryd.prog 25 #[.string line, .string ⟨#[32]⟩] w fun e w' => e = .returned (.tuple #[.string word, .string rest, .bool found]) ∧ Hid (Below w.heap.size w w')) := hc
  have HK : Hid (∀ W, Below w.heap.size w W → Kinds W g n kw kf) := fun W hW => hk.below hW
  have HR : Hid (∀ k, k < n → found = true → ∀ W, Below w.heap.size w W → Calls Tryd.prog (kf k) #[.pointer (some ⟨sb, 0, none⟩), .string rest] W fun e w' => e = .returned (.bool (ok k)) ∧ Hid (R k e w')) := hr
  have HE : Hid (∀ k, k < n → ∀ args w, (callFunc (kf k) args).run Tryd.prog w = .ok (.enter (kf k) args) w) := he
  clear hc hk hr he
  go_enter Tryd.func14, Tryd.ntmps14
  go_wp2_with fail
  refine CC.out.mono ?_
  rintro e w1 ⟨rfl, hb1⟩
  go_wp2
  go_loopw [20] (fun i wr => ∃ k : Nat, k ≤ n ∧ i = .int .i64 (k : Int) ∧ Hid (Below w.heap.size w wr) ∧ Hid (∀ j, j < k → kw j ≠ word)) (fun i _ => n - (intOf i).toNat)
  case atStart => exact ⟨0, Nat.zero_le _, rfl, hb1, fun j h => absurd h (Nat.not_lt_zero _)⟩
  case round =>
    obtain ⟨k, hkn, rfl, HW, HM⟩ := hrel
    by_cases hlt : k < n
    · obtain ⟨kd, hkd⟩ : ∃ kd, kd = kw k := ⟨_, rfl⟩
      obtain ⟨fk, hfk⟩ : ∃ fk, fk = kf k := ⟨_, rfl⟩
      obtain ⟨a0, a1⟩ := HK.out wr HW.out k hlt
      rw [← hkd] at a0
      rw [← hfk] at a1
      have efk : ∀ args w, (callFunc fk args).run Tryd.prog w = .ok (.enter fk args) w := by rw [hfk]; exact HE.out k hlt
      have hki : (k : Int) < (n : Int) := by omega
      have hk0 : (0 : Int) ≤ (k : Int) := by omega
      have B2 : Hid (Below w.heap.size w (wr.alloc (.cells #[.string kd, .func (.func fk) #[] #[]] 56))) := HW.out.alloc HW.out.size _
      have HKD : Hid (kd = kw k ∧ fk = kf k) := ⟨hkd, hfk⟩
      clear hkd hfk
      by_cases hw : kd.toList = word.toList
      · have HWD : Hid (kw k = word) := Lib.hid (by rw [← HKD.out.1]; exact ba_eq (by rw [← Lib.toList_data, ← Lib.toList_data, hw]))
        cases found
        · go_wp2
          go_ret
          exact Or.inr ⟨Or.inl rfl, rfl, B2.out⟩
        · have CR : Hid (∀ W, Below w.heap.size w W → Calls Tryd.prog fk #[.pointer (some ⟨sb, 0, none⟩), .string rest] W fun e w' => e = .returned (.bool (ok k)) ∧ Hid (R k e w')) := by rw [HKD.out.2]; exact HR.out k hlt rfl
          go_wp2_with (first | (go_at_fn fk; (with_reducible refine (CR.out _ B2.out).mono ?_); rintro e w3 ⟨rfl, hp⟩))
          go_ret
          exact Or.inl ⟨k, hlt, rfl, HWD.out, HM.out, hp.out⟩
      · have HWD : Hid (kw k ≠ word) := Lib.hid (fun h => hw (by rw [HKD.out.1, h]))
        have hwb : (kd.toList == word.toList) = false := beq_eq_false_iff_ne.2 hw
        have hwd : decide (kd.toList = word.toList) = false := decide_eq_false hw
        go_wp2
        go_roundw
        case rel => exact ⟨k + 1, by omega, by go_num, B2, fun j hj => by
          rcases Nat.lt_or_ge j k with h | h
          · exact HM.out j h
          · have : j = k := by omega
            rw [this]; exact HWD.out⟩
        case measure => simp [intOf]; omega
    · have hkn2 : k = n := by omega
      subst hkn2
      go_wp2
      go_ret
      exact Or.inr ⟨Or.inr HM.out, rfl, HW.out⟩

end Go.Proofs.YthmihmnagnibmaaDoor
