/-
  Scripts: the program's readers of a line's rest.
-/
import Derived.Test.YthmihmnagnibmaaDoorPrC
namespace Go.Proofs.YthmihmnagnibmaaDoor
open Go.RowKit

/-- The script that is being read, in its box. -/
structure Sc (sb lo : Nat) (wks cpy : Int) (evs : List EV) (w : World) : Prop where
  st : ∃ v, w.rowIs sb 24 3 (t3 (.int .i64 wks) (.int .i64 cpy) v) ∧ OwnE w lo v evs
  lt : sb < lo
  lw : lo ≤ w.heap.size
  len : evs.length ≤ 1048576
  vars : Vars w
theorem Sc.below {sb lo : Nat} {wks cpy : Int} {evs : List EV} {w w' : World} (h : Sc sb lo wks cpy evs w) (hb : Below w.heap.size w w') : Sc sb lo wks cpy evs w' := by
  obtain ⟨⟨v, h1, h2⟩, h3, h4, h5, h6⟩ := h
  exact ⟨⟨v, h1.of_block (hb.block _ h1.lt), own_belowE h2 hb⟩, h3, Nat.le_trans h4 hb.size, h5, h6.below hb⟩
theorem RdPost.below {sb lo : Nat} {w w1 w' : World} {ok : Bool} {wks cpy : Int} {evs : List EV} {e : Ending} (hb : Below w.heap.size w w1) (h : RdPost sb lo w1 ok wks cpy evs e w') : RdPost sb lo w ok wks cpy evs e w' :=
  ⟨h.1, (KeepA.below hb).trans h.2.1, h.2.2⟩
theorem rd_no {sb lo : Nat} {w w' : World} {wks cpy : Int} {evs : List EV} (hb : Below w.heap.size w w') : RdPost sb lo w false wks cpy evs (.returned (.bool false)) w' :=
  ⟨rfl, KeepA.below hb, fun h => by cases h⟩
theorem rd_ok {sb lo : Nat} {w w' : World} {ok ok' : Bool} {wks cpy : Int} {evs : List EV} {e : Ending} (h : RdPost sb lo w ok wks cpy evs e w') (he : ok = ok') : RdPost sb lo w ok' wks cpy evs e w' := he ▸ h

set_option maxRecDepth 100000 in
set_option maxHeartbeats 4000000 in
theorem p_clone (s : ByteArray) (w : World) (hs : s.size ≤ 1048576) :
    Calls Tryd.prog 40 #[.string s] w fun e w' => e = .returned (.string s) ∧ Below w.heap.size w w' := by
  have C : Hid (Calls Tryd.prog 48 #[.string s] w fun e w' => e = .returned (.string s) ∧ Hid (Below w.heap.size w w')) := Tryd.stringslite_Clone s w (by omega)
  go_enter Tryd.func40, Tryd.ntmps40
  go_wp2_with fail
  refine C.out.mono ?_
  rintro e w1 ⟨rfl, hb1⟩
  go_wp2
  go_ret
  exact ⟨rfl, hb1.out⟩

/-- The end of an add, as the readers see it. -/
theorem add_any {sb lo : Nat} {wks cpy : Int} {evs : List EV} {w : World} (h : Sc sb lo wks cpy evs w) (ek ew : Int) (en et : ByteArray) (ok : Bool)
    (CV : ∀ W, Calls Tryd.prog 50 #[.agg #[.int .i64 ek, .string en, .string et, .int .i64 ew], .int .i64 wks] W fun e w' => e = .returned (.bool ok) ∧ Below W.heap.size W w') :
    Calls Tryd.prog 42 #[.pointer (some ⟨sb, 0, none⟩), .agg #[.int .i64 ek, .string en, .string et, .int .i64 ew]] w fun e w' => RdPost sb lo w ok wks cpy (evs ++ [⟨ek, en, et, ew⟩]) e w' := by
  obtain ⟨⟨v, h1, h2⟩, h3, h4, h5, h6⟩ := h
  exact p_add sb lo wks cpy v evs ek ew en et ok w h1 h2 h3 h4 h5 CV

set_option maxRecDepth 100000 in
set_option maxHeartbeats 4000000 in
theorem p_named {sb lo : Nat} {wks cpy : Int} {evs : List EV} {w : World} (h : Sc sb lo wks cpy evs w) (k : Int) (hk : k = 1 ∨ k = 3) (nm : ByteArray) (hs : nm.size ≤ 1048576) :
    Calls Tryd.prog 39 #[.pointer (some ⟨sb, 0, none⟩), .int .i64 k, .string nm] w fun e w' => RdPost sb lo w (decide (isNm nm)) wks cpy (evs ++ [⟨k, nm, ⟨#[]⟩, 0⟩]) e w' := by
  have CC : Hid (Calls Tryd.prog 40 #[.string nm] w fun e w' => e = .returned (.string nm) ∧ Hid (Below w.heap.size w w')) := p_clone nm w hs
  have CA : Hid (∀ W, Below w.heap.size w W → Calls Tryd.prog 42 #[.pointer (some ⟨sb, 0, none⟩), .agg #[.int .i64 k, .string nm, .string ⟨#[]⟩, .int .i64 0]] W fun e w' => e = .returned (.bool (decide (nm.size ≤ 12))) ∧ Hid (RdPost sb lo w (decide (nm.size ≤ 12)) wks cpy (evs ++ [⟨k, nm, ⟨#[]⟩, 0⟩]) e w')) := fun W hW => (add_any (h.below hW) k 0 nm ⟨#[]⟩ (decide (nm.size ≤ 12)) (fun W => v_named k hk nm wks W (by omega))).mono fun e w' hp => ⟨hp.1, RdPost.below hW hp⟩
  clear h hk
  by_cases hc : 0 ≤ Lib.indexByte nm.data.toList 32
  · have hd : decide (0 ≤ Lib.indexByte nm.data.toList 32) = true := decide_eq_true hc
    have HN : Hid (decide (isNm nm) = false) := Lib.hid (by
      rw [decide_eq_false_iff_not]
      rintro ⟨h1, _⟩
      obtain ⟨i, hi, h2⟩ := (has_sp nm).1 hc
      exact h1 i hi h2)
    have C47 : Hid (Calls Tryd.prog 47 #[.string nm, .string ⟨#[32]⟩] w fun e w' => e = .returned (.bool true) ∧ w' = w) := by
      have := Tryd.strings_Contains_one nm 32 w
      rw [hd] at this
      exact this
    clear hd hc
    go_enter Tryd.func39, Tryd.ntmps39
    go_wp2_with (first | (go_at_call 47; (with_reducible refine C47.out.mono ?_); rintro e w1 ⟨rfl, rfl⟩))
    go_ret
    exact rd_ok (rd_no (Below.refl _ _)) HN.out.symm
  · have hd : decide (0 ≤ Lib.indexByte nm.data.toList 32) = false := decide_eq_false hc
    have HN : Hid (decide (isNm nm) = decide (nm.size ≤ 12)) := Lib.hid (by
      rw [Bool.eq_iff_iff, decide_eq_true_eq, decide_eq_true_eq]
      exact ⟨fun h => h.2, fun h => ⟨fun i hi h2 => hc ((has_sp nm).2 ⟨i, hi, h2⟩), h⟩⟩)
    have C47 : Hid (Calls Tryd.prog 47 #[.string nm, .string ⟨#[32]⟩] w fun e w' => e = .returned (.bool false) ∧ w' = w) := by
      have := Tryd.strings_Contains_one nm 32 w
      rw [hd] at this
      exact this
    clear hd hc
    obtain ⟨ok, hok⟩ : ∃ ok, ok = decide (nm.size ≤ 12) := ⟨_, rfl⟩
    rw [← hok] at CA HN
    clear hok
    go_enter Tryd.func39, Tryd.ntmps39
    go_wp2_with (first | (go_at_call 47; (with_reducible refine C47.out.mono ?_); rintro e w1 ⟨rfl, rfl⟩) | (go_at_call 40; (with_reducible refine CC.out.mono ?_); rintro e w2 ⟨rfl, hb2⟩) | (go_at_call 42; (with_reducible refine (CA.out _ hb2.out).mono ?_); rintro e w3 ⟨rfl, hp3⟩))
    go_ret
    exact rd_ok hp3.out HN.out.symm

end Go.Proofs.YthmihmnagnibmaaDoor
