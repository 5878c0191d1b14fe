/-
  Scripts: the program's readers, one for each kind of line.
-/
import Derived.Test.YthmihmnagnibmaaDoorPrD
namespace Go.Proofs.YthmihmnagnibmaaDoor
open Go.RowKit

set_option maxRecDepth 100000 in
set_option maxHeartbeats 4000000 in
theorem p_ask {sb lo : Nat} {wks cpy : Int} {evs : List EV} {w : World} (h : Sc sb lo wks cpy evs w) (r : ByteArray) (hs : r.size ≤ 1048576) :
    Calls Tryd.prog 29 #[.pointer (some ⟨sb, 0, none⟩), .string r] w fun e w' => RdPost sb lo w (decide (isNm r)) wks cpy (evs ++ [⟨1, r, ⟨#[]⟩, 0⟩]) e w' := by
  have C : Hid (Calls Tryd.prog 39 #[.pointer (some ⟨sb, 0, none⟩), .int .i64 1, .string r] w fun e w' => e = .returned (.bool (decide (isNm r))) ∧ Hid (RdPost sb lo w (decide (isNm r)) wks cpy (evs ++ [⟨1, r, ⟨#[]⟩, 0⟩]) e w')) := (p_named h 1 (by omega) r hs).mono fun e w' hp => ⟨hp.1, hp⟩
  clear h
  obtain ⟨ok, hok⟩ : ∃ ok, ok = decide (isNm r) := ⟨_, rfl⟩
  rw [← hok] at C ⊢
  clear hok
  go_enter Tryd.func29, Tryd.ntmps29
  go_wp2_with fail
  refine C.out.mono ?_
  rintro e w1 ⟨rfl, hp⟩
  go_wp2
  go_ret
  exact hp.out

set_option maxRecDepth 100000 in
set_option maxHeartbeats 4000000 in
theorem p_drop {sb lo : Nat} {wks cpy : Int} {evs : List EV} {w : World} (h : Sc sb lo wks cpy evs w) (r : ByteArray) (hs : r.size ≤ 1048576) :
    Calls Tryd.prog 31 #[.pointer (some ⟨sb, 0, none⟩), .string r] w fun e w' => RdPost sb lo w (decide (isNm r)) wks cpy (evs ++ [⟨3, r, ⟨#[]⟩, 0⟩]) e w' := by
  have C : Hid (Calls Tryd.prog 39 #[.pointer (some ⟨sb, 0, none⟩), .int .i64 3, .string r] w fun e w' => e = .returned (.bool (decide (isNm r))) ∧ Hid (RdPost sb lo w (decide (isNm r)) wks cpy (evs ++ [⟨3, r, ⟨#[]⟩, 0⟩]) e w')) := (p_named h 3 (by omega) r hs).mono fun e w' hp => ⟨hp.1, hp⟩
  clear h
  obtain ⟨ok, hok⟩ : ∃ ok, ok = decide (isNm r) := ⟨_, rfl⟩
  rw [← hok] at C ⊢
  clear hok
  go_enter Tryd.func31, Tryd.ntmps31
  go_wp2_with fail
  refine C.out.mono ?_
  rintro e w1 ⟨rfl, hp⟩
  go_wp2
  go_ret
  exact hp.out

theorem keep_set {sb lo i : Nat} {W : World} (v : Value) : KeepA sb lo W (W.setCell ⟨sb, i, none⟩ v) :=
  ⟨rfl, rfl, rfl, fun k _ _ h => Below.heap_setCell _ _ _ _ (by show k ≠ sb; exact h), KeepsOthers.setCell _ _ _⟩
theorem set_w {sb lo : Nat} {wks cpy n : Int} {evs : List EV} {w w1 : World} {ok : Bool} (h : Sc sb lo wks cpy evs w) (hb : Below w.heap.size w w1) {m : Int} (hn : ok = true → n = m) :
    RdPost sb lo w ok m cpy evs (.returned (.bool ok)) (w1.setCell ⟨sb, 0, none⟩ (.int .i64 n)) := by
  obtain ⟨⟨v, h1, h2⟩, h3, h4, h5, h6⟩ := h.below hb
  refine ⟨rfl, (KeepA.below hb).trans (keep_set _), fun he => ⟨v, ?_, own_setE h2 (Nat.le_refl _) h3⟩⟩
  rw [← hn he]
  exact (h1.set 0 _).congr (fun i hi => by
      match i, hi with
      | 0, _ => rfl
      | 1, _ => rfl
      | 2, _ => rfl)
theorem set_c {sb lo : Nat} {wks cpy n : Int} {evs : List EV} {w w1 : World} {ok : Bool} (h : Sc sb lo wks cpy evs w) (hb : Below w.heap.size w w1) {m : Int} (hn : ok = true → n = m) :
    RdPost sb lo w ok wks m evs (.returned (.bool ok)) (w1.setCell ⟨sb, 1, none⟩ (.int .i64 n)) := by
  obtain ⟨⟨v, h1, h2⟩, h3, h4, h5, h6⟩ := h.below hb
  refine ⟨rfl, (KeepA.below hb).trans (keep_set _), fun he => ⟨v, ?_, own_setE h2 (Nat.le_refl _) h3⟩⟩
  rw [← hn he]
  exact (h1.set 1 _).congr (fun i hi => by
      match i, hi with
      | 0, _ => rfl
      | 1, _ => rfl
      | 2, _ => rfl)
theorem Sc.cells {sb lo : Nat} {wks cpy : Int} {evs : List EV} {w : World} (h : Sc sb lo wks cpy evs w) : w.cell? ⟨sb, 0, none⟩ = some (.int .i64 wks) ∧ w.frozen? ⟨sb, 0, none⟩ = false ∧ w.cell? ⟨sb, 1, none⟩ = some (.int .i64 cpy) ∧ w.frozen? ⟨sb, 1, none⟩ = false := by
  obtain ⟨⟨v, h1, h2⟩, h3, h4, h5, h6⟩ := h
  exact ⟨h1.cell (i := 0) (by omega), h1.frozen 0, h1.cell (i := 1) (by omega), h1.frozen 1⟩

set_option maxRecDepth 100000 in
set_option maxHeartbeats 4000000 in
theorem p_workers {sb lo : Nat} {wks cpy : Int} {evs : List EV} {w : World} (h : Sc sb lo wks cpy evs w) (r : ByteArray) (hs : r.size ≤ 1048576) :
    Calls Tryd.prog 27 #[.pointer (some ⟨sb, 0, none⟩), .string r] w fun e w' => RdPost sb lo w (decide (1 ≤ num r ∧ num r ≤ 16)) (num r) cpy evs e w' := by
  have HS : Hid (Sc sb lo wks cpy evs w) := h
  obtain ⟨m, hm⟩ : ∃ m, m = num r := ⟨_, rfl⟩
  obtain ⟨ok, hok⟩ : ∃ ok, ok = decide (1 ≤ num r ∧ num r ≤ 16) := ⟨_, rfl⟩
  have C : Hid (Calls Tryd.prog 38 #[.string r, .int .i64 1, .int .i64 16] w fun e w' => ∃ n, e = .returned (.tuple #[.int .i64 n, .bool ok]) ∧ Hid (ok = true → n = m) ∧ Hid (Below w.heap.size w w')) := (p_num r 1 16 w h.vars hs (by omega) (by omega)).mono fun e w' ⟨n, h1, h2, h3⟩ => ⟨n, by rw [hok]; exact h1, fun h4 => by rw [hm]; exact h2 (of_decide_eq_true (by rw [← hok]; exact h4)), h3⟩
  rw [← hok, ← hm]
  clear hok hm h
  go_enter Tryd.func27, Tryd.ntmps27
  go_wp2_with fail
  refine C.out.mono ?_
  rintro e w1 ⟨n, rfl, hn, hb⟩
  obtain ⟨c0, f0, c1, f1⟩ := (HS.out.below hb.out).cells
  go_wp2
  go_ret
  exact set_w HS.out hb.out hn.out

set_option maxRecDepth 100000 in
set_option maxHeartbeats 4000000 in
theorem p_capacity {sb lo : Nat} {wks cpy : Int} {evs : List EV} {w : World} (h : Sc sb lo wks cpy evs w) (r : ByteArray) (hs : r.size ≤ 1048576) :
    Calls Tryd.prog 28 #[.pointer (some ⟨sb, 0, none⟩), .string r] w fun e w' => RdPost sb lo w (decide (1 ≤ num r ∧ num r ≤ 4096)) wks (num r) evs e w' := by
  have HS : Hid (Sc sb lo wks cpy evs w) := h
  obtain ⟨m, hm⟩ : ∃ m, m = num r := ⟨_, rfl⟩
  obtain ⟨ok, hok⟩ : ∃ ok, ok = decide (1 ≤ num r ∧ num r ≤ 4096) := ⟨_, rfl⟩
  have C : Hid (Calls Tryd.prog 38 #[.string r, .int .i64 1, .int .i64 4096] w fun e w' => ∃ n, e = .returned (.tuple #[.int .i64 n, .bool ok]) ∧ Hid (ok = true → n = m) ∧ Hid (Below w.heap.size w w')) := (p_num r 1 4096 w h.vars hs (by omega) (by omega)).mono fun e w' ⟨n, h1, h2, h3⟩ => ⟨n, by rw [hok]; exact h1, fun h4 => by rw [hm]; exact h2 (of_decide_eq_true (by rw [← hok]; exact h4)), h3⟩
  rw [← hok, ← hm]
  clear hok hm h
  go_enter Tryd.func28, Tryd.ntmps28
  go_wp2_with fail
  refine C.out.mono ?_
  rintro e w1 ⟨n, rfl, hn, hb⟩
  obtain ⟨c0, f0, c1, f1⟩ := (HS.out.below hb.out).cells
  go_wp2
  go_ret
  exact set_c HS.out hb.out hn.out

set_option maxRecDepth 100000 in
set_option maxHeartbeats 4000000 in
theorem p_pick {sb lo : Nat} {wks cpy : Int} {evs : List EV} {w : World} (h : Sc sb lo wks cpy evs w) (h1 : 1 ≤ wks) (h2 : wks ≤ 16) (r : ByteArray) (hs : r.size ≤ 1048576) :
    Calls Tryd.prog 32 #[.pointer (some ⟨sb, 0, none⟩), .string r] w fun e w' => RdPost sb lo w (decide (0 ≤ num r ∧ num r < wks)) wks cpy (evs ++ [⟨4, ⟨#[]⟩, ⟨#[]⟩, num r⟩]) e w' := by
  have HS : Hid (Sc sb lo wks cpy evs w) := h
  have HW : Hid (1 ≤ wks ∧ wks ≤ 16) := ⟨h1, h2⟩
  obtain ⟨m, hm⟩ : ∃ m, m = num r := ⟨_, rfl⟩
  obtain ⟨ok, hok⟩ : ∃ ok, ok = decide (0 ≤ num r ∧ num r < wks) := ⟨_, rfl⟩
  have hok2 : ok = decide (0 ≤ num r ∧ num r ≤ wks - 1) := by
    rw [hok, Bool.eq_iff_iff, decide_eq_true_eq, decide_eq_true_eq]; omega
  have C : Hid (Calls Tryd.prog 38 #[.string r, .int .i64 0, .int .i64 (wks - 1)] w fun e w' => ∃ n, e = .returned (.tuple #[.int .i64 n, .bool ok]) ∧ Hid (ok = true → n = m) ∧ Hid (Below w.heap.size w w')) := (p_num r 0 (wks - 1) w h.vars hs (by omega) (by omega)).mono fun e w' ⟨n, h1, h2, h3⟩ => ⟨n, by rw [hok2]; exact h1, fun h4 => by rw [hm]; exact h2 (of_decide_eq_true (by rw [← hok2]; exact h4)), h3⟩
  have CA : Hid (ok = true → ∀ W, Below w.heap.size w W → Calls Tryd.prog 42 #[.pointer (some ⟨sb, 0, none⟩), .agg #[.int .i64 4, .string ⟨#[]⟩, .string ⟨#[]⟩, .int .i64 m]] W fun e w' => e = .returned (.bool true) ∧ Hid (RdPost sb lo w true wks cpy (evs ++ [⟨4, ⟨#[]⟩, ⟨#[]⟩, m⟩]) e w')) := fun ho W hW => (add_any (h.below hW) 4 m ⟨#[]⟩ ⟨#[]⟩ true (fun W => by
      have h5 := v_pick m wks W
      rw [hm] at h5 ⊢
      rw [← hok, ho] at h5
      exact h5)).mono fun e w' hp => ⟨hp.1, RdPost.below hW hp⟩
  rw [← hok, ← hm]
  clear hok hok2 hm
  obtain ⟨c0, f0, c1, f1⟩ := h.cells
  clear h
  cases ok
  · go_enter Tryd.func32, Tryd.ntmps32
    go_wp2_with (first | (go_at_call 38; (with_reducible refine C.out.mono ?_); rintro e w1 ⟨n, rfl, hn, hb⟩))
    go_ret
    exact rd_no hb.out
  · have CB : Hid (∀ W, Below w.heap.size w W → Calls Tryd.prog 42 #[.pointer (some ⟨sb, 0, none⟩), .agg #[.int .i64 4, .string ⟨#[]⟩, .string ⟨#[]⟩, .int .i64 m]] W fun e w' => e = .returned (.bool true) ∧ Hid (RdPost sb lo w true wks cpy (evs ++ [⟨4, ⟨#[]⟩, ⟨#[]⟩, m⟩]) e w')) := CA.out rfl
    clear CA
    go_enter Tryd.func32, Tryd.ntmps32
    go_wp2_with (first | (go_at_call 38; (with_reducible refine C.out.mono ?_); rintro e w1 ⟨n, rfl, hn, hb⟩; obtain rfl := hn.out rfl) | (go_at_call 42; (with_reducible refine (CB.out _ hb.out).mono ?_); rintro e w2 ⟨rfl, hp⟩))
    go_ret
    exact hp.out

theorem txt_empty : txtTo ⟨#[]⟩ 0 = ⟨#[]⟩ := rfl
theorem k_repl (b : ByteArray) (w : World) (hv : Vars w) (hs : b.size ≤ 1048576) :
    Calls Tryd.prog 41 #[.string b, .string ⟨#[124]⟩, .string ⟨#[10]⟩] w fun e w' => e = .returned (.string (txtTo b b.size)) ∧ Below w.heap.size w w' := by
  obtain ⟨m, hm⟩ := hv.max
  have hc : Lib.countB b ⟨#[124]⟩ ≤ b.size + 1 := by
    have := Lib.count_le b.data.toList [124]
    rw [Array.length_toList] at this
    exact this
  refine (Tryd.strings_ReplaceAll b ⟨#[124]⟩ ⟨#[10]⟩ m w (by omega) hm (by decide) ?_).mono fun e w' ⟨he, hb⟩ => ⟨?_, hb⟩
  · show b.size + Lib.countB b ⟨#[124]⟩ * 1 ≤ 140737488355328
    omega
  · rw [he]
    show Ending.returned (.string ⟨(Lib.replaceAll b.data.toList [124] [10]).toArray⟩) = _
    rw [txt_repl]
theorem k_cut_yes (r : ByteArray) (w : World) (hv : Vars w) (hs : r.size ≤ 1048576) (i : Nat) (hi : i < r.size) (h : by_ r i = 32) (hm : ∀ j, j < i → by_ r j ≠ 32) :
    Calls Tryd.prog 25 #[.string r, .string ⟨#[32]⟩] w fun e w' => e = .returned (.tuple #[.string (r.extract 0 i), .string (r.extract (i + 1) r.size), .bool true]) ∧ Below w.heap.size w w' := by
  obtain ⟨m, hx⟩ := hv.max
  refine (Tryd.strings_Cut r ⟨#[32]⟩ m w (by omega) hx).mono fun e w' ⟨he, n, hw⟩ => ⟨?_, by rw [hw]; exact ⟨rfl, rfl, rfl, Nat.le_refl _, fun _ _ => rfl⟩⟩
  rw [he]
  show Ending.returned (.tuple #[.string ⟨(Lib.cut r.data.toList [32]).1.toArray⟩, .string ⟨(Lib.cut r.data.toList [32]).2.1.toArray⟩, .bool (Lib.cut r.data.toList [32]).2.2]) = _
  rw [cut_yes hi h hm]
theorem k_cut_no (r : ByteArray) (w : World) (hv : Vars w) (hs : r.size ≤ 1048576) (hm : ∀ j, j < r.size → by_ r j ≠ 32) :
    Calls Tryd.prog 25 #[.string r, .string ⟨#[32]⟩] w fun e w' => e = .returned (.tuple #[.string r, .string ⟨#[]⟩, .bool false]) ∧ Below w.heap.size w w' := by
  obtain ⟨m, hx⟩ := hv.max
  refine (Tryd.strings_Cut r ⟨#[32]⟩ m w (by omega) hx).mono fun e w' ⟨he, n, hw⟩ => ⟨?_, by rw [hw]; exact ⟨rfl, rfl, rfl, Nat.le_refl _, fun _ _ => rfl⟩⟩
  rw [he]
  show Ending.returned (.tuple #[.string ⟨(Lib.cut r.data.toList [32]).1.toArray⟩, .string ⟨(Lib.cut r.data.toList [32]).2.1.toArray⟩, .bool (Lib.cut r.data.toList [32]).2.2]) = _
  rw [cut_no hm]

set_option maxRecDepth 100000 in
set_option maxHeartbeats 4000000 in
theorem p_edit {sb lo : Nat} {wks cpy : Int} {evs : List EV} {w : World} (h : Sc sb lo wks cpy evs w) (r : ByteArray) (hs : r.size ≤ 1048576) :
    Calls Tryd.prog 30 #[.pointer (some ⟨sb, 0, none⟩), .string r] w fun e w' => RdPost sb lo w (editEv r).2 wks cpy (evs ++ [(editEv r).1]) e w' := by
  rcases by_cases_first r 32 r.size (Nat.le_refl _) with ⟨i, hi, h1, h2⟩ | hm
  · obtain ⟨nm, hnm⟩ : ∃ nm, nm = r.extract 0 i := ⟨_, rfl⟩
    obtain ⟨br, hbr⟩ : ∃ br, br = r.extract (i + 1) r.size := ⟨_, rfl⟩
    obtain ⟨tx, htx⟩ : ∃ tx, tx = txtTo br br.size := ⟨_, rfl⟩
    have e1 : editEv r = (⟨2, nm, tx, 0⟩, decide (nm.size ≤ 12 ∧ tx.size ≤ 1000)) := by
      unfold editEv
      rw [first_some hi h1 h2, htx, hbr, hnm]
    have s1 : nm.size ≤ 1048576 := by rw [hnm, ByteArray.size_extract]; omega
    have s2 : br.size ≤ 1048576 := by rw [hbr, ByteArray.size_extract]; omega
    have s3 : tx.size ≤ 1048576 := by have := txt_size br br.size (Nat.le_refl _); rw [htx]; omega
    have CC : Hid (Calls Tryd.prog 25 #[.string r, .string ⟨#[32]⟩] w fun e w' => e = .returned (.tuple #[.string nm, .string br, .bool true]) ∧ Hid (Below w.heap.size w w')) := by
      rw [hnm, hbr]; exact k_cut_yes r w h.vars hs i hi h1 h2
    have CR : Hid (∀ W, Below w.heap.size w W → Calls Tryd.prog 41 #[.string br, .string ⟨#[124]⟩, .string ⟨#[10]⟩] W fun e w' => e = .returned (.string tx) ∧ Hid (Below w.heap.size w w')) := fun W hW => (k_repl br W (h.vars.below hW) s2).mono fun e w' ⟨he, hb⟩ => ⟨by rw [htx]; exact he, hW.trans (hb.mono hW.size)⟩
    have CL : Hid (∀ W, Below w.heap.size w W → Calls Tryd.prog 40 #[.string tx] W fun e w' => e = .returned (.string tx) ∧ Hid (Below w.heap.size w w')) := fun W hW => (p_clone tx W s3).mono fun e w' ⟨he, hb⟩ => ⟨he, hW.trans (hb.mono hW.size)⟩
    have CN : Hid (∀ W, Below w.heap.size w W → Calls Tryd.prog 40 #[.string nm] W fun e w' => e = .returned (.string nm) ∧ Hid (Below w.heap.size w w')) := fun W hW => (p_clone nm W s1).mono fun e w' ⟨he, hb⟩ => ⟨he, hW.trans (hb.mono hW.size)⟩
    obtain ⟨ok, hok⟩ : ∃ ok, ok = decide (nm.size ≤ 12 ∧ tx.size ≤ 1000) := ⟨_, rfl⟩
    have CA : Hid (∀ W, Below w.heap.size w W → Calls Tryd.prog 42 #[.pointer (some ⟨sb, 0, none⟩), .agg #[.int .i64 2, .string nm, .string tx, .int .i64 0]] W fun e w' => e = .returned (.bool ok) ∧ Hid (RdPost sb lo w ok wks cpy (evs ++ [⟨2, nm, tx, 0⟩]) e w')) := fun W hW => (add_any (h.below hW) 2 0 nm tx ok (fun W => by rw [hok]; exact v_edit nm tx wks W (by omega) (by omega))).mono fun e w' hp => ⟨hp.1, RdPost.below hW hp⟩
    rw [e1]
    show Calls _ _ _ w fun e w' => RdPost sb lo w (decide (nm.size ≤ 12 ∧ tx.size ≤ 1000)) wks cpy (evs ++ [⟨2, nm, tx, 0⟩]) e w'
    rw [← hok]
    clear h hok htx hbr hnm e1 s1 s2 s3 h1 h2 hi
    go_enter Tryd.func30, Tryd.ntmps30
    go_wp2_with fail
    refine CC.out.mono ?_
    rintro e w1 ⟨rfl, hb1⟩
    go_wp2_with fail
    refine (CR.out _ hb1.out).mono ?_
    rintro e w2 ⟨rfl, hb2⟩
    go_wp2_with fail
    refine (CL.out _ hb2.out).mono ?_
    rintro e w3 ⟨rfl, hb3⟩
    go_wp2_with (first | (go_at_call 40; (with_reducible refine (CN.out _ hb3.out).mono ?_); rintro e w4 ⟨rfl, hb4⟩) | (go_at_call 42; (with_reducible refine (CA.out _ hb4.out).mono ?_); rintro e w5 ⟨rfl, hp⟩))
    go_ret
    exact hp.out
  · have e1 : editEv r = (evz, false) := by
      unfold editEv
      rw [first_none hm]
    have CC : Hid (Calls Tryd.prog 25 #[.string r, .string ⟨#[32]⟩] w fun e w' => e = .returned (.tuple #[.string r, .string ⟨#[]⟩, .bool false]) ∧ Hid (Below w.heap.size w w')) := k_cut_no r w h.vars hs hm
    have CR : Hid (∀ W, Below w.heap.size w W → Calls Tryd.prog 41 #[.string ⟨#[]⟩, .string ⟨#[124]⟩, .string ⟨#[10]⟩] W fun e w' => e = .returned (.string ⟨#[]⟩) ∧ Hid (Below w.heap.size w w')) := fun W hW => (k_repl ⟨#[]⟩ W (h.vars.below hW) (by decide)).mono fun e w' ⟨he, hb⟩ => ⟨he, hW.trans (hb.mono hW.size)⟩
    have CL : Hid (∀ W, Below w.heap.size w W → Calls Tryd.prog 40 #[.string ⟨#[]⟩] W fun e w' => e = .returned (.string ⟨#[]⟩) ∧ Hid (Below w.heap.size w w')) := fun W hW => (p_clone ⟨#[]⟩ W (by decide)).mono fun e w' ⟨he, hb⟩ => ⟨he, hW.trans (hb.mono hW.size)⟩
    rw [e1]
    show Calls _ _ _ w fun e w' => RdPost sb lo w false wks cpy (evs ++ [evz]) e w'
    clear h e1 hm
    go_enter Tryd.func30, Tryd.ntmps30
    go_wp2_with fail
    refine CC.out.mono ?_
    rintro e w1 ⟨rfl, hb1⟩
    go_wp2_with fail
    refine (CR.out _ hb1.out).mono ?_
    rintro e w2 ⟨rfl, hb2⟩
    go_wp2_with fail
    refine (CL.out _ hb2.out).mono ?_
    rintro e w3 ⟨rfl, hb3⟩
    go_wp2
    go_ret
    exact rd_no hb3.out

end Go.Proofs.YthmihmnagnibmaaDoor
