/-
  Scripts: a line that is an event, in the model.
-/
import Derived.Test.YthmihmnagnibmaaDoorScrC
import Derived.Deep.RegionWith
import Derived.Deep.RegionHeld3
namespace Go.Proofs.YthmihmnagnibmaaDoor
open Go.RowKit

/-- An event. -/
structure EV where
  kind : Int
  name : ByteArray
  text : ByteArray
  wk : Int
def evz : EV := ⟨0, ⟨#[]⟩, ⟨#[]⟩, 0⟩
def evv (e : EV) : Value := .agg #[.int .i64 e.kind, .string e.name, .string e.text, .int .i64 e.wk]

/-- The first blank. -/
def firstSp (s : ByteArray) : Option Nat := (List.range s.size).find? (fun i => decide (by_ s i = 32))
def editEv (r : ByteArray) : EV × Bool :=
  match firstSp r with
  | none => (evz, false)
  | some i => (⟨2, r.extract 0 i, txtTo (r.extract (i + 1) r.size) (r.extract (i + 1) r.size).size, 0⟩, decide ((r.extract 0 i).size ≤ 12 ∧ (txtTo (r.extract (i + 1) r.size) (r.extract (i + 1) r.size).size).size ≤ 1000))
/-- What a line is read as. -/
def evOf (l : ByteArray) (wks : Int) : EV × Bool :=
  if isAft l ⟨#[97, 115, 107]⟩ then (⟨1, aft l ⟨#[97, 115, 107]⟩, ⟨#[]⟩, 0⟩, decide (isNm (aft l ⟨#[97, 115, 107]⟩)))
  else if isAft l ⟨#[100, 114, 111, 112]⟩ then (⟨3, aft l ⟨#[100, 114, 111, 112]⟩, ⟨#[]⟩, 0⟩, decide (isNm (aft l ⟨#[100, 114, 111, 112]⟩)))
  else if isAft l ⟨#[112, 105, 99, 107]⟩ then (⟨4, ⟨#[]⟩, ⟨#[]⟩, num (aft l ⟨#[112, 105, 99, 107]⟩)⟩, decide (0 ≤ num (aft l ⟨#[112, 105, 99, 107]⟩) ∧ num (aft l ⟨#[112, 105, 99, 107]⟩) < wks))
  else if isAft l ⟨#[101, 100, 105, 116]⟩ then editEv (aft l ⟨#[101, 100, 105, 116]⟩)
  else (evz, false)

theorem aft_size (l wd : ByteArray) : (aft l wd).size ≤ l.size := by
  unfold aft
  split
  · rw [ByteArray.size_extract]; omega
  · exact Nat.zero_le _
theorem first_some {s : ByteArray} {i : Nat} (hi : i < s.size) (h : by_ s i = 32) (hm : ∀ j, j < i → by_ s j ≠ 32) : firstSp s = some i := by
  unfold firstSp
  rw [List.find?_range_eq_some]
  exact ⟨decide_eq_true h, List.mem_range.2 hi, fun j hj => by simp [hm j hj]⟩
theorem first_none {s : ByteArray} (hm : ∀ j, j < s.size → by_ s j ≠ 32) : firstSp s = none := by
  unfold firstSp
  rw [List.find?_eq_none]
  intro j hj
  simp [hm j (List.mem_range.1 hj)]

/-- What the reading of an event gives. -/
def EvPost (w : World) (ev : EV × Bool) (e : Ending) (w' : World) : Prop := e = .returned (.tuple #[evv ev.1, .bool ev.2]) ∧ Below w.heap.size w w'

set_option maxRecDepth 100000 in
set_option maxHeartbeats 2000000 in
theorem m_event (l : ByteArray) (wks : Int) (w : World) (hl : l.size ≤ 1048576) :
    Calls Tryd.prog 12 #[.string l, .int .i64 wks] w fun e w' => EvPost w (evOf l wks) e w' := by
  obtain ⟨ev, hev⟩ : ∃ ev, ev = evOf l wks := ⟨_, rfl⟩
  rw [← hev]
  have HEV : Hid (ev = evOf l wks) := hev
  clear hev
  go_enter Tryd.func12, Tryd.ntmps12
  go_wp2_with fail
  refine (m_after l ⟨#[97, 115, 107]⟩ _ (by omega) (by decide)).mono ?_
  rintro e wa ⟨rfl, hwa⟩
  subst hwa
  by_cases hask : isAft l ⟨#[97, 115, 107]⟩
  · have HA : Hid (isAft l ⟨#[97, 115, 107]⟩) := hask
    rw [decide_eq_true hask]
    obtain ⟨r, hr⟩ : ∃ r, r = aft l ⟨#[97, 115, 107]⟩ := ⟨_, rfl⟩
    rw [← hr]
    have hrs : r.size ≤ l.size := by rw [hr]; exact aft_size _ _
    have HE : Hid (ev = (⟨1, r, ⟨#[]⟩, 0⟩, decide (isNm r))) := by rw [HEV.out]; unfold evOf; rw [if_pos HA.out, hr]; rfl
    clear hask hr
    go_wp2_with fail
    refine (m_name r _ (by omega)).mono ?_
    rintro e wb ⟨rfl, hwb⟩
    subst hwb
    obtain ⟨q, hq⟩ : ∃ q, q = decide (isNm r) := ⟨_, rfl⟩
    rw [← hq]
    rw [← hq] at HE
    clear hq
    go_wp2
    exact bodyPost_ret (v := .tuple #[evv ⟨1, r, ⟨#[]⟩, 0⟩, .bool q]) (by simp [results, Tryd.results12, go_sem, evv]) rfl ⟨by rw [HE.out], bel1 _ _⟩
  have HN_ask : Hid (¬ isAft l ⟨#[97, 115, 107]⟩) := hask
  rw [decide_eq_false hask]
  clear hask
  go_wp2_with fail
  refine (m_after l ⟨#[100, 114, 111, 112]⟩ _ (by omega) (by decide)).mono ?_
  rintro e wb ⟨rfl, hwb⟩
  subst hwb
  by_cases hdrop : isAft l ⟨#[100, 114, 111, 112]⟩
  · have HA : Hid (isAft l ⟨#[100, 114, 111, 112]⟩) := hdrop
    rw [decide_eq_true hdrop]
    obtain ⟨r, hr⟩ : ∃ r, r = aft l ⟨#[100, 114, 111, 112]⟩ := ⟨_, rfl⟩
    rw [← hr]
    have hrs : r.size ≤ l.size := by rw [hr]; exact aft_size _ _
    have HE : Hid (ev = (⟨3, r, ⟨#[]⟩, 0⟩, decide (isNm r))) := by rw [HEV.out]; unfold evOf; rw [if_neg HN_ask.out, if_pos HA.out, hr]; rfl
    clear hdrop hr
    go_wp2_with fail
    refine (m_name r _ (by omega)).mono ?_
    rintro e wb ⟨rfl, hwb⟩
    subst hwb
    obtain ⟨q, hq⟩ : ∃ q, q = decide (isNm r) := ⟨_, rfl⟩
    rw [← hq]
    rw [← hq] at HE
    clear hq
    go_wp2
    exact bodyPost_ret (v := .tuple #[evv ⟨3, r, ⟨#[]⟩, 0⟩, .bool q]) (by simp [results, Tryd.results12, go_sem, evv]) rfl ⟨by rw [HE.out], bel1 _ _⟩
  have HN_drop : Hid (¬ isAft l ⟨#[100, 114, 111, 112]⟩) := hdrop
  rw [decide_eq_false hdrop]
  clear hdrop
  go_wp2_with fail
  refine (m_after l ⟨#[112, 105, 99, 107]⟩ _ (by omega) (by decide)).mono ?_
  rintro e wc ⟨rfl, hwc⟩
  subst hwc
  by_cases hpick : isAft l ⟨#[112, 105, 99, 107]⟩
  · have HA : Hid (isAft l ⟨#[112, 105, 99, 107]⟩) := hpick
    rw [decide_eq_true hpick]
    obtain ⟨r, hr⟩ : ∃ r, r = aft l ⟨#[112, 105, 99, 107]⟩ := ⟨_, rfl⟩
    rw [← hr]
    have hrs : r.size ≤ l.size := by rw [hr]; exact aft_size _ _
    obtain ⟨n, hn⟩ : ∃ n, n = num r := ⟨_, rfl⟩
    have HE : Hid (ev = (⟨4, ⟨#[]⟩, ⟨#[]⟩, n⟩, decide (0 ≤ n ∧ n < wks))) := by rw [HEV.out]; unfold evOf; rw [if_neg HN_ask.out, if_neg HN_drop.out, if_pos HA.out, hn, hr]; rfl
    have CN : Hid (∀ W, Calls Tryd.prog 11 #[.string r] W fun e w' => e = .returned (.int .i64 n) ∧ w' = W) := fun W => by rw [hn]; exact m_number r W (by omega)
    clear hpick hr hn
    go_wp2_with fail
    refine (CN.out _).mono ?_
    rintro e wd ⟨rfl, hwd⟩
    subst hwd
    by_cases h0 : 0 ≤ n
    · obtain ⟨q, hq⟩ : ∃ q, q = decide (n < wks) := ⟨_, rfl⟩
      have HQ : Hid (decide (0 ≤ n ∧ n < wks) = decide (n < wks)) := by show _ = _; simp [h0]
      rw [HQ.out] at HE
      go_wp2
      exact bodyPost_ret (v := .tuple #[evv ⟨4, ⟨#[]⟩, ⟨#[]⟩, n⟩, .bool (decide (n < wks))]) (by simp [results, Tryd.results12, go_sem, evv]) rfl ⟨by rw [HE.out], bel1 _ _⟩
    · have HQ : Hid (decide (0 ≤ n ∧ n < wks) = false) := by show _ = _; simp [h0]
      rw [HQ.out] at HE
      have h0' : n < 0 := by omega
      go_wp2
      exact bodyPost_ret (v := .tuple #[evv ⟨4, ⟨#[]⟩, ⟨#[]⟩, n⟩, .bool false]) (by simp [results, Tryd.results12, go_sem, evv]) rfl ⟨by rw [HE.out], bel1 _ _⟩
  have HN_pick : Hid (¬ isAft l ⟨#[112, 105, 99, 107]⟩) := hpick
  rw [decide_eq_false hpick]
  clear hpick
  go_wp2_with fail
  refine (m_after l ⟨#[101, 100, 105, 116]⟩ _ (by omega) (by decide)).mono ?_
  rintro e wd ⟨rfl, hwd⟩
  subst hwd
  by_cases hedit : isAft l ⟨#[101, 100, 105, 116]⟩
  case neg =>
    have HE : Hid (ev = (evz, false)) := by rw [HEV.out]; unfold evOf; rw [if_neg HN_ask.out, if_neg HN_drop.out, if_neg HN_pick.out, if_neg hedit]; rfl
    rw [decide_eq_false hedit]
    clear hedit
    go_wp2
    exact bodyPost_ret (v := .tuple #[evv evz, .bool false]) (by simp [results, Tryd.results12, go_sem, evv, evz]) rfl ⟨by rw [HE.out], bel1 _ _⟩
  have HA : Hid (isAft l ⟨#[101, 100, 105, 116]⟩) := hedit
  rw [decide_eq_true hedit]
  obtain ⟨r, hr⟩ : ∃ r, r = aft l ⟨#[101, 100, 105, 116]⟩ := ⟨_, rfl⟩
  rw [← hr]
  have hrs : r.size ≤ l.size := by rw [hr]; exact aft_size _ _
  have HE : Hid (ev = editEv r) := by rw [HEV.out]; unfold evOf; rw [if_neg HN_ask.out, if_neg HN_drop.out, if_neg HN_pick.out, if_pos HA.out, hr]; rfl
  clear hedit hr
  go_wp2
  go_loop [9] (fun i => ∃ k : Nat, k ≤ r.size ∧ i = .int .i64 (k : Int) ∧ Hid (∀ j, j < k → by_ r j ≠ 32)) (fun i => r.size - (intOf i).toNat)
  case atStart => exact ⟨0, Nat.zero_le _, rfl, fun j h => absurd h (Nat.not_lt_zero _)⟩
  case round =>
    obtain ⟨k, hk, rfl, HM⟩ := hrel
    by_cases hlt : k < r.size
    · have hb := by_at r k hlt
      obtain ⟨d, hd⟩ : ∃ d, d = by_ r k := ⟨_, rfl⟩
      rw [← hd] at hb
      have HDD : Hid (d = by_ r k) := hd
      clear hd
      have hw : IntKind.i64.wrap ((k : Int) + 1) = (k : Int) + 1 := by rw [IntKind.wrap_i64]; omega
      by_cases h32 : d = 32
      · have HF : Hid (firstSp r = some k) := first_some hlt (HDD.out.symm.trans h32) HM.out
        obtain ⟨nm, hnm⟩ : ∃ nm, nm = r.extract 0 k := ⟨_, rfl⟩
        obtain ⟨rs, hrs2⟩ : ∃ rs, rs = r.extract (k + 1) r.size := ⟨_, rfl⟩
        obtain ⟨tx, htx⟩ : ∃ tx, tx = txtTo rs rs.size := ⟨_, rfl⟩
        have HE2 : Hid (ev = (⟨2, nm, tx, 0⟩, decide (nm.size ≤ 12 ∧ tx.size ≤ 1000))) := by rw [HE.out]; unfold editEv; rw [HF.out, hnm, htx, hrs2]; rfl
        have CT : Hid (∀ W, Calls Tryd.prog 22 #[.string (r.extract (k + 1) r.size)] W fun e w' => e = .returned (.string tx) ∧ w' = W) := fun W => by
          rw [htx, hrs2]; exact m_text _ W (by rw [ByteArray.size_extract]; omega)
        have a1 : (k : Int) + 1 ≤ (r.size : Int) := by omega
        have a2 : (0 : Int) ≤ (k : Int) + 1 := by omega
        have a3 : (k : Int) ≤ (r.size : Int) := by omega
        have a4 : ((k : Int) + 1).toNat = k + 1 := by omega
        have a5 : k + 1 ≤ r.size := by omega
        clear hrs2 htx
        go_wp2_with fail
        go_region_with (first | (go_at_call 22; (with_reducible refine (CT.out _).mono ?_); rintro e w5 ⟨rfl, hw5⟩; subst hw5))
        all_goals
          rw [← hnm]
          clear hnm CT
          go_wp2_with fail
          by_cases h12 : (nm.size : Int) ≤ 12
          · have HQ : Hid (decide (nm.size ≤ 12 ∧ tx.size ≤ 1000) = decide ((tx.size : Int) ≤ 1000)) := by
              show _ = _
              by_cases ht : (tx.size : Int) ≤ 1000
              · rw [decide_eq_true ht, decide_eq_true (show nm.size ≤ 12 ∧ tx.size ≤ 1000 from ⟨by omega, by omega⟩)]
              · rw [decide_eq_false ht, decide_eq_false (show ¬ (nm.size ≤ 12 ∧ tx.size ≤ 1000) from fun h => ht (by omega))]
            rw [HQ.out] at HE2
            go_region
            all_goals
              go_wp2
              exact bodyPost_ret (v := .tuple #[evv ⟨2, nm, tx, 0⟩, .bool (decide ((tx.size : Int) ≤ 1000))]) (by simp [results, Tryd.results12, go_sem, evv]) rfl ⟨by rw [HE2.out], ((bel1 w _).alloc (by simp) _).drew.drew⟩
          · have h12' : 12 < (nm.size : Int) := by omega
            have HQ : Hid (decide (nm.size ≤ 12 ∧ tx.size ≤ 1000) = false) := decide_eq_false (fun h => h12 (by have := h.1; omega))
            rw [HQ.out] at HE2
            go_region
            all_goals
              go_wp2
              exact bodyPost_ret (v := .tuple #[evv ⟨2, nm, tx, 0⟩, .bool false]) (by simp [results, Tryd.results12, go_sem, evv]) rfl ⟨by rw [HE2.out], ((bel1 w _).alloc (by simp) _).drew.drew⟩
      · have h33 : (d == 32) = false := beq_eq_false_iff_ne.2 h32
        have HN : Hid (by_ r k ≠ 32) := by rw [← HDD.out]; exact h32
        go_wp2
        go_round
        case rel => exact ⟨k + 1, by omega, by go_num, fun j hj => by
          by_cases e : j = k
          · subst e; exact HN.out
          · exact HM.out j (by omega)⟩
        case measure => simp [intOf]; omega
    · have HF : Hid (firstSp r = none) := first_none (fun j hj => HM.out j (by omega))
      have HE2 : Hid (ev = (evz, false)) := by rw [HE.out]; unfold editEv; rw [HF.out]; rfl
      go_wp2
      exact bodyPost_ret (v := .tuple #[evv evz, .bool false]) (by simp [results, Tryd.results12, go_sem, evv, evz]) rfl ⟨by rw [HE2.out], bel1 _ _⟩

end Go.Proofs.YthmihmnagnibmaaDoor
