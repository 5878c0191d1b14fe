/-
  Scripts: a line by its place, in the program.
-/
import Derived.Test.YthmihmnagnibmaaDoorPrG
namespace Go.Proofs.YthmihmnagnibmaaDoor
open Go.RowKit

/-- The reading of a line in the words of the model. -/
theorem p_any (sb g n cp : Nat) (kw : Nat → ByteArray) (kf : Nat → Nat) (l : ByteArray) (ok : Nat → ByteArray → Bool) (R : Nat → ByteArray → Ending → World → Prop) (w : World) (hn : n ≤ 4) (hs : l.size ≤ 1048576) (hv : Vars w)
    (hk : Kinds w g n kw kf) (he : ∀ k, k < n → ∀ args w, (callFunc (kf k) args).run Tryd.prog w = .ok (.enter (kf k) args) w) (hw : ∀ k, k < n → ∀ i, i < (kw k).size → by_ (kw k) i ≠ 32)
    (hr : ∀ k, k < n → ∀ rest : ByteArray, rest.size ≤ 1048576 → ∀ W, Below w.heap.size w W → Calls Tryd.prog (kf k) #[.pointer (some ⟨sb, 0, none⟩), .string rest] W fun e w' => e = .returned (.bool (ok k rest)) ∧ R k rest e w') :
    Calls Tryd.prog 14 #[.pointer (some ⟨sb, 0, none⟩), .string l, .slice (some ⟨g, 0, none⟩) n cp] w fun e w' =>
      (∃ j, j < n ∧ isAft l (kw j) ∧ (∀ i, i < j → ¬ isAft l (kw i)) ∧ R j (aft l (kw j)) e w') ∨ ((∀ j, j < n → ¬ isAft l (kw j)) ∧ e = .returned (.bool false) ∧ Below w.heap.size w w') := by
  rcases by_cases_first l 32 l.size (Nat.le_refl _) with ⟨i, hi, h1, h2⟩ | hm
  · have sz : (l.extract (i + 1) l.size).size ≤ 1048576 := by rw [ByteArray.size_extract]; omega
    refine (p_line sb g n cp kw kf l (l.extract 0 i) (l.extract (i + 1) l.size) true (fun k => ok k (l.extract (i + 1) l.size)) (fun k => R k (l.extract (i + 1) l.size)) w hn hk he (k_cut_yes l w hv hs i hi h1 h2) (fun k hk _ W hW => hr k hk _ sz W hW)).mono ?_
    rintro e w' (⟨j, hj, _, h3, h4, h5⟩ | ⟨h3, h4, h5⟩)
    · obtain ⟨a1, a2⟩ := aft_yes hi h1 h2 (hw j hj)
      have ha := a1.2 h3.symm
      refine Or.inl ⟨j, hj, ha, fun i2 hi2 h6 => h4 i2 hi2 ((aft_yes hi h1 h2 (hw i2 (by omega))).1.1 h6).symm, ?_⟩
      rw [a2 ha]
      exact h5
    · refine Or.inr ⟨fun j hj h6 => ?_, h4, h5⟩
      rcases h3 with h3 | h3
      · cases h3
      · exact h3 j hj ((aft_yes hi h1 h2 (hw j hj)).1.1 h6).symm
  · refine (p_line sb g n cp kw kf l l ⟨#[]⟩ false (fun k => ok k ⟨#[]⟩) (fun k => R k ⟨#[]⟩) w hn hk he (k_cut_no l w hv hs hm) (fun k _ hf W hW => by cases hf)).mono ?_
    rintro e w' (⟨j, hj, h3, _⟩ | ⟨h3, h4, h5⟩)
    · cases h3
    · exact Or.inr ⟨fun j _ => aft_no hm, h4, h5⟩

theorem no_sp {wd : ByteArray} (h : (List.range wd.size).all (fun i => decide (by_ wd i ≠ 32)) = true) : ∀ i, i < wd.size → by_ wd i ≠ 32 := fun i hi => of_decide_eq_true (List.all_eq_true.1 h i (List.mem_range.2 hi))

/-- What stands in the box behind a line, by its place. -/
def okAt (ix : Nat) (l : ByteArray) (wks : Int) : Bool := if ix = 0 then decide (wksOk l) else if ix = 1 then decide (cpyOk l) else (evOf l wks).2
def wkAt (ix : Nat) (l : ByteArray) (wks : Int) : Int := if ix = 0 then wksOf l else wks
def cpAt (ix : Nat) (l : ByteArray) (cpy : Int) : Int := if ix = 1 then cpyOf l else cpy
def evAt (ix : Nat) (l : ByteArray) (wks : Int) (evs : List EV) : List EV := if ix < 2 then evs else evs ++ [(evOf l wks).1]

set_option maxRecDepth 100000 in
theorem en_w : ∀ args w, (callFunc 27 args).run Tryd.prog w = .ok (.enter 27 args) w := enters_of Tryd.func27 (by kernel_rfl) rfl
set_option maxRecDepth 100000 in
theorem en_c : ∀ args w, (callFunc 28 args).run Tryd.prog w = .ok (.enter 28 args) w := enters_of Tryd.func28 (by kernel_rfl) rfl
set_option maxRecDepth 100000 in
theorem en_a : ∀ args w, (callFunc 29 args).run Tryd.prog w = .ok (.enter 29 args) w := enters_of Tryd.func29 (by kernel_rfl) rfl
set_option maxRecDepth 100000 in
theorem en_e : ∀ args w, (callFunc 30 args).run Tryd.prog w = .ok (.enter 30 args) w := enters_of Tryd.func30 (by kernel_rfl) rfl
set_option maxRecDepth 100000 in
theorem en_d : ∀ args w, (callFunc 31 args).run Tryd.prog w = .ok (.enter 31 args) w := enters_of Tryd.func31 (by kernel_rfl) rfl
set_option maxRecDepth 100000 in
theorem en_p : ∀ args w, (callFunc 32 args).run Tryd.prog w = .ok (.enter 32 args) w := enters_of Tryd.func32 (by kernel_rfl) rfl

theorem rd_false {sb lo : Nat} {w w' : World} {ok : Bool} {wks cpy : Int} {evs : List EV} {e : Ending} (he : e = .returned (.bool false)) (hb : Below w.heap.size w w') (ho : ok = false) : RdPost sb lo w ok wks cpy evs e w' := by
  subst he ho
  exact rd_no hb

theorem p_l0 {sb lo g cp : Nat} {wks cpy : Int} {evs : List EV} {w : World} (h : Sc sb lo wks cpy evs w) (l : ByteArray) (hs : l.size ≤ 1048576) (hk : Kinds w g (nAt 0) (kwAt 0) (kfAt 0)) :
    Calls Tryd.prog 14 #[.pointer (some ⟨sb, 0, none⟩), .string l, .slice (some ⟨g, 0, none⟩) (nAt 0) cp] w fun e w' => RdPost sb lo w (okAt 0 l wks) (wkAt 0 l wks) (cpAt 0 l cpy) (evAt 0 l wks evs) e w' := by
  refine (p_any sb g 1 cp (kwAt 0) (kfAt 0) l (fun _ r => decide (1 ≤ num r ∧ num r ≤ 16)) (fun _ r => RdPost sb lo w (decide (1 ≤ num r ∧ num r ≤ 16)) (num r) cpy evs) w (by omega) hs h.vars hk (fun k _ => en_w) (fun k _ => no_sp (wd := ⟨#[119, 111, 114, 107, 101, 114, 115]⟩) (by decide)) (fun k _ r hr W hW => (p_workers (h.below hW) r hr).mono fun e w' hp => ⟨hp.1, RdPost.below hW hp⟩)).mono ?_
  rintro e w' (⟨j, _, h1, _, h3⟩ | ⟨h1, h2, h3⟩)
  · refine rd_ok h3 ?_
    show decide (1 ≤ wksOf l ∧ wksOf l ≤ 16) = decide (wksOk l)
    rw [Bool.eq_iff_iff, decide_eq_true_eq, decide_eq_true_eq]
    exact ⟨fun h => ⟨h1, h⟩, fun h => h.2⟩
  · exact rd_false h2 h3 (decide_eq_false (fun h => h1 0 (by omega) h.1))
theorem p_l1 {sb lo g cp : Nat} {wks cpy : Int} {evs : List EV} {w : World} (h : Sc sb lo wks cpy evs w) (l : ByteArray) (hs : l.size ≤ 1048576) (hk : Kinds w g (nAt 1) (kwAt 1) (kfAt 1)) :
    Calls Tryd.prog 14 #[.pointer (some ⟨sb, 0, none⟩), .string l, .slice (some ⟨g, 0, none⟩) (nAt 1) cp] w fun e w' => RdPost sb lo w (okAt 1 l wks) (wkAt 1 l wks) (cpAt 1 l cpy) (evAt 1 l wks evs) e w' := by
  refine (p_any sb g 1 cp (kwAt 1) (kfAt 1) l (fun _ r => decide (1 ≤ num r ∧ num r ≤ 4096)) (fun _ r => RdPost sb lo w (decide (1 ≤ num r ∧ num r ≤ 4096)) wks (num r) evs) w (by omega) hs h.vars hk (fun k _ => en_c) (fun k _ => no_sp (wd := ⟨#[99, 97, 112, 97, 99, 105, 116, 121]⟩) (by decide)) (fun k _ r hr W hW => (p_capacity (h.below hW) r hr).mono fun e w' hp => ⟨hp.1, RdPost.below hW hp⟩)).mono ?_
  rintro e w' (⟨j, _, h1, _, h3⟩ | ⟨h1, h2, h3⟩)
  · refine rd_ok h3 ?_
    show decide (1 ≤ cpyOf l ∧ cpyOf l ≤ 4096) = decide (cpyOk l)
    rw [Bool.eq_iff_iff, decide_eq_true_eq, decide_eq_true_eq]
    exact ⟨fun h => ⟨h1, h⟩, fun h => h.2⟩
  · exact rd_false h2 h3 (decide_eq_false (fun h => h1 0 (by omega) h.1))

/-- What the four readers of events give. -/
def evW (wks : Int) (k : Nat) (r : ByteArray) : EV × Bool :=
  match k with
  | 0 => (⟨1, r, ⟨#[]⟩, 0⟩, decide (isNm r))
  | 1 => editEv r
  | 2 => (⟨3, r, ⟨#[]⟩, 0⟩, decide (isNm r))
  | _ => (⟨4, ⟨#[]⟩, ⟨#[]⟩, num r⟩, decide (0 ≤ num r ∧ num r < wks))
theorem one_word {l a b : ByteArray} (ha : isAft l a) (hb : isAft l b) (na : ∀ i, i < a.size → by_ a i ≠ 32) (nb : ∀ i, i < b.size → by_ b i ≠ 32) : a = b := by
  rcases by_cases_first l 32 l.size (Nat.le_refl _) with ⟨i, hi, h1, h2⟩ | hm
  · rw [← (aft_yes hi h1 h2 na).1.1 ha, ← (aft_yes hi h1 h2 nb).1.1 hb]
  · exact absurd ha (aft_no hm)
theorem kwE_sp : ∀ k, k < 4 → ∀ i, i < (kwE k).size → by_ (kwE k) i ≠ 32 := by
  intro k hk
  match k, hk with
  | 0, _ => exact no_sp (by decide)
  | 1, _ => exact no_sp (by decide)
  | 2, _ => exact no_sp (by decide)
  | 3, _ => exact no_sp (by decide)
theorem kwE_ne : ∀ i j, i < 4 → j < 4 → i ≠ j → kwE i ≠ kwE j := by
  intro i j hi hj h e
  have e2 : (kwE i).data.toList = (kwE j).data.toList := by rw [e]
  match i, j, hi, hj with
  | 0, 0, _, _ => exact h rfl
  | 1, 1, _, _ => exact h rfl
  | 2, 2, _, _ => exact h rfl
  | 3, 3, _, _ => exact h rfl
  | 0, 1, _, _ => exact absurd e2 (by decide)
  | 0, 2, _, _ => exact absurd e2 (by decide)
  | 0, 3, _, _ => exact absurd e2 (by decide)
  | 1, 0, _, _ => exact absurd e2 (by decide)
  | 1, 2, _, _ => exact absurd e2 (by decide)
  | 1, 3, _, _ => exact absurd e2 (by decide)
  | 2, 0, _, _ => exact absurd e2 (by decide)
  | 2, 1, _, _ => exact absurd e2 (by decide)
  | 2, 3, _, _ => exact absurd e2 (by decide)
  | 3, 0, _, _ => exact absurd e2 (by decide)
  | 3, 1, _, _ => exact absurd e2 (by decide)
  | 3, 2, _, _ => exact absurd e2 (by decide)
theorem evOf_at {l : ByteArray} (wks : Int) {j : Nat} (hj : j < 4) (h : isAft l (kwE j)) : evOf l wks = evW wks j (aft l (kwE j)) := by
  have nn : ∀ i, i < 4 → i ≠ j → ¬ isAft l (kwE i) := fun i hi hne h2 => kwE_ne i j hi hj hne (one_word h2 h (kwE_sp i hi) (kwE_sp j hj))
  unfold evOf
  match j, hj with
  | 0, _ => rw [if_pos (show isAft l ⟨#[97, 115, 107]⟩ from h)]; rfl
  | 1, _ => rw [if_neg (show ¬ isAft l ⟨#[97, 115, 107]⟩ from nn 0 (by omega) (by omega)), if_neg (show ¬ isAft l ⟨#[100, 114, 111, 112]⟩ from nn 2 (by omega) (by omega)), if_neg (show ¬ isAft l ⟨#[112, 105, 99, 107]⟩ from nn 3 (by omega) (by omega)), if_pos (show isAft l ⟨#[101, 100, 105, 116]⟩ from h)]; rfl
  | 2, _ => rw [if_neg (show ¬ isAft l ⟨#[97, 115, 107]⟩ from nn 0 (by omega) (by omega)), if_pos (show isAft l ⟨#[100, 114, 111, 112]⟩ from h)]; rfl
  | 3, _ => rw [if_neg (show ¬ isAft l ⟨#[97, 115, 107]⟩ from nn 0 (by omega) (by omega)), if_neg (show ¬ isAft l ⟨#[100, 114, 111, 112]⟩ from nn 2 (by omega) (by omega)), if_pos (show isAft l ⟨#[112, 105, 99, 107]⟩ from h)]; rfl
theorem evOf_none {l : ByteArray} (wks : Int) (h : ∀ j, j < 4 → ¬ isAft l (kwE j)) : (evOf l wks).2 = false := by
  unfold evOf
  rw [if_neg (show ¬ isAft l ⟨#[97, 115, 107]⟩ from h 0 (by omega)), if_neg (show ¬ isAft l ⟨#[100, 114, 111, 112]⟩ from h 2 (by omega)), if_neg (show ¬ isAft l ⟨#[112, 105, 99, 107]⟩ from h 3 (by omega)), if_neg (show ¬ isAft l ⟨#[101, 100, 105, 116]⟩ from h 1 (by omega))]

theorem p_lE {sb lo g cp ix : Nat} {wks cpy : Int} {evs : List EV} {w : World} (h : Sc sb lo wks cpy evs w) (h1 : 1 ≤ wks) (h2 : wks ≤ 16) (hix : 2 ≤ ix) (l : ByteArray) (hs : l.size ≤ 1048576) (hk : Kinds w g (nAt ix) (kwAt ix) (kfAt ix)) :
    Calls Tryd.prog 14 #[.pointer (some ⟨sb, 0, none⟩), .string l, .slice (some ⟨g, 0, none⟩) (nAt ix) cp] w fun e w' => RdPost sb lo w (okAt ix l wks) (wkAt ix l wks) (cpAt ix l cpy) (evAt ix l wks evs) e w' := by
  have e1 : nAt ix = 4 := if_neg (by omega)
  have e2 : kwAt ix = kwE := by unfold kwAt; rw [if_neg (by omega), if_neg (by omega)]
  have e3 : kfAt ix = kfE := by unfold kfAt; rw [if_neg (by omega), if_neg (by omega)]
  have e4 : okAt ix l wks = (evOf l wks).2 := by unfold okAt; rw [if_neg (by omega), if_neg (by omega)]
  have e5 : wkAt ix l wks = wks := if_neg (by omega)
  have e6 : cpAt ix l cpy = cpy := if_neg (by omega)
  have e7 : evAt ix l wks evs = evs ++ [(evOf l wks).1] := if_neg (by omega)
  rw [e1, e2, e3] at hk
  rw [e1, e4, e5, e6, e7]
  refine (p_any sb g 4 cp kwE kfE l (fun k r => (evW wks k r).2) (fun k r => RdPost sb lo w (evW wks k r).2 wks cpy (evs ++ [(evW wks k r).1])) w (by omega) hs h.vars hk (fun k hk => ?_) kwE_sp (fun k hk r hr W hW => ?_)).mono ?_
  · match k, hk with
    | 0, _ => exact en_a
    | 1, _ => exact en_e
    | 2, _ => exact en_d
    | 3, _ => exact en_p
  · match k, hk with
    | 0, _ => exact (p_ask (h.below hW) r hr).mono fun e w' hp => ⟨hp.1, RdPost.below hW hp⟩
    | 1, _ => exact (p_edit (h.below hW) r hr).mono fun e w' hp => ⟨hp.1, RdPost.below hW hp⟩
    | 2, _ => exact (p_drop (h.below hW) r hr).mono fun e w' hp => ⟨hp.1, RdPost.below hW hp⟩
    | 3, _ => exact (p_pick (h.below hW) h1 h2 r hr).mono fun e w' hp => ⟨hp.1, RdPost.below hW hp⟩
  · rintro e w' (⟨j, hj, h3, _, h5⟩ | ⟨h3, h4, h5⟩)
    · rw [evOf_at wks hj h3]
      exact h5
    · exact rd_false h4 h5 (evOf_none wks h3)

end Go.Proofs.YthmihmnagnibmaaDoor
