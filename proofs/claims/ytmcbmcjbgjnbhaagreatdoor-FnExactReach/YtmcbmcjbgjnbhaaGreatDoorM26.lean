/-
  Merged for the claim: ReH ReI ReJ ReK RbF RbG.
-/
import Derived.Test.YtmcbmcjbgjnbhaaGreatDoorM25
import Derived.Test.YtmcbmcjbgjnbhaaGreatDoorShelf
import Derived.Lib.OwnBridge
import Derived.Sort.OwnSorted
namespace Go.Proofs.YtmcbmcjbgjnbhaaGreatDoor
open Go.RowKit Go.Maps

set_option maxRecDepth 100000 in
set_option maxHeartbeats 4000000 in
theorem p_firsts (w : World) {B : Nat} {dv fv : Value} {ra : Option Addr} {rn rc : Nat} {ds : List DC} {xs : List (DC × DPl)} (h : UnitO B w dv fv ds xs) (hl : ds.length ≤ 1000) (kd : Int) :
    Calls Tryz.prog 48 #[.agg #[dv, fv, .slice ra rn rc], .int .i64 kd] w (FsR w (fsX kd xs (fstK [] ds))) := by
  obtain ⟨i0, hi0, hz0, hz1, hz2⟩ := info_parts Tryz.infoDC
  obtain ⟨N, hN⟩ : ∃ N, N = xs.length := ⟨_, rfl⟩
  have hdl : ds.length = N := by rw [← h.is, List.length_map, hN]
  obtain ⟨da, dc, rfl⟩ := own_form h.od.own
  obtain ⟨fa, fc, rfl⟩ := own_form h.fl
  obtain ⟨fl, hfl⟩ : ∃ fl, fl = fstK [] ds := ⟨_, rfl⟩
  have hfn : N = fl.length := by rw [hfl, fstK_len, hdl]
  have HU : Hid (∀ W, Below w.heap.size w W → OD B W (.slice da N dc) xs ∧ W.ownsRow B 4 1 (.slice fa N fc) N (fl.map Value.bool)) := fun W hb => by
    have h1 := h.od.but (toBut hb) (fun b _ => by simp) (fun b _ => by simp)
    have h2 := own_block h.fl (fun k e => hb.block k (h.fl.lt k e.symm).2)
    rw [← hN] at h1
    rw [hdl, ← hfl] at h2
    exact ⟨h1, h2⟩
  rw [hdl] at hl ⊢
  rw [← hfl, ← hN]
  have HN : Hid (N = xs.length) := hN
  have HF : Hid (N = fl.length) := hfn
  clear h hN hdl hfl hfn
  have R0 : Hid (FsL w (w.alloc (.cells #[.slice da N dc, .slice fa N fc, .slice ra rn rc] 43)) (.slice da N dc) (.slice fa N fc) (.slice ra rn rc) (.slice none 0 0) kd xs [] fl 0) := ⟨bel1 _ _, row3 _ _ _ _ _, World.ownsRow_nil _ _ _ _, rfl, Nat.le_refl _⟩
  go_enter Tryz.func48, Tryz.ntmps48
  go_wp2
  go_loopw [5, 11] (fun v i wr => ∃ (k : Nat) (ys : List (DC × DPl)), k ≤ N ∧ i = .int .i64 k ∧ Hid (FsL w wr (.slice da N dc) (.slice fa N fc) (.slice ra rn rc) v kd xs ys fl k)) (fun _ i _ => N - (intOf i).toNat)
  case atStart => exact ⟨0, [], Nat.zero_le _, rfl, R0⟩
  case round =>
    clear R0
    obtain ⟨k, ys, hk, rfl, HI⟩ := hrel
    have OWN := HI.out.own
    obtain ⟨n, hn⟩ : ∃ n, n = ys.length := ⟨_, rfl⟩
    have hnk : n ≤ k := by rw [hn]; exact HI.out.len
    rw [← hn] at OWN
    have HNN : Hid (n = ys.length) := hn
    clear hn
    obtain ⟨va, vc, hv⟩ := own_form OWN
    subst hv
    have HO : Hid (wr.ownsRow (w.heap.size + 1) 67 4 (.slice va n vc) n (dcsC ys)) := OWN
    clear OWN
    have hsz := HI.out.below.size
    have hbx := HI.out.box.lt
    by_cases hlt : k < N
    · obtain ⟨h1, h2⟩ := HU.out wr HI.out.below
      have h1' := h1.own
      rw [← HN.out] at h1'
      obtain ⟨g, x, ta, tn, tc, ea, en, ec, rfl, hg, c0, c1, c2, c3, hx, hdc⟩ := dk4 h1' HN.out h1.fm hlt
      obtain ⟨g2, f, rfl, hg2, hf, cf⟩ := fl_cell h2 HF.out hlt
      obtain ⟨⟨dk, nm, dt, de⟩, dp⟩ := x
      simp only at c0 c1 hdc
      have HC : Hid (dcC (⟨dk, nm, dt, de⟩, dp) = [.int .i64 dk, .string nm, .slice ta tn tc, .slice ea en ec]) := hdc
      have HX : Hid (xs[k]? = some (⟨dk, nm, dt, de⟩, dp)) := hx
      have HFK : Hid (fl[k]? = some f) := hf
      have cb : (wr.alloc (.cells #[.int .i64 dk, .string nm, .slice ta tn tc, .slice ea en ec] 67)).cell? ⟨w.heap.size, 1, none⟩ = some (.slice (some ⟨g2, 0, none⟩) N fc) := (HI.out.box.alloc (.cells #[.int .i64 dk, .string nm, .slice ta tn tc, .slice ea en ec] 67)).cell (i := 1) (by omega)
      have cf' : (wr.alloc (.cells #[.int .i64 dk, .string nm, .slice ta tn tc, .slice ea en ec] 67)).cell? ⟨g2, k, none⟩ = some (.bool f) := ((bel1 wr _).cell (p := ⟨g2, k, none⟩) hg2).trans cf
      clear hx hdc hf h1 h1' h2 cf
      cases hkk : (dk == kd)
      case false =>
        have HNX : Hid (FsL w (wr.alloc (.cells #[.int .i64 dk, .string nm, .slice ta tn tc, .slice ea en ec] 67)) (.slice (some ⟨g, 0, none⟩) N dc) (.slice (some ⟨g2, 0, none⟩) N fc) (.slice ra rn rc) (.slice va n vc) kd xs ys fl (k + 1)) := HI.out.skip HX.out HFK.out (by show (dk == kd && f) = false; rw [hkk]; rfl)
        go_wp2
        exact ⟨⟨k + 1, ys, by omega, by go_num, HNX⟩, by simp [intOf]; omega⟩
      case true =>
        cases f
        case false =>
          have HNX : Hid (FsL w (wr.alloc (.cells #[.int .i64 dk, .string nm, .slice ta tn tc, .slice ea en ec] 67)) (.slice (some ⟨g, 0, none⟩) N dc) (.slice (some ⟨g2, 0, none⟩) N fc) (.slice ra rn rc) (.slice va n vc) kd xs ys fl (k + 1)) := HI.out.skip HX.out HFK.out (by rw [Bool.and_false])
          go_wp2
          exact ⟨⟨k + 1, ys, by omega, by go_num, HNX⟩, by simp [intOf]; omega⟩
        case true =>
          have hnew : ((wr.alloc (.cells #[.int .i64 dk, .string nm, .slice ta tn tc, .slice ea en ec] 67)).alloc (.cells #[.int .i64 dk, .string nm, .slice ta tn tc, .slice ea en ec] 67)).heap[wr.heap.size + 1]? = some (.cells #[.int .i64 dk, .string nm, .slice ta tn tc, .slice ea en ec] 67) := by
            have := heap_alloc_new (wr.alloc (.cells #[.int .i64 dk, .string nm, .slice ta tn tc, .slice ea en ec] 67)) (.cells #[.int .i64 dk, .string nm, .slice ta tn tc, .slice ea en ec] 67)
            simp only [World.size_alloc] at this
            exact this
          go_wp2_with (first | (at_builtin; refine wpList_append_lies _ rfl _ _ 40 rfl (w.heap.size + 1) 67 i0 _ 4 72 Tryz.underlying40 hi0 hz0 hz1 hz2 rfl (by omega) (.slice va n vc) n (dcsC ys) rfl ((HO.out.alloc _).alloc _) ⟨wr.heap.size + 1, 0, none⟩ 1 1 [.int .i64 dk, .string nm, .slice ta tn tc, .slice ea en ec] rfl rfl (World.news_of_block (cs := #[.int .i64 dk, .string nm, .slice ta tn tc, .slice ea en ec]) (t := 67) (fr := (0, 0)) hnew) (by simp [Value.oneCell']) (by omega) (by unfold maxLen; omega) (by omega) (by simp only [World.size_alloc]; omega) (wr.heap.size + 2) (by simp) ?_; intro gg cap3 w5 hown3 hg3 hat3 hlt3))
          have HNX : Hid (FsL w w5 (.slice (some ⟨g, 0, none⟩) N dc) (.slice (some ⟨g2, 0, none⟩) N fc) (.slice ra rn rc) (.slice (some ⟨gg, 0, none⟩) (n + 1) cap3) kd xs (ys ++ [(⟨dk, nm, dt, de⟩, dp)]) fl (k + 1)) := by
            have := HI.out.take (gg := gg) (cap3 := cap3) (w3 := w5) HX.out HFK.out (by show (dk == kd && true) = true; rw [hkk]; rfl) (by rw [HC.out, ← HNN.out]; exact hown3) hg3
            rw [← HNN.out] at this
            exact this
          clear hown3 hg3 hat3 hlt3 hnew
          go_wp2
          exact ⟨⟨k + 1, _, by omega, by go_num, HNX⟩, by simp [intOf]; omega⟩
    · have hkn : k = N := by omega
      subst hkn
      have HE : Hid (ys = fsX kd xs fl) := HI.out.ends (Nat.le_of_eq HN.out.symm)
      go_wp2
      go_ret
      exact ⟨HI.out.below, _, rfl, by rw [← HE.out, ← HNN.out]; exact own_mono HO.out (by omega)⟩

end Go.Proofs.YtmcbmcjbgjnbhaaGreatDoor

namespace Go.Proofs.YtmcbmcjbgjnbhaaGreatDoor
open Go.RowKit Go.Maps

theorem Tryz.zeroU (w : World) : (zeroValue 43).run Tryz.prog w = .ok (.agg #[.slice none 0 0, .slice none 0 0, .slice none 0 0]) w := by kernel_rfl
/-- A value as it is. -/
def heldE (v : Value) : Option (DataW Value × List MemPlace) := some (.held v, [])
/-- No module. -/
def u0 : Value := .agg #[.slice none 0 0, .slice none 0 0, .slice none 0 0]
/-- A map from names to modules. -/
def MapU (w : World) (mb n : Nat) (U : List UInt8 → Value) : Prop := ∃ D : DataW Value, w.ownsMap Tryz.prog 9 heldE mb n D ∧ ∀ a : List UInt8, a.length ≤ maxLen → D.atKey (.string a) (.held u0) = .held (U a)

theorem MapU.new (w : World) : MapU (w.alloc (.map #[] 0)) w.heap.size 0 (fun _ => u0) := ⟨.map [], World.ownsMap_made w Tryz.prog 9 heldE, fun _ _ => rfl⟩
theorem MapU.lt {w : World} {mb n : Nat} {U : List UInt8 → Value} (h : MapU w mb n U) : mb < w.heap.size := by
  obtain ⟨D, h, _⟩ := h
  exact h.lt
theorem MapU.of_block {w w' : World} {mb n : Nat} {U : List UInt8 → Value} (h : MapU w mb n U) (hb : w'.heap[mb]? = w.heap[mb]?) : MapU w' mb n U := by
  obtain ⟨D, ⟨es, clock, he, F, hn, hD⟩, hv⟩ := h
  exact ⟨D, ⟨es, clock, hb.trans he, F, hn, hD⟩, hv⟩
theorem MapU.look {w : World} {mb n : Nat} {U : List UInt8 → Value} {a : List UInt8} (h : MapU w mb n U) (ha : a.length ≤ maxLen) (m : Nat) : (Instr.lookup 44 (.map (some mb)) (.string ⟨a.toArray⟩) false).run Tryz.prog (w.drewN m) = .ok (U a) (w.drewN m) := by
  obtain ⟨D, h, hv⟩ := h
  have h' : (w.drewN m).ownsMap Tryz.prog 9 heldE mb n D := h
  obtain ⟨v, ps, hrun, hR⟩ := h'.lookup Tryz.law9 Tryz.underlying44 (Tryz.zeroU _) (zd := .held u0) (zp := []) rfl (key_str ha)
  rw [hv a ha] at hR
  have e : v = U a := by
    unfold heldE at hR
    simp only [Option.some.injEq, Prod.mk.injEq, DataW.held.injEq] at hR
    exact hR.1
  rw [← e]; exact hrun
theorem MapU.put {w : World} {mb n : Nat} {U : List UInt8 → Value} {a : List UInt8} (h : MapU w mb n U) (ha : a.length ≤ maxLen) (hn : n < maxLen) (v : Value) : ∃ w', (Instr.mapUpdate 44 (.map (some mb)) (.string ⟨a.toArray⟩) v).run Tryz.prog w = .ok () w' ∧ MapU w' mb (n + 1) (fun x => if x = a then v else U x) ∧ w.grownBy w' (some mb) := by
  obtain ⟨D, h, hv⟩ := h
  obtain ⟨w2, hrun, hown2, hg2⟩ := h.update Tryz.law9 Tryz.underlying44 hn (key_str ha) (val := v) (d := .held v) (ps := []) rfl
  refine ⟨w2, hrun, ⟨_, hown2, fun x hx => ?_⟩, hg2⟩
  by_cases q : x = a
  · subst q
    rw [Maps.atKey_put_same h.isMap (Tryz.law9.key (key_str hx))]
    exact (congrArg DataW.held (if_pos rfl)).symm
  · rw [Maps.atKey_put_other (fun e => q (by simpa using e))]
    exact (hv x hx).trans (congrArg DataW.held (if_neg q).symm)

/-- All that is present: the map, and the modules in memory. -/
structure PA (w : World) (mb n : Nat) (ds : List UInt8 → List DC) (U : List UInt8 → Value) : Prop where
  row : w.rowIs (mb + 2) 47 2 (v2 (.map (some mb)) (.map (some (mb + 1))))
  map : MapU w mb n U
  un : ∀ a : List UInt8, ∃ (dv fv : Value) (ra : Option Addr) (rn rc : Nat) (xs : List (DC × DPl)), U a = .agg #[dv, fv, .slice ra rn rc] ∧ UnitO (mb + 3) w dv fv (ds a) xs
  few : ∀ a : List UInt8, (ds a).length ≤ 1000

theorem UnitO.but {S : List Nat} {B : Nat} {w w' : World} {dv fv : Value} {ds : List DC} {xs : List (DC × DPl)} (h : UnitO B w dv fv ds xs) (hb : But S w w') (hS : ∀ b, b ∈ S → b < B) : UnitO B w' dv fv ds xs :=
  ⟨h.od.low hb (fun b hb => Or.inl (hS b hb)), h.is, own_block h.fl (fun k e => hb.block k (h.fl.lt k e.symm).2 (fun z => by have := hS k z; have := (h.fl.lt k e.symm).1; omega))⟩
theorem PA.lt {w : World} {mb n : Nat} {ds : List UInt8 → List DC} {U : List UInt8 → Value} (h : PA w mb n ds U) : mb + 2 < w.heap.size := h.row.lt
theorem PA.on {w w' : World} {mb n : Nat} {ds : List UInt8 → List DC} {U : List UInt8 → Value} (h : PA w mb n ds U) (hb : Below w.heap.size w w') : PA w' mb n ds U := by
  have hl := h.lt
  refine ⟨h.row.of_block (hb.block _ hl), h.map.of_block (hb.block _ (by omega)), fun a => ?_, h.few⟩
  obtain ⟨dv, fv, ra, rn, rc, xs, e, hu⟩ := h.un a
  exact ⟨dv, fv, ra, rn, rc, xs, e, hu.but (toBut hb) (fun b hb => by cases hb)⟩

end Go.Proofs.YtmcbmcjbgjnbhaaGreatDoor

namespace Go.Proofs.YtmcbmcjbgjnbhaaGreatDoor
open Go.RowKit Go.Maps Go.Sort

/-- A text as the list of its bytes. -/
def tl (s : ByteArray) : List UInt8 := s.data.toList
theorem sts_enc (NL : List ByteArray) : sts NL = (NL.map tl).map encStr := by
  unfold sts
  induction NL with
  | nil => rfl
  | cons a l ih => rw [List.flatMap_cons, ih]; rfl
theorem enc_srt (NL : List ByteArray) : ((NL.map tl).mergeSort fun x y => decide (x ≤ y)).map encStr = sts (srtN NL) := by
  rw [sts_enc]
  unfold srtN tl
  rw [List.map_map, List.map_map]
  rfl
theorem sts_cells (NL : List ByteArray) : scells (NL.map tl) = sts NL := by
  rw [sts_enc]
  unfold scells
  rfl

theorem srtN_nil : srtN [] = [] := by unfold srtN; simp
theorem gr_but {w w' : World} {b : Nat} (h : w.grownBy w' (some b)) : But [b] w w' := ⟨h.os, h.tape, h.output, h.size, fun k hk hn => h.block k hk (fun e => hn (by cases e; simp))⟩

/-- slices.Sort on texts. -/
theorem p_sort (w : World) {B : Nat} {v : Value} {NL : List ByteArray} (h : w.ownsRow B 9 1 v NL.length (sts NL)) (hl : NL.length ≤ 100000) :
    Calls Tryz.prog 41 #[v] w fun e w' => e = .returned (.tuple #[]) ∧ But v.ownBlock.toList w w' ∧ w'.ownsRow B 9 1 v NL.length (sts (srtN NL)) := by
  by_cases h0 : NL.length = 0
  · obtain ⟨a, c, rfl⟩ := own_form h
    rw [h0] at h ⊢
    refine (Tryz.slices_Sort_string_none a c w).mono ?_
    rintro e w' ⟨rfl, rfl⟩
    have e0 : NL = [] := List.length_eq_zero_iff.1 h0
    subst e0
    exact ⟨rfl, But.refl _ _, by rw [srtN_nil]; exact h⟩
  · rw [sts_enc] at h
    have hh := h
    rcases h.2 with ⟨_, z⟩ | ⟨g, cap, cur, rfl, hb, hg, hn, hm, hs, ht⟩
    · exact absurd z h0
    · obtain ⟨g', cap', ev, _, hlt, _, _, hlen, hH⟩ := Lib.holds_of_ownsRow h (by intro e; cases e)
      simp only [Value.slice.injEq, Option.some.injEq, Addr.mk.injEq, true_and, and_true] at ev
      obtain ⟨rfl, rfl⟩ := ev
      have C := Tryz.slices_Sort_string g 0 cap (NL.map tl) w hH hlt (by rw [List.length_map]; omega)
      rw [List.length_map] at C
      refine C.mono ?_
      rintro e w' ⟨rfl, n, os, rfl⟩
      refine ⟨rfl, gr_but (grownBy_sorted _), ?_⟩
      · have := ownsRow_sorted (n := n) (os := os) (ss := NL.map tl) (ts := (NL.map tl).mergeSort fun x y => decide (x ≤ y)) (List.length_mergeSort _) hb hg (by rw [List.length_map]; exact hn) hm hs
        rw [enc_srt, List.length_map] at this
        exact this

theorem addS_map (NL : List ByteArray) (s : ByteArray) : addS (NL.map tl) (tl s) = (if hasN NL s then NL else NL ++ [s]).map tl := by
  have hc : (NL.map tl).contains (tl s) = hasN NL s := by
    rw [Bool.eq_iff_iff, List.contains_iff_mem, hasN_iff, List.mem_map]
    constructor
    · rintro ⟨x, hx, e⟩
      rw [← ba_ext e]; exact hx
    · intro h; exact ⟨s, h, rfl⟩
  unfold addS
  rw [hc]
  split
  · rfl
  · rw [List.map_append]; rfl
/-- The names of declarations. -/
def nmY (ys : List (DC × DPl)) : List ByteArray := ys.map fun x => x.1.nm

/-- The state of meetImports' loop. -/
structure ML (w wr : World) (kb kmb : Nat) (ov0 ov v : Value) (NL : List ByteArray) (ys : List (DC × DPl)) (k : Nat) : Prop where
  but : But (kb :: kmb :: ov0.ownBlock.toList) w wr
  kn : KnT wr kb kmb ov ((addN NL ((nmY ys).take k)).map tl)
  own : wr.ownsRow w.heap.size 67 4 v ys.length (dcsC ys)
  nw : ∀ b, ov.ownBlock = some b → ov0.ownBlock = some b ∨ w.heap.size ≤ b
  old : kmb < w.heap.size ∧ kb < w.heap.size

theorem KnT.own {w : World} {kb mb : Nat} {ov : Value} {NL : List ByteArray} (h : KnT w kb mb ov (NL.map tl)) : w.ownsRow (kb + 1) 9 1 ov NL.length (sts NL) := by
  obtain ⟨D, h⟩ := h
  have := h.own
  rw [List.length_map, sts_cells] at this
  exact this
theorem ML.next {w wr w2 : World} {kb kmb : Nat} {ov0 ov ov' v : Value} {NL : List ByteArray} {ys : List (DC × DPl)} {k : Nat} {y : DC × DPl} {o : Obj} (h : ML w wr kb kmb ov0 ov v NL ys k) (hy : ys[k]? = some y)
    (hkn : KnT w2 kb kmb ov' (addS ((addN NL ((nmY ys).take k)).map tl) (tl y.1.nm))) (hb : But (kb :: kmb :: ov.ownBlock.toList) (wr.alloc o) w2) (hn : ∀ b, ov'.ownBlock = some b → ov.ownBlock = some b ∨ (wr.alloc o).heap.size ≤ b) : ML w w2 kb kmb ov0 ov' v NL ys (k + 1) := by
  have hs := h.but.size
  obtain ⟨hk, e⟩ := List.getElem?_eq_some_iff.1 hy
  refine ⟨?_, ?_, ?_, fun b e => ?_, h.old⟩
  · refine (h.but.alloc o).trans hb (fun b hm hlt => ?_)
    simp only [List.mem_cons, Option.mem_toList] at hm ⊢
    rcases hm with z | z | z
    · exact .inl z
    · exact .inr (.inl z)
    · rcases h.nw b z with q | q
      · exact .inr (.inr q)
      · omega
  · have hq : k < (nmY ys).length := by unfold nmY; rw [List.length_map]; exact hk
    have e2 : (nmY ys).getD k ByteArray.empty = y.1.nm := by
      unfold nmY
      rw [List.getD_eq_getElem?_getD, List.getElem?_map, hy]; rfl
    rw [addN_take hq, e2, ← addS_map]
    exact hkn
  · refine own_block (h.own.alloc o) (fun b e => hb.block b (by have := (h.own.lt b e.symm).2; simp only [World.size_alloc]; omega) (fun hm => ?_))
    have h1 := (h.own.lt b e.symm).1
    simp only [List.mem_cons, Option.mem_toList] at hm
    rcases hm with z | z | z
    · have := h.old.2; omega
    · have := h.old.1; omega
    · exact own_ne h.own h.kn.own (by decide) e.symm z
  · rcases hn b e with z | z
    · exact h.nw b z
    · simp only [World.size_alloc] at z
      exact Or.inr (by omega)

end Go.Proofs.YtmcbmcjbgjnbhaaGreatDoor

namespace Go.Proofs.YtmcbmcjbgjnbhaaGreatDoor
open Go.RowKit Go.Maps Go.Sort

set_option maxRecDepth 100000 in
set_option maxHeartbeats 4000000 in
theorem p_meet (w : World) {mb n : Nat} {ds : List UInt8 → List DC} {U : List UInt8 → Value} (h : PA w mb n ds U) {kb kmb : Nat} {ov : Value} {NL : List ByteArray} (hk : KnT w kb kmb ov (NL.map tl)) (s : ByteArray) (hs : s.size ≤ 9223372036854775807) (hl : NL.length ≤ 100000) (hsm : ∀ d, d ∈ ds (tl s) → d.nm.size ≤ 1000) :
    Calls Tryz.prog 40 #[.pointer (some ⟨mb + 2, 0, none⟩), .string s, .pointer (some ⟨kb, 0, none⟩)] w fun e w' => e = .returned (.tuple #[]) ∧ ∃ ov', KnT w' kb kmb ov' ((addN NL (addN [] (impN (ds (tl s))))).map tl) ∧ But (kb :: kmb :: ov.ownBlock.toList) w w' ∧ ∀ b, ov'.ownBlock = some b → ov.ownBlock = some b ∨ w.heap.size ≤ b := by
  obtain ⟨dv, fv, ra, rn, rc, xs, hu, hU⟩ := h.un (tl s)
  have LK : (Instr.lookup 44 (.map (some mb)) (.string s) false).run Tryz.prog w = .ok (.agg #[dv, fv, .slice ra rn rc]) w := by
    have LK := h.map.look (a := tl s) (by show s.size ≤ maxLen; unfold maxLen; omega) 0
    rw [World.drewN_zero, hu] at LK
    exact LK
  have c0 : w.cell? ⟨mb + 2, 0, none⟩ = some (.map (some mb)) := h.row.cell (i := 0) (by omega)
  have hfew := h.few (tl s)
  have CF : Hid (Calls Tryz.prog 48 #[.agg #[dv, fv, .slice ra rn rc], .int .i64 1] w (FsR w (fsX 1 xs (fstK [] (ds (tl s)))))) := p_firsts w hU hfew 1
  obtain ⟨ys, hys⟩ : ∃ ys, ys = fsX 1 xs (fstK [] (ds (tl s))) := ⟨_, rfl⟩
  rw [← hys] at CF
  have HFM : Hid (Fm ys) := fun x hx => hU.od.fm x (by rw [hys] at hx; exact fsX_sub _ _ _ _ hx)
  have HNM : Hid (nmY ys = addN [] (impN (ds (tl s)))) := by
    show nmY ys = _
    unfold nmY
    rw [hys, fsX_names, hU.is, first_names]
  have HYL : Hid (ys.length ≤ 1000) := by
    have h1 := fsX_len 1 xs (fstK [] (ds (tl s)))
    have h2 : xs.length = (ds (tl s)).length := by rw [← hU.is, List.length_map]
    show ys.length ≤ 1000
    rw [hys]; omega
  have HYS : Hid (∀ y, y ∈ ys → y.1.nm.size ≤ 1000) := fun y hy => hsm _ (by
    rw [hys] at hy
    rw [← hU.is]
    exact List.mem_map_of_mem (fsX_sub _ _ _ _ hy))
  have HK : Hid (KnT w kb kmb ov (NL.map tl)) := hk
  have hid := hk.ids
  have hmb := h.row.lt
  clear hys hU hu hk h
  go_enter Tryz.func40, Tryz.ntmps40
  go_wp2_with fail
  refine CF.out.mono ?_
  rintro e w1 ⟨hb, v, rfl, hO⟩
  obtain ⟨va, vc, rfl⟩ := own_form hO
  obtain ⟨N, hN⟩ : ∃ N, N = ys.length := ⟨_, rfl⟩
  have hN1 : N ≤ 1000 := by rw [hN]; exact HYL.out
  have ST : Hid (ML w w1 kb kmb ov ov (.slice va N vc) NL ys 0) := ⟨(toBut hb).more (fun _ z => by cases z), HK.out.but (toBut hb) (by simp) (by simp) (fun b _ => by simp), by rw [hN]; exact hO, fun b e => Or.inl e, by omega, hid.2.1⟩
  rw [← hN]
  have HN : Hid (N = ys.length) := hN
  clear hN hO hb CF LK
  go_wp2
  go_loopw [16] (fun i wr => ∃ (k : Nat) (ov' : Value), k ≤ N ∧ i = .int .i64 k ∧ Hid (ML w wr kb kmb ov ov' (.slice va N vc) NL ys k)) (fun i _ => N - (intOf i).toNat)
  case atStart => exact ⟨0, _, Nat.zero_le _, rfl, ST⟩
  case round =>
    clear ST
    obtain ⟨k, ov', hk, rfl, HI⟩ := hrel
    by_cases hlt : k < N
    · have hO := HI.out.own
      rw [← HN.out] at hO
      obtain ⟨g, x, ta, tn, tc, ea, en, ec, rfl, hg, c0', c1, c2, c3, hx, hdc⟩ := dk4 hO HN.out HFM.out hlt
      have hz : x.1.nm.size ≤ 1000 := HYS.out x (List.mem_of_getElem? hx)
      obtain ⟨⟨dk, nm, dt, de⟩, dp⟩ := x
      simp only at c0' c1 hz
      have HX : Hid (ys[k]? = some (⟨dk, nm, dt, de⟩, dp)) := hx
      have hln : (addN NL ((nmY ys).take k)).length ≤ 101000 := by
        have h1 := addN_len ((nmY ys).take k) NL
        have h2 : ((nmY ys).take k).length ≤ k := by rw [List.length_take]; omega
        omega
      have HC : Hid (Calls Tryz.prog 27 #[.pointer (some ⟨kb, 0, none⟩), .string nm] (wr.alloc (.cells #[.int .i64 dk, .string nm, .slice ta tn tc, .slice ea en ec] 67)) _) := kt_number kb kmb ov' ((addN NL ((nmY ys).take k)).map tl) (tl nm) _ (HI.out.kn.but ((But.refl [] _).alloc _) (by simp) (by simp) (fun b _ => by simp)) (by show nm.size ≤ maxLen; unfold maxLen; omega) (by rw [List.length_map]; omega)
      clear hO hx hdc hln
      go_wp2_with fail
      refine HC.out.mono ?_
      rintro e w2 ⟨x, ov2, rfl, hkn, hbt, hnw⟩
      have HNX : Hid (ML w w2 kb kmb ov ov2 (.slice (some ⟨g, 0, none⟩) N vc) NL ys (k + 1)) := HI.out.next HX.out hkn hbt hnw
      clear hkn hbt hnw HC
      go_wp2
      exact ⟨⟨k + 1, ov2, by omega, by go_num, HNX⟩, by simp [intOf]; omega⟩
    · have hkn : k = N := by omega
      subst hkn
      have HE : Hid (addN NL ((nmY ys).take k) = addN NL (addN [] (impN (ds (tl s))))) := by
        show _ = _
        rw [List.take_of_length_le (by unfold nmY; rw [List.length_map]; exact Nat.le_of_eq HN.out.symm), HNM.out]
      go_wp2
      go_end0
      exact ⟨rfl, ov', by rw [← HE.out]; exact HI.out.kn, HI.out.but, HI.out.nw⟩

end Go.Proofs.YtmcbmcjbgjnbhaaGreatDoor

namespace Go.Proofs.YtmcbmcjbgjnbhaaGreatDoor
open Go.RowKit

def slN : Value → Nat
  | .slice _ n _ => n
  | _ => 0
theorem take_getD {l : List ByteArray} {q : Nat} (hq : q < l.length) : l.take (q + 1) = l.take q ++ [l.getD q ByteArray.empty] := by
  rw [List.take_add_one, List.getD_eq_getElem?_getD, List.getElem?_eq_getElem hq]; rfl

structure SLoop (w wr : World) (XL : List ByteArray) (v : Value) (k : Nat) : Prop where
  below : Below w.heap.size w wr
  own : wr.ownsRow w.heap.size 9 1 v k (sts ((srtN XL).take k))

set_option maxRecDepth 100000 in
set_option maxHeartbeats 2000000 in
/-- l3Sorted. -/
theorem m_sorted (w : World) {B N xc : Nat} {xa : Option Addr} {XL : List ByteArray} (h : w.ownsRow B 9 1 (.slice xa N xc) N (sts XL)) (hN : N = XL.length) (hN8 : N ≤ 8000) (hnd : XL.Nodup) (hz : ∀ x, x ∈ XL → x.size ≤ 1000) :
    Calls Tryz.prog 15 #[.slice xa N xc] w (ImpR w (srtN XL)) := by
  obtain ⟨j0, hj0, hy0, hy1, hy2⟩ := info_parts Tryz.info9
  have HXC : Hid (∀ (wr : World), Below w.heap.size w wr → ∀ k, k < N → ∃ g, xa = some ⟨g, 0, none⟩ ∧ wr.cell? ⟨g, k, none⟩ = some (.string (XL.getD k ByteArray.empty)) ∧ (XL.getD k ByteArray.empty).size ≤ 1000) := fun wr hb k hk => by
    obtain ⟨g, e, ck⟩ := st_cell h hN hk
    refine ⟨g, e, (hb.cell (p := ⟨g, k, none⟩) (World.block_lt_of_cell? _ _ ck)).trans ck, hz _ ?_⟩
    rw [List.getD_eq_getElem?_getD, List.getElem?_eq_getElem (by omega)]
    exact List.getElem_mem _
  have HS : Hid (N = (srtN XL).length) := by show _ = _; rw [srtN_len]; exact hN
  have HBN : Hid (∀ k (hk : k < (srtN XL).length), bestN ((srtN XL).take k) XL none = some (srtN XL)[k]) := fun k hk => best_next (srtN_perm XL) (srtN_srt hnd) hk
  have HN : Hid (N = XL.length) := hN
  have HSZ : Hid (∀ x, x ∈ XL → x.size ≤ 1000) := hz
  have ST : Hid (SLoop w (w.alloc (.cells #[] 9)) XL (.slice (some ⟨w.heap.size, 0, none⟩) 0 0) 0) := ⟨bel1 _ _, World.ownsRow_lit (e := 9) (size := 1) w #[] 0 (Nat.le_refl _) (by unfold maxLen; omega) (by rfl)⟩
  clear h hN hnd hz
  go_enter Tryz.func15, Tryz.ntmps15
  go_wp2
  go_loopw [3] (fun v wr => ∃ k : Nat, k ≤ N ∧ slN v = k ∧ Hid (SLoop w wr XL v k)) (fun v _ => N - slN v)
  case atStart => exact ⟨0, Nat.zero_le _, rfl, ST⟩
  case round =>
    clear ST
    obtain ⟨k, hk, hsl, HI⟩ := hrel
    obtain ⟨va, vc, hv⟩ := own_form HI.out.own
    subst hv
    clear hsl
    have hsz := HI.out.below.size
    by_cases hlt : k < N
    · obtain ⟨QL, hQL⟩ : ∃ QL, QL = (srtN XL).take k := ⟨_, rfl⟩
      have OWQ := HI.out.own
      rw [← hQL] at OWQ
      have HQL : Hid ((srtN XL).take k = QL) := hQL.symm
      have HQN : Hid (k = QL.length) := by show _ = _; rw [hQL, List.length_take, ← HS.out]; omega
      clear hQL
      have HO : Hid (wr.ownsRow w.heap.size 9 1 (.slice va k vc) k (sts QL)) := OWQ
      have HB : Hid (Below w.heap.size w wr) := HI.out.below
      clear OWQ
      go_wp2
      go_loopw [4, 5, 6] (fun bv f i w2 => ∃ (q : Nat) (r : Option ByteArray), q ≤ N ∧ i = .int .i64 q ∧ bv = .string (r.getD ByteArray.empty) ∧ f = .bool r.isSome ∧ Hid (bestN QL (XL.take q) none = r ∧ ∀ x, r = some x → x.size ≤ 1000) ∧ ∃ m, w2 = wr.drewN m) (fun _ _ i _ => N - (intOf i).toNat)
      case atStart => exact ⟨0, none, Nat.zero_le _, rfl, rfl, rfl, ⟨rfl, fun x hx => by cases hx⟩, 0, rfl⟩
      case round =>
        obtain ⟨q, r, hq, rfl, rfl, rfl, HR, m, rfl⟩ := hrel
        by_cases hqn : q < N
        · obtain ⟨g, rfl, cq, sq⟩ := HXC.out (wr.drewN m) (below_drewN HB.out m) q hqn
          obtain ⟨x, hx⟩ : ∃ x, x = XL.getD q ByteArray.empty := ⟨_, rfl⟩
          rw [← hx] at cq sq
          have HSN : Hid (bestN QL (XL.take (q + 1)) none = if hasN QL x then r else match (generalizing := false) r with
            | none => some x
            | some y => if lt x y then some x else some y) := by
            show _ = _
            have e := HR.out.1
            subst e
            rw [take_getD (by rw [← HN.out]; exact hqn), bestN_snoc, ← hx]
            cases bestN QL (XL.take q) none <;> rfl
          clear hx
          have HOm : Hid ((wr.drewN m).ownsRow w.heap.size 9 1 (.slice va k vc) k (sts QL)) := HO.out
          cases hh : hasN QL x
          case true =>
            have HF : Hid (bestN QL (XL.take (q + 1)) none = r ∧ ∀ x, r = some x → x.size ≤ 1000) := ⟨by rw [HSN.out, hh]; rfl, HR.out.2⟩
            go_wp2_with fail
            refine (m_twice (wr.drewN m) HQN.out HOm.out (by omega) x hh).mono ?_
            rintro e w' ⟨rfl, rfl⟩
            go_wp2
            exact ⟨⟨q + 1, r, by omega, by go_num, rfl, rfl, HF, m, rfl⟩, by simp [intOf]; omega⟩
          case false =>
            cases r with
            | none =>
              have HF : Hid (bestN QL (XL.take (q + 1)) none = some x ∧ ∀ z, some x = some z → z.size ≤ 1000) := ⟨by rw [HSN.out, hh]; rfl, fun z e => by cases e; exact sq⟩
              go_wp2_with fail
              refine (m_twice (wr.drewN m) HQN.out HOm.out (by omega) x hh).mono ?_
              rintro e w' ⟨rfl, rfl⟩
              go_wp2
              exact ⟨⟨q + 1, some x, by omega, by go_num, rfl, rfl, HF, m, rfl⟩, by simp [intOf]; omega⟩
            | some y =>
              have sy := HR.out.2 y rfl
              have HLS : Hid (Calls Tryz.prog 24 #[.string x, .string y] (wr.drewN m) fun e w' => e = .returned (.bool (lt x y)) ∧ ∃ n, w' = (wr.drewN m).drewN n) := m_less x y _ (by omega) (by omega)
              cases hl : lt x y
              case false =>
                rw [hl] at HLS
                have HF : Hid (bestN QL (XL.take (q + 1)) none = some y ∧ ∀ z, some y = some z → z.size ≤ 1000) := ⟨by rw [HSN.out, hh]; simp [hl], HR.out.2⟩
                go_wp2_with fail
                refine (m_twice (wr.drewN m) HQN.out HOm.out (by omega) x hh).mono ?_
                rintro e w' ⟨rfl, rfl⟩
                go_wp2_with fail
                refine HLS.out.mono ?_
                rintro e w' ⟨rfl, m2, rfl⟩
                go_wp2
                exact ⟨⟨q + 1, some y, by omega, by go_num, rfl, rfl, HF, m + m2, rfl⟩, by simp [intOf]; omega⟩
              case true =>
                rw [hl] at HLS
                have HF : Hid (bestN QL (XL.take (q + 1)) none = some x ∧ ∀ z, some x = some z → z.size ≤ 1000) := ⟨by rw [HSN.out, hh]; simp [hl], fun z e => by cases e; exact sq⟩
                have cq2 : ∀ m2, (wr.drewN (m + m2)).cell? ⟨g, q, none⟩ = some (.string x) := fun _ => cq
                go_wp2_with fail
                refine (m_twice (wr.drewN m) HQN.out HOm.out (by omega) x hh).mono ?_
                rintro e w' ⟨rfl, rfl⟩
                go_wp2_with fail
                refine HLS.out.mono ?_
                rintro e w' ⟨rfl, m2, rfl⟩
                have cq3 := cq2 m2
                go_wp2
                exact ⟨⟨q + 1, some x, by omega, by go_num, rfl, rfl, HF, m + m2, rfl⟩, by simp [intOf]; omega⟩
        · have hqe : q = N := by omega
          subst hqe
          have hks : k < (srtN XL).length := by rw [← HS.out]; exact hlt
          obtain ⟨y, hy⟩ : ∃ y, y = (srtN XL)[k] := ⟨_, rfl⟩
          have hr : r = some y := by rw [← HR.out.1, List.take_of_length_le (Nat.le_of_eq HN.out.symm), ← HQL.out, HBN.out k hks, hy]
          have HE : Hid ((srtN XL).take (k + 1) = QL ++ [y]) := by
            show _ = _
            rw [List.take_add_one, List.getElem?_eq_getElem hks, ← hy, HQL.out]; rfl
          subst hr
          clear hy
          have HOm : Hid ((wr.drewN m).ownsRow w.heap.size 9 1 (.slice va k vc) k (sts QL)) := HO.out
          have HBm : Hid (Below w.heap.size w (wr.drewN m)) := below_drewN HB.out m
          obtain ⟨w3, hw3⟩ : ∃ w3, w3 = wr.drewN m := ⟨_, rfl⟩
          rw [← hw3] at HOm HBm ⊢
          have hsz3 := HBm.out.size
          clear hw3
          go_wp2_with (first | (at_builtin; refine wpList_append_lies _ rfl _ _ 24 rfl w.heap.size 9 j0 _ 1 16 Tryz.underlying24 hj0 hy0 hy1 hy2 rfl (by omega) (.slice va k vc) k (sts QL) rfl (HOm.out.alloc _) ⟨w3.heap.size, 0, none⟩ 1 1 [.string y] rfl rfl (World.news_of_block (cs := #[.string y]) (t := 9) (fr := (0, 0)) (heap_alloc_new w3 _)) (by simp [Value.oneCell']) (by omega) (by unfold maxLen; omega) (by omega) (by simp only [World.size_alloc]; omega) (w3.heap.size + 1) (by simp) ?_; intro gg cap3 w5 hown3 hg3 hat3 hlt3))
          have HF : Hid (SLoop w w5 XL (.slice (some ⟨gg, 0, none⟩) (k + 1) cap3) (k + 1)) :=
            ⟨below_grown HBm.out hg3 (fun b e => (HOm.out.lt b e).1), by rw [HE.out, sts_snoc]; exact hown3⟩
          clear hown3 hg3 hat3 hlt3
          go_wp2
          exact ⟨⟨k + 1, by omega, rfl, HF⟩, by simp [slN]; omega⟩
    · have hkn : k = N := by omega
      subst hkn
      have HE : Hid ((srtN XL).take k = srtN XL) := List.take_of_length_le (Nat.le_of_eq HS.out.symm)
      go_wp2
      go_ret
      exact ⟨HI.out.below, _, rfl, by rw [← HS.out, ← HE.out]; exact HI.out.own⟩

end Go.Proofs.YtmcbmcjbgjnbhaaGreatDoor

namespace Go.Proofs.YtmcbmcjbgjnbhaaGreatDoor
open Go.RowKit

/-- What Reach answers. -/
def reachA (S T : Nat → ByteArray) (n : Nat) (s : ByteArray) : List ByteArray := if vsr n S T then srtN (rchO S T n s) else []
theorem vsr_le {n : Nat} {S T : Nat → ByteArray} (h : vsr n S T = true) : n ≤ 8 := by
  unfold vsr at h
  rw [Bool.and_eq_true] at h
  exact of_decide_eq_true h.1

set_option maxRecDepth 100000 in
set_option maxHeartbeats 1000000 in
theorem s_Reach {ao : Option Addr} {b o n c : Nat} {S T : Nat → ByteArray} (w : World) (h1 : SrcsAt w ao b o n S T) (s : ByteArray) :
    Calls Tryz.prog 5 #[.slice ao n c, .string s] w (ImpR w (reachA S T n s)) := by
  have CV : Hid (Calls Tryz.prog 14 #[.slice ao n c] w fun e w' => e = .returned (.bool (vsr n S T)) ∧ ∃ m, w' = w.drewN m) := sc5 ao b o n c S T w h1
  have HB : Hid (SrcsAt w ao b o n S T) := h1
  clear h1
  cases hv : vsr n S T
  · rw [hv] at CV
    have HA : Hid (reachA S T n s = []) := by show _ = _; unfold reachA; rw [hv]; rfl
    go_enter Tryz.func5, Tryz.ntmps5
    go_wp2_with fail
    refine CV.out.mono ?_
    rintro e w' ⟨rfl, m, rfl⟩
    go_wp2
    go_ret
    refine ⟨(below_drewN' w m).trans (bel1 (w.drewN m) _), _, rfl, ?_⟩
    rw [HA.out]
    exact World.ownsRow_lit (e := 9) (size := 1) (w.drewN m) #[] 0 (Nat.le_refl _) (by unfold maxLen; omega) (by rfl)
  · have hn8 := vsr_le hv
    rw [hv] at CV
    have HA : Hid (reachA S T n s = srtN (rchO S T n s)) := by show _ = _; unfold reachA; rw [hv]; rfl
    go_enter Tryz.func5, Tryz.ntmps5
    go_wp2_with fail
    refine CV.out.mono ?_
    rintro e w' ⟨rfl, m, rfl⟩
    go_wp2_with fail
    refine (m_reach (w.drewN m) (HB.out.below (below_drewN' w m)) hn8 s).mono ?_
    rintro e w2 ⟨hb, v, rfl, hO⟩
    obtain ⟨va, vc, rfl⟩ := own_form hO
    have hm := rchO_met S T n s
    have hl : (rchO S T n s).length ≤ 8000 := by have := hm.len; have := impU_len T n; omega
    have C : Hid (Calls Tryz.prog 15 #[.slice va (rchO S T n s).length vc] w2 (ImpR w2 (srtN (rchO S T n s)))) := m_sorted w2 hO rfl hl hm.nd (fun x hx => impU_size (hm.sub x hx))
    have HB2 : Hid (Below w.heap.size w w2) := (below_drewN' w m).trans hb
    clear hb hO hm hl
    go_wp2_with fail
    refine C.out.mono ?_
    rintro e w3 ⟨hb3, v, rfl, hO3⟩
    obtain ⟨ra, rc, rfl⟩ := own_form hO3
    go_wp2
    go_ret
    refine ⟨HB2.out.trans (hb3.mono HB2.out.size), _, rfl, ?_⟩
    rw [HA.out]
    exact own_mono hO3 HB2.out.size

end Go.Proofs.YtmcbmcjbgjnbhaaGreatDoor

