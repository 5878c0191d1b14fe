/-
  The program's printed, ValidModule, PrintModule.
-/
import Derived.Test.YtcehppndpccldaaDoorVeN
namespace Go.Proofs.YtcehppndpccldaaDoor
open Go.RowKit

theorem prL_sz (lim : Nat) (d : DC) : (prL lim d).size ≤ d.nm.size + 2 * lim + 20 := by
  have h1 : ((plT lim d.ty).getD e0).size ≤ lim := pl_getD
  have h2 : ((plE lim d.ex).getD e0).size ≤ lim := pl_getD
  have z1 : xImp.size = 7 := rfl
  have z2 : xEnd.size = 2 := rfl
  have z3 : xTyp.size = 5 := rfl
  have z4 : xEs.size = 3 := rfl
  have z5 : xVal.size = 4 := rfl
  have z6 : xCs.size = 2 := rfl
  unfold prL
  split
  · simp only [ByteArray.size_append]; omega
  · split
    · simp only [ByteArray.size_append]; omega
    · simp only [ByteArray.size_append]; omega
/-- The text so far and the declarations to come. -/
def goD : ByteArray → List DC → Option ByteArray
  | acc, [] => some acc
  | acc, d :: ds => if okL 1000 d = true ∧ acc.size + (prL 1000 d).size ≤ 1000 then goD (acc ++ prL 1000 d) ds else none
theorem goD_eq : ∀ (ds : List DC) (acc : ByteArray), acc.size ≤ 1000 → goD acc ds = if ds.all okD = true ∧ (acc ++ prDs ds).size ≤ 1000 then some (acc ++ prDs ds) else none
  | [], acc, h => by
    have e : acc ++ prDs [] = acc := by show acc ++ e0 = acc; exact ByteArray.append_empty
    rw [e, if_pos ⟨rfl, h⟩]
    rfl
  | d :: ds, acc, h => by
    rw [goD]
    have e : acc ++ prDs (d :: ds) = (acc ++ prD d) ++ prDs ds := by
      show acc ++ (prD d ++ prDs ds) = _
      rw [ByteArray.append_assoc]
    by_cases ho : okL 1000 d = true
    · obtain ⟨h1, h2⟩ := prL_ok ho
      rw [h2]
      by_cases hs : acc.size + (prD d).size ≤ 1000
      · rw [if_pos ⟨ho, hs⟩, goD_eq ds _ (by rw [ByteArray.size_append]; exact hs), ← e]
        simp [h1]
      · rw [if_neg (fun z => hs z.2), if_neg]
        intro z
        have := z.2
        rw [e] at this
        simp only [ByteArray.size_append] at this
        omega
    · rw [if_neg (fun z => ho z.1), if_neg]
      intro z
      have h1 := z.2
      rw [e] at h1
      simp only [ByteArray.size_append] at h1
      have h2 : okD d = true := by
        have := z.1
        simp only [List.all_cons, Bool.and_eq_true] at this
        exact this.1
      exact ho (okL_of h2 (by omega))
theorem goD_all (ds : List DC) : goD e0 ds = if okM ds = true then some (prDs ds) else none := by
  rw [goD_eq ds e0 (by decide)]
  have e : e0 ++ prDs ds = prDs ds := em_app _
  rw [e]
  unfold okM
  by_cases h1 : ds.all okD = true <;> by_cases h2 : (prDs ds).size ≤ 1000 <;> simp [h1, h2]

set_option maxRecDepth 100000 in
set_option maxHeartbeats 4000000 in
theorem p_printed (w : World) {a : Option Addr} {c : Nat} {xs : List (DC × DPl)} (h : DsA w (.slice a xs.length c) xs) {ds : List DC} (hds : xs.map Prod.fst = ds) (hnum : ∀ d, d ∈ ds → ∀ e, e ∈ d.ex → i64R e.num) (hten : Ten w) :
    Calls Tryd.prog 16 #[.agg #[.slice a xs.length c]] w fun e w' => e = .returned (.tuple #[.string (prM ds), .bool (okM ds)]) ∧ Below w.heap.size w w' := by
  have hlen : ds.length = xs.length := by rw [← hds, List.length_map]
  obtain ⟨n, hn⟩ : ∃ n, n = xs.length := ⟨_, rfl⟩
  have hnl : n ≤ 1048576 := by rw [hn]; exact h.len
  have HIT : Hid (∀ W, Below w.heap.size w W → ∀ k, k < n → ∃ (g : Nat) (d : DC) (ta ea : Option Addr) (tc ec : Nat), a = some ⟨g, 0, none⟩ ∧ (W.cell? ⟨g, k * 4, none⟩ = some (Value.int .i64 d.kind) ∧ W.cell? ⟨g, k * 4 + 1, none⟩ = some (Value.string d.nm) ∧ W.cell? ⟨g, k * 4 + 2, none⟩ = some (Value.slice ta d.ty.length tc) ∧ W.cell? ⟨g, k * 4 + 3, none⟩ = some (Value.slice ea d.ex.length ec)) ∧ ds.drop k = d :: ds.drop (k + 1) ∧ d.nm.size ≤ 1048576 ∧ ∀ W', Below W.heap.size W W' → Calls Tryd.prog 25 #[.agg #[.int .i64 1000], .agg #[.int .i64 d.kind, .string d.nm, .slice ta d.ty.length tc, .slice ea d.ex.length ec]] W' fun e w' => (∃ t : ByteArray, e = .returned (.tuple #[.string t, .bool (okL 1000 d)]) ∧ (okL 1000 d = true → t = prL 1000 d)) ∧ Below W'.heap.size W' w') := fun W hb k hk => by
    have hk2 : k < xs.length := by omega
    obtain ⟨g, ta, tc, ea, ec, e, y0, y1, y2, y3, D, hdv⟩ := (h.below hb).item hk2
    have hmem : xs[k].1 ∈ ds := by rw [← hds]; exact List.mem_map_of_mem (List.getElem_mem hk2)
    have hc : cD xs[k].1 = xs[k].1.nm.size + cTs xs[k].1.ty + cEs xs[k].1.ex := rfl
    have hcs := D.cost
    refine ⟨g, xs[k].1, ta, ea, tc, ec, e, ⟨y0, y1, y2, y3⟩, ?_, by omega, fun W' hb' => ?_⟩
    · rw [List.drop_eq_getElem_cons (by omega)]
      congr 1
      simp only [← hds, List.getElem_map]
    · unfold dV at hdv
      simp only [Value.agg.injEq, Array.mk.injEq, List.cons.injEq, true_and, and_true] at hdv
      exact p_decl W' (D.below hb') (hnum _ hmem) ((hten.below hb).below hb') hdv.1 hdv.2 (by omega) 1000 (by omega)
  have HRES : Hid (goD e0 ds = if okM ds = true then some (prDs ds) else none) := goD_all ds
  obtain ⟨ok, hok⟩ : ∃ ok, ok = okM ds := ⟨_, rfl⟩
  obtain ⟨pr, hpr⟩ : ∃ pr, pr = prM ds := ⟨_, rfl⟩
  have HBAD : Hid (goD e0 ds = none → ok = false ∧ pr = e0) := fun hz => by
    rw [HRES.out] at hz
    have : okM ds = false := by
      cases hb : okM ds with
      | false => rfl
      | true => rw [hb] at hz; cases hz
    rw [hok, hpr, this]
    exact ⟨rfl, by unfold prM; rw [this]; rfl⟩
  have HGOOD : Hid (∀ x, goD e0 ds = some x → ok = true ∧ pr = x) := fun x hz => by
    rw [HRES.out] at hz
    have : okM ds = true := by
      cases hb : okM ds with
      | false => rw [hb] at hz; cases hz
      | true => rfl
    rw [this, if_pos rfl] at hz
    rw [hok, hpr, this]
    exact ⟨rfl, by unfold prM; rw [this]; exact Option.some.inj hz⟩
  have HDE : Hid (ds.drop n = []) := by show _ = _; exact List.drop_eq_nil_of_le (by omega)
  rw [← hok, ← hpr, ← hn]
  clear h hds hnum hten hlen hn hok hpr HRES
  obtain ⟨W0, hW0⟩ : ∃ W0, W0 = (w.alloc (.cells #[.slice a n c] 29)).alloc (.cells #[.int .i64 1000] 57) := ⟨_, rfl⟩
  have HB0 : Hid (Below w.heap.size w W0) := by rw [hW0]; exact bel2 _ _ _
  have HRP : Hid (W0.rowIs (w.heap.size + 1) 57 1 (fun _ => .int .i64 1000)) := by
    have q := row1 (w.alloc (.cells #[.slice a n c] 29)) (.int .i64 1000) 57
    rw [World.size_alloc] at q
    rw [hW0]
    exact q
  go_enter Tryd.func16, Tryd.ntmps16
  go_wp2
  rw [← hW0]
  clear hW0
  go_loopw [14, 5] (fun i s wr => ∃ (k : Nat) (acc : ByteArray), k ≤ n ∧ i = .int .i64 k ∧ s = .string acc ∧ acc.size ≤ 1000 ∧ Hid (goD acc (ds.drop k) = goD e0 ds) ∧ Hid (Below W0.heap.size W0 wr)) (fun i _ _ => n - (intOf i).toNat)
  case atStart => exact ⟨0, e0, Nat.zero_le _, rfl, rfl, by decide, rfl, Below.refl _ _⟩
  case round =>
    obtain ⟨k, acc, hk, rfl, rfl, hacc, HGO, HW⟩ := hrel
    have p0 : wr.cell? ⟨w.heap.size + 1, 0, none⟩ = some (.int .i64 1000) := (HRP.out.of_block (HW.out.block _ HRP.out.lt)).cell (i := 0) (by omega)
    have HWw : Hid (Below w.heap.size w wr) := HB0.out.trans (HW.out.mono HB0.out.size)
    by_cases hlt : k < n
    · obtain ⟨g, d, ta, ea, tc, ec, eaq, ⟨y0, y1, y2, y3⟩, hdr, hnz, C0⟩ := HIT.out wr HWw.out k hlt
      have C1 := C0 (wr.alloc (.cells #[.int .i64 d.kind, .string d.nm, .slice ta d.ty.length tc, .slice ea d.ex.length ec] 38)) (bel1 _ _)
      have HDR : Hid (ds.drop k = d :: ds.drop (k + 1)) := hdr
      have hkl : (k : Int) < (n : Int) := by omega
      have hk0 : (0 : Int) ≤ (k : Int) := by omega
      rw [eaq]
      clear C0 eaq hdr
      have p1 : (wr.alloc (.cells #[.int .i64 d.kind, .string d.nm, .slice ta d.ty.length tc, .slice ea d.ex.length ec] 38)).cell? ⟨w.heap.size + 1, 0, none⟩ = some (.int .i64 1000) := ((bel1 wr _).cell (p := ⟨w.heap.size + 1, 0, none⟩) (World.block_lt_of_cell? _ _ p0)).trans p0
      go_wp2_with fail
      refine C1.mono ?_
      rintro e w2 ⟨⟨t, rfl, ht⟩, B2⟩
      have HW2 : Hid (Below W0.heap.size W0 w2) := (HW.out.alloc HW.out.size _).trans (B2.mono (Nat.le_trans HW.out.size (by simp)))
      clear C1 B2 p1 y0 y1 y2 y3
      cases hok : okL 1000 d with
      | false =>
        have HN : Hid (ok = false ∧ pr = e0) := HBAD.out (by
          rw [← HGO.out, HDR.out, goD, if_neg]
          intro z
          rw [hok] at z
          cases z.1)
        clear ht hok
        go_wp2
        go_ret2
        exact ⟨by rw [HN.out.1, HN.out.2]; rfl, HB0.out.trans (HW2.out.mono HB0.out.size)⟩
      | true =>
        have ht2 := ht hok
        have HT2 : Hid (t = prL 1000 d ∧ okL 1000 d = true) := ⟨ht2, hok⟩
        clear ht ht2 hok
        by_cases hsz : acc.size + t.size ≤ 1000
        · have a1 : IntKind.i64.wrap ((acc.size : Int) + (t.size : Int)) = (acc.size : Int) + (t.size : Int) := by rw [IntKind.wrap_i64]; omega
          have a2 : ¬ (1000 : Int) < (acc.size : Int) + (t.size : Int) := by omega
          have c1 := fun W => run_string_add_sum (P := Tryd.prog) (w := W) acc t (by omega)
          have HNX : Hid (goD (acc ++ t) (ds.drop (k + 1)) = goD e0 ds) := by
            show _ = _
            rw [← HGO.out, HDR.out, goD, if_pos ⟨HT2.out.2, by rw [← HT2.out.1]; exact hsz⟩, HT2.out.1]
          go_wp2
          go_roundw
          case rel => exact ⟨k + 1, acc ++ t, by omega, by go_num, rfl, by rw [ByteArray.size_append]; exact hsz, HNX, HW2⟩
          case measure => simp [intOf]; omega
        · have a1 : IntKind.i64.wrap ((acc.size : Int) + (t.size : Int)) = (acc.size : Int) + (t.size : Int) := by
            have h1 := prL_sz 1000 d
            rw [← HT2.out.1] at h1
            rw [IntKind.wrap_i64]
            omega
          have a2 : (1000 : Int) < (acc.size : Int) + (t.size : Int) := by omega
          have HN : Hid (ok = false ∧ pr = e0) := HBAD.out (by
            rw [← HGO.out, HDR.out, goD, if_neg]
            intro z
            rw [← HT2.out.1] at z
            exact hsz z.2)
          go_wp2
          go_ret2
          exact ⟨by rw [HN.out.1, HN.out.2]; rfl, HB0.out.trans (HW2.out.mono HB0.out.size)⟩
    · have hkn : k = n := by omega
      subst hkn
      have hkl : ¬ (k : Int) < (k : Int) := by omega
      have HN : Hid (ok = true ∧ pr = acc) := HGOOD.out acc (by rw [← HGO.out, HDE.out]; rfl)
      go_wp2
      go_ret2
      exact ⟨by rw [HN.out.1, HN.out.2]; rfl, HWw.out⟩

set_option maxRecDepth 100000 in
set_option maxHeartbeats 1000000 in
theorem p_valid (w : World) {a : Option Addr} {c : Nat} {xs : List (DC × DPl)} (h : DsA w (.slice a xs.length c) xs) {ds : List DC} (hds : xs.map Prod.fst = ds) (hnum : ∀ d, d ∈ ds → ∀ e, e ∈ d.ex → i64R e.num) (hten : Ten w) :
    Calls Tryd.prog 8 #[.agg #[.slice a xs.length c]] w fun e w' => e = .returned (.bool (okM ds)) ∧ Below w.heap.size w w' := by
  have C := p_printed (w.alloc (.cells #[.slice a xs.length c] 29)) (h.below (bel1 _ _)) hds hnum (hten.below (bel1 _ _))
  obtain ⟨n, hn⟩ : ∃ n, n = xs.length := ⟨_, rfl⟩
  rw [← hn] at C ⊢
  clear h hds hnum hten hn
  go_enter Tryd.func8, Tryd.ntmps8
  go_wp2_with fail
  refine C.mono ?_
  rintro e w2 ⟨rfl, B2⟩
  have HB : Hid (Below w.heap.size w w2) := (bel1 w _).trans (B2.mono (by simp))
  clear C B2
  go_wp2
  go_ret
  exact ⟨rfl, HB.out⟩
set_option maxRecDepth 100000 in
set_option maxHeartbeats 1000000 in
theorem p_print (w : World) {a : Option Addr} {c : Nat} {xs : List (DC × DPl)} (h : DsA w (.slice a xs.length c) xs) {ds : List DC} (hds : xs.map Prod.fst = ds) (hnum : ∀ d, d ∈ ds → ∀ e, e ∈ d.ex → i64R e.num) (hten : Ten w) :
    Calls Tryd.prog 11 #[.agg #[.slice a xs.length c]] w fun e w' => e = .returned (.string (prM ds)) ∧ Below w.heap.size w w' := by
  have C := p_printed (w.alloc (.cells #[.slice a xs.length c] 29)) (h.below (bel1 _ _)) hds hnum (hten.below (bel1 _ _))
  obtain ⟨n, hn⟩ : ∃ n, n = xs.length := ⟨_, rfl⟩
  rw [← hn] at C ⊢
  clear h hds hnum hten hn
  go_enter Tryd.func11, Tryd.ntmps11
  go_wp2_with fail
  refine C.mono ?_
  rintro e w2 ⟨rfl, B2⟩
  have HB : Hid (Below w.heap.size w w2) := (bel1 w _).trans (B2.mono (by simp))
  clear C B2
  go_wp2
  go_ret
  exact ⟨rfl, HB.out⟩

end Go.Proofs.YtcehppndpccldaaDoor
