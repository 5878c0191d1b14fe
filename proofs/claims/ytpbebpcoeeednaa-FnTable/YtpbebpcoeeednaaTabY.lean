/-
  Tables: Find, the program's and the model's.
-/
import Derived.Test.YtpbebpcoeeednaaTabX5
namespace Go.Proofs.Ytpbebpcoeeednaa
open Go.RowKit

/-- What Find gives. -/
def fnd (n : Nat) (D : Nat → SD) (k : Int) (m : ByteArray) : SD := if vt n D then (match slotOf n D k m with | some i => D i | none => zd) else zd
theorem fnd_bad {n : Nat} {D : Nat → SD} {k : Int} {m : ByteArray} (h : vt n D = false) : fnd n D k m = zd := by unfold fnd; rw [h]; rfl
theorem fnd_none {n : Nat} {D : Nat → SD} {k : Int} {m : ByteArray} (h2 : slotOf n D k m = none) : fnd n D k m = zd := by
  unfold fnd
  split
  · rw [h2]
  · rfl
theorem fnd_some {n i : Nat} {D : Nat → SD} {k : Int} {m : ByteArray} (h : vt n D = true) (h2 : slotOf n D k m = some i) : fnd n D k m = D i := by unfold fnd; rw [h, h2]; rfl
theorem fnd_of {n : Nat} {D : Nat → SD} {k : Int} {m : ByteArray} {d : SD} (h : vt n D = true) (hF : FndS n D k m d) : fnd n D k m = d := by
  rcases hF with ⟨h0, rfl⟩ | ⟨i, _, h0, rfl⟩
  · exact fnd_none h0
  · exact fnd_some h h0

/-- What a function that gives a slot gives. -/
def SlotPost (w : World) (d : SD) (e : Ending) (w' : World) : Prop :=
  ∃ oa cap, e = .returned (sdl d oa cap) ∧ w'.ownsRow w.heap.size 37 2 (.slice oa d.n cap) d.n (kcells d.dk d.dm d.n) ∧ Below w.heap.size w w'

theorem slot_zero {w W : World} {d : SD} (h : d = zd) (hb : Below w.heap.size w W) : SlotPost w d (.returned (.agg #[.int .i64 0, .string ByteArray.empty, .bool false, .string ByteArray.empty, .slice none 0 0, .int .i64 0, .int .i64 0, .int .i64 0, .int .i64 0])) W := by
  subst h
  exact ⟨none, 0, rfl, World.ownsRow_nil _ _ _ _, hb⟩

set_option maxRecDepth 100000 in
set_option maxHeartbeats 8000000 in
theorem s_Find (ao : Option Addr) (b o n c : Nat) (p : Nat → SP) (D : Nat → SD) (k : Int) (m : ByteArray) (w : World) (h1 : SlotsAt w ao b o n p D) (hn : n ≤ 1048576) (hG : ∀ i, i < n → (D i).n ≤ 1048576) :
    Calls Try.prog 17 #[.agg #[.slice ao n c], .agg #[.int .i64 k, .string m]] w fun e w' => SlotPost w (fnd n D k m) e w' := by
  have HB : Hid (∀ w', Below w.heap.size w w' → SlotsAt w' ao b o n p D) := fun w' hb => h1.below hb
  have HG : Hid (∀ i, i < n → (D i).n ≤ 1048576) := hG
  clear h1 hG
  obtain ⟨fd, hfd⟩ : ∃ fd, fd = fnd n D k m := ⟨_, rfl⟩
  have HFD : Hid (fd = fnd n D k m) := hfd
  rw [← hfd]
  clear hfd
  have rT := ((row1 w (.slice ao n c) 28).alloc (.cells #[.int .i64 k, .string m] 37)).alloc (.cells #[.int .i64 0, .string ⟨#[]⟩, .bool false, .string ⟨#[]⟩, .slice none 0 0, .int .i64 0, .int .i64 0, .int .i64 0, .int .i64 0] 40)
  have rK := (row2 (w.alloc (.cells #[.slice ao n c] 28)) (.int .i64 k) (.string m) 37).alloc (.cells #[.int .i64 0, .string ⟨#[]⟩, .bool false, .string ⟨#[]⟩, .slice none 0 0, .int .i64 0, .int .i64 0, .int .i64 0, .int .i64 0] 40)
  have rR := row9 ((w.alloc (.cells #[.slice ao n c] 28)).alloc (.cells #[.int .i64 k, .string m] 37)) (.int .i64 0) (.string ⟨#[]⟩) (.bool false) (.string ⟨#[]⟩) (.slice none 0 0) (.int .i64 0) (.int .i64 0) (.int .i64 0) (.int .i64 0) 40
  simp only [World.size_alloc] at rK rR
  have HR : Hid (_ ∧ _ ∧ _) := And.intro rT (And.intro rK rR)
  clear rT rK rR
  go_enter Try.func17, Try.ntmps17
  go_wp2_with fail
  refine (c7 ao b o n c p D _ (HB.out _ (bel3 _ _ _ _))).mono ?_
  rintro e w1 ⟨rfl, hb1⟩
  have B1 : Hid (Below w.heap.size w w1) := (bel3 w _ _ _).trans (hb1.mono (by simp; omega))
  have R1 : Hid (w1.rowIs w.heap.size 28 1 _ ∧ w1.rowIs (w.heap.size + 1) 37 2 _ ∧ w1.rowIs (w.heap.size + 1 + 1) 40 9 _) := ⟨HR.out.1.of_block (hb1.block _ (by simp; omega)), HR.out.2.1.of_block (hb1.block _ (by simp)), HR.out.2.2.of_block (hb1.block _ (by simp))⟩
  clear hb1 HR
  cases hv : vt n D
  · have HZ : Hid (fd = zd) := HFD.out.trans (fnd_bad hv)
    obtain ⟨m0, m1, m2, m3, m4, m5, m6, m7, m8⟩ := nine_cells R1.out.2.2
    obtain ⟨l0, l1, l2, l3, l4, l5, l6, l7, l8⟩ := nine_frozen R1.out.2.2
    clear hv
    go_wp2
    refine bodyPost_ret (v := .agg #[.int .i64 0, .string ByteArray.empty, .bool false, .string ByteArray.empty, .slice none 0 0, .int .i64 0, .int .i64 0, .int .i64 0, .int .i64 0])
      (by simp [results, Try.results17, go_sem, m0, m1, m2, m3, m4, m5, m6, m7, m8]; try rfl) rfl (slot_zero HZ.out ?_)
    repeat' (first | with_reducible exact B1.out | refine Below.setCell ?_ ?_ _)
    all_goals (simp; try omega)
  · have HV : Hid (vt n D = true) := hv
    have cT := R1.out.1.cell (i := 0) (by omega)
    have k0 : w1.cell? ⟨w.heap.size + 1, 0, none⟩ = some (.int .i64 k) := R1.out.2.1.cell (i := 0) (by omega)
    have k1 : w1.cell? ⟨w.heap.size + 1, 1, none⟩ = some (.string m) := R1.out.2.1.cell (i := 1) (by omega)
    clear hv
    go_wp2_with fail
    refine (t_find ao b o n c p D k m _ (HB.out _ B1.out) hn HG.out).mono ?_
    rintro e w2 ⟨d, oa, cap, rfl, hb2, HO2, HD⟩
    have HDE : Hid (fd = d) := HFD.out.trans (fnd_of HV.out HD.out)
    have B2 : Hid (Below w.heap.size w w2) := B1.out.trans (hb2.out.mono B1.out.size)
    have RR := R1.out.2.2.of_block (hb2.out.block _ R1.out.2.2.lt)
    have HL : Hid (w.heap.size + 1 + 1 < w1.heap.size) := R1.out.2.2.lt
    obtain ⟨m0, m1, m2, m3, m4, m5, m6, m7, m8⟩ := nine_cells RR
    obtain ⟨l0, l1, l2, l3, l4, l5, l6, l7, l8⟩ := nine_frozen RR
    clear RR cT k0 k1 hb2 R1
    unfold sdl
    go_wp2
    refine bodyPost_ret (v := sdl d oa cap) (by simp [results, Try.results17, go_sem, sdl, m0, m1, m2, m3, m4, m5, m6, m7, m8]) rfl ?_
    rw [HDE.out]
    refine ⟨oa, cap, rfl, own_weak (base := w1.heap.size) ?_ B1.out.size, ?_⟩
    · have hll := HL.out
      repeat' (first | with_reducible exact HO2.out | refine own_set ?_ ?_ _)
      all_goals (simp; try omega)
    · repeat' (first | with_reducible exact B2.out | refine Below.setCell ?_ ?_ _)
      all_goals (simp; try omega)

set_option maxRecDepth 100000 in
set_option maxHeartbeats 8000000 in
theorem t_Find (ao : Option Addr) (b o n c : Nat) (p : Nat → SP) (D : Nat → SD) (k : Int) (m : ByteArray) (w : World) (h1 : SlotsAt w ao b o n p D) (hs : ∀ i, i < n → small (D i)) :
    Calls Try.prog 19 #[.agg #[.slice ao n c], .agg #[.int .i64 k, .string m]] w fun e w' => SlotPost w (fnd n D k m) e w' := by
  have HB : Hid (∀ w', Below w.heap.size w w' → SlotsAt w' ao b o n p D) := fun w' hb => h1.below hb
  have HS : Hid (∀ i, i < n → small (D i)) := hs
  clear h1 hs
  obtain ⟨fd, hfd⟩ : ∃ fd, fd = fnd n D k m := ⟨_, rfl⟩
  have HFD : Hid (fd = fnd n D k m) := hfd
  rw [← hfd]
  clear hfd
  have rK := (row2 (w.alloc (.cells #[.slice ao n c] 28)) (.int .i64 k) (.string m) 37).alloc (.cells #[.int .i64 0, .string ⟨#[]⟩, .bool false, .string ⟨#[]⟩, .slice none 0 0, .int .i64 0, .int .i64 0, .int .i64 0, .int .i64 0] 40)
  have rR := row9 ((w.alloc (.cells #[.slice ao n c] 28)).alloc (.cells #[.int .i64 k, .string m] 37)) (.int .i64 0) (.string ⟨#[]⟩) (.bool false) (.string ⟨#[]⟩) (.slice none 0 0) (.int .i64 0) (.int .i64 0) (.int .i64 0) (.int .i64 0) 40
  simp only [World.size_alloc] at rK rR
  have HR : Hid (_ ∧ _) := And.intro rK rR
  clear rK rR
  go_enter Try.func19, Try.ntmps19
  go_wp2_with fail
  refine (c28 ao b o n c p D _ (HB.out _ (bel3 _ _ _ _))).mono ?_
  rintro e w1 ⟨ptr, rfl, hb1, hO⟩
  have B1 : Hid (Below w.heap.size w w1) := (bel3 w _ _ _).trans (hb1.mono (by simp; omega))
  have R1 : Hid (w1.rowIs (w.heap.size + 1) 37 2 _ ∧ w1.rowIs (w.heap.size + 1 + 1) 40 9 _) := ⟨HR.out.1.of_block (hb1.block _ (by simp)), HR.out.2.of_block (hb1.block _ (by simp))⟩
  clear hb1 HR
  obtain ⟨v, hv⟩ : ∃ v, vt n D = v := ⟨_, rfl⟩
  have HV : Hid (vt n D = v) := hv
  rw [hv]
  cases v
  · have HZ : Hid (fd = zd) := HFD.out.trans (fnd_bad hv)
    obtain ⟨m0, m1, m2, m3, m4, m5, m6, m7, m8⟩ := nine_cells R1.out.2
    obtain ⟨l0, l1, l2, l3, l4, l5, l6, l7, l8⟩ := nine_frozen R1.out.2
    clear hv hO
    go_wp2
    refine bodyPost_ret (v := .agg #[.int .i64 0, .string ByteArray.empty, .bool false, .string ByteArray.empty, .slice none 0 0, .int .i64 0, .int .i64 0, .int .i64 0, .int .i64 0])
      (by simp [results, Try.results19, go_sem, m0, m1, m2, m3, m4, m5, m6, m7, m8]; try rfl) rfl (slot_zero HZ.out ?_)
    repeat' (first | with_reducible exact B1.out | refine Below.setCell ?_ ?_ _)
    all_goals (simp; try omega)
  · obtain ⟨sb, rfl, hop⟩ := hO hv
    obtain ⟨base, lb, sv, k1, k2, _, _, _, _⟩ := hop.st
    obtain ⟨g, cap, rfl⟩ := k1.form
    have HO : Hid (∀ W, Below w1.heap.size w1 W → OS W base lb (.slice (some ⟨g, 0, none⟩) n cap) n p D ∧ W.cell? ⟨sb, 0, none⟩ = some (.pointer (some ⟨lb, 0, none⟩))) := fun W hW => ⟨k1.below hW, by rw [hW.cell (p := ⟨sb, 0, none⟩) (World.block_lt_of_cell? _ _ k2)]; exact k2⟩
    have HUP : Hid (Up n D) := up_of hv
    have hn := vt_len hv
    clear k1 k2 hop hO hv
    go_wp2_with fail
    have HZ : Hid (∀ W, Below w1.heap.size w1 W → W.cell? ⟨sb, 0, none⟩ = some (.pointer (some ⟨lb, 0, none⟩)) ∧ W.cell? ⟨w.heap.size + 1, 0, none⟩ = some (.int .i64 k) ∧ W.cell? ⟨w.heap.size + 1, 1, none⟩ = some (.string m)) := fun W hW => by
      have r := R1.out.1.of_block (hW.block _ R1.out.1.lt)
      exact ⟨(HO.out W hW).2, r.cell (i := 0) (by omega), r.cell (i := 1) (by omega)⟩
    have C39 : Hid (∀ W, Below w1.heap.size w1 W → Calls Try.prog 48 #[.pointer (some ⟨lb, 0, none⟩), .agg #[.int .i64 k, .string m]] W fun e w' => ∃ r, e = .returned (.pointer r) ∧ Hid (FR g n D k m r) ∧ Hid (Below w1.heap.size w1 w')) := fun W hW =>
      (c39 base lb g n cap p D k m W (HO.out W hW).1 HUP.out (by omega)).mono fun e w' ⟨hb, hf⟩ => by
        rcases hf with ⟨he, hf⟩ | ⟨i, he, hf⟩
        · exact ⟨none, he, Or.inl ⟨rfl, hf⟩, hW.trans (hb.mono hW.size)⟩
        · exact ⟨some ⟨g, i * 9, none⟩, he, Or.inr ⟨i, rfl, hf⟩, hW.trans (hb.mono hW.size)⟩
    obtain ⟨z0, z1, z2⟩ := HZ.out w1 (Below.refl _ _)
    go_region_held3 (fun w' => w'.cell? ⟨sb, 0, none⟩ = some (.pointer (some ⟨lb, 0, none⟩)) ∧ w'.cell? ⟨w.heap.size + 1, 0, none⟩ = some (.int .i64 k) ∧ w'.cell? ⟨w.heap.size + 1, 1, none⟩ = some (.string m)) (go_keep)
      (first | (go_at_call 48; (with_reducible refine (C39.out _ (Below.refl _ _).drew).mono ?_); rintro e w3 ⟨r, rfl, HF, H3⟩; obtain ⟨y0, y1, y2⟩ := HZ.out w3 H3.out))
    all_goals
      have B3 : Hid (Below w.heap.size w w3) := B1.out.trans (H3.out.mono B1.out.size)
      have R3 : Hid (w3.rowIs (w.heap.size + 1 + 1) 40 9 _) := R1.out.2.of_block (H3.out.block _ R1.out.2.lt)
      have O3 : Hid (OS w3 base lb (.slice (some ⟨g, 0, none⟩) n cap) n p D) := (HO.out w3 H3.out).1
      clear z0 z1 z2 y0 y1 y2 C39 HZ H3 R1 HO
      rcases HF.out with ⟨hr, hno⟩ | ⟨i, hr, hi, hsk⟩
      · have HZ : Hid (fd = zd) := HFD.out.trans (fnd_none (slot_none hno))
        subst hr
        clear HF hno
        obtain ⟨m0, m1, m2, m3, m4, m5, m6, m7, m8⟩ := nine_cells R3.out
        obtain ⟨l0, l1, l2, l3, l4, l5, l6, l7, l8⟩ := nine_frozen R3.out
        go_wp2
        refine bodyPost_ret (v := .agg #[.int .i64 0, .string ByteArray.empty, .bool false, .string ByteArray.empty, .slice none 0 0, .int .i64 0, .int .i64 0, .int .i64 0, .int .i64 0])
          (by simp [results, Try.results19, go_sem, m0, m1, m2, m3, m4, m5, m6, m7, m8]; try rfl) rfl (slot_zero HZ.out ?_)
        repeat' (first | with_reducible exact B3.out | refine Below.setCell ?_ ?_ _)
        all_goals (simp; try omega)
      · have HS2 : Hid (fd = D i) := HFD.out.trans (fnd_some HV.out (slot_some HUP.out hi hsk))
        have HI : Hid (i < n) := hi
        subst hr
        clear HF hsk
        go_wp2_with fail
        refine (t_slot g (i * 9) (p i) (D i) _ (nine_ec O3.out.own i HI.out) ((HB.out _ B3.out).slot i HI.out) (HS.out i HI.out)).mono ?_
        rintro e w4 ⟨oa, kc, rfl, hO4, hb4⟩
        have B4 : Hid (Below w.heap.size w w4) := B3.out.trans (hb4.mono B3.out.size)
        have HO4 : Hid (w4.ownsRow w3.heap.size 37 2 (.slice oa (D i).n kc) (D i).n (kcells (D i).dk (D i).dm (D i).n)) := hO4
        have RR := R3.out.of_block (hb4.block _ R3.out.lt)
        have HL : Hid (w.heap.size + 1 + 1 < w3.heap.size) := R3.out.lt
        obtain ⟨m0, m1, m2, m3, m4, m5, m6, m7, m8⟩ := nine_cells RR
        obtain ⟨l0, l1, l2, l3, l4, l5, l6, l7, l8⟩ := nine_frozen RR
        clear RR hO4 hb4 R3 O3
        unfold sdl
        go_wp2
        refine bodyPost_ret (v := sdl (D i) oa kc) (by simp [results, Try.results19, go_sem, sdl, m0, m1, m2, m3, m4, m5, m6, m7, m8]) rfl ?_
        rw [HS2.out]
        refine ⟨oa, kc, rfl, own_weak (base := w3.heap.size) ?_ B3.out.size, ?_⟩
        · have hll := HL.out
          repeat' (first | with_reducible exact HO4.out | refine own_set ?_ ?_ _)
          all_goals (simp; try omega)
        · repeat' (first | with_reducible exact B4.out | refine Below.setCell ?_ ?_ _)
          all_goals (simp; try omega)

end Go.Proofs.Ytpbebpcoeeednaa
