/-
  Tables: the walk of the law on Confirm.
-/
import Derived.Test.YtijgiingfgaakaaTabX5
import Derived.Test.YtijgiingfgaakaaTabL
import Derived.Deep.DeepCutAuto
namespace Go.Proofs.Ytijgiingfgaakaa
open Go.RowKit

/-- The law's own boxes. -/
structure LB (w W : World) (ao : Option Addr) (n c : Nat) (k : Int) (m : ByteArray) : Prop where
  t : W.rowIs w.heap.size 24 1 (fun _ => .slice ao n c)
  k : W.rowIs (w.heap.size + 1) 35 2 (fun i => if i = 0 then .int .i64 k else .string m)
  b : Below w.heap.size w W

theorem LB.below {w W W' : World} {ao : Option Addr} {n c : Nat} {k : Int} {m : ByteArray} (h : LB w W ao n c k m) (hb : Below W.heap.size W W') : LB w W' ao n c k m :=
  ⟨h.t.of_block (hb.block _ h.t.lt), h.k.of_block (hb.block _ h.k.lt), h.b.trans (hb.mono h.b.size)⟩
theorem LB.span {w W W' : World} {ao : Option Addr} {n c : Nat} {k : Int} {m : ByteArray} (h : LB w W ao n c k m) {l2 h2 : Nat} (hs : Span l2 h2 W W') (hl : w.heap.size + 1 < l2) : LB w W' ao n c k m :=
  ⟨h.t.of_block (hs.block _ h.t.lt (by omega)), h.k.of_block (hs.block _ h.k.lt (by omega)), hs.toBelow h.b (by omega) h.b.size⟩
theorem LB.cells {w W : World} {ao : Option Addr} {n c : Nat} {k : Int} {m : ByteArray} (h : LB w W ao n c k m) : W.cell? ⟨w.heap.size, 0, none⟩ = some (.slice ao n c) ∧ W.cell? ⟨w.heap.size + 1, 0, none⟩ = some (.int .i64 k) ∧ W.cell? ⟨w.heap.size + 1, 1, none⟩ = some (.string m) :=
  ⟨h.t.cell (i := 0) (by omega), h.k.cell (i := 0) (by omega), h.k.cell (i := 1) (by omega)⟩

set_option maxRecDepth 100000 in
set_option maxHeartbeats 16000000 in
theorem l_Confirm (ao : Option Addr) (b o n c : Nat) (p : Nat → SP) (D : Nat → SD) (k : Int) (m : ByteArray) (wk rev : Int) (w : World) (h1 : SlotsAt w ao b o n p D) (hm : m.size ≤ 9223372036854775807) :
    Calls Try.prog 7 #[.agg #[.slice ao n c], .agg #[.int .i64 k, .string m], .int .i64 wk, .int .i64 rev] w fun e w' => e = .returned (.bool true) ∧ Below w.heap.size w w' := by
  have HB : Hid (∀ w', Below w.heap.size w w' → SlotsAt w' ao b o n p D) := fun w' hb => h1.below hb
  clear h1
  have HX0 : Hid (LB w ((w.alloc (.cells #[.slice ao n c] 24)).alloc (.cells #[.int .i64 k, .string m] 35)) ao n c k m) := ⟨(row1 w (.slice ao n c) 24).alloc _, by have := row2 (w.alloc (.cells #[.slice ao n c] 24)) (.int .i64 k) (.string m) 35; rw [World.size_alloc] at this; exact this, bel2 w _ _⟩
  go_enter Try.func7, Try.ntmps7
  go_wp2_with fail
  refine (c6 ao b o n c p D 1048576 _ (by omega) (by omega) (by exact HB.out _ (bel2 _ _ _))).mono ?_
  rintro e w1 ⟨r, rfl, hr, hb1⟩
  have X1 : Hid (LB w w1 ao n c k m) := HX0.out.below hb1
  obtain ⟨t1, u1, v1⟩ := X1.out.cells
  clear hb1 HX0
  by_cases h3 : r < 0
  · go_wp2
    go_ret
    exact ⟨rfl, X1.out.b⟩
  obtain ⟨hn, hS0⟩ := hr.ok (by omega)
  have HS : Hid (∀ i, i < n → small (D i)) := hS0
  have HG : Hid (∀ i, i < n → (D i).n ≤ 1048576) := fun i hi => (hS0 i hi).2.2.1
  have hr1 := hr.hi
  clear hr hS0
  go_wp2_with fail
  refine (c12 k m r _ (by omega) (by omega) hm).mono ?_
  rintro e wA ⟨r3, rfl, hr3, hb3⟩
  have XA : Hid (LB w wA ao n c k m) := X1.out.below hb3
  clear hb3 t1 u1 v1 X1 hr3
  by_cases h5 : r3 < 0
  · go_wp2
    go_ret
    exact ⟨rfl, XA.out.b⟩
  obtain ⟨n', hn'⟩ : ∃ n', n' = if okA n D k m wk rev then n else 0 := ⟨_, rfl⟩
  obtain ⟨cd, hcd⟩ : ∃ cd, cd = if okA n D k m wk rev then confC n D k m wk rev else 9 := ⟨_, rfl⟩
  obtain ⟨E, hE⟩ : ∃ E, E = confD n D k m wk rev := ⟨_, rfl⟩
  have hn2 : n' ≤ 1048576 := by rw [hn']; split <;> omega
  have HF0 : Hid (∀ i, i < n → Fit (D i)) := fun i hi => ((HB.out w (Below.refl _ _)).slot i hi).fit
  have HFE : Hid (∀ i, i < n' → Fit (E i) ∧ small (E i)) := by
    have hle : n' ≤ n := by rw [hn']; split <;> omega
    intro i hi
    rw [hE]
    have := good_conf (k := k) (m := m) (wk := wk) (rev := rev) (fun i hi => (⟨(HB.out w (Below.refl _ _)).slot i hi, HS.out i hi⟩ : Good w (p i) (D i))) i (by omega)
    exact ⟨this.at_.fit, this.sm⟩
  have C10 : Hid (∀ V W, Below V.heap.size V W → Below w.heap.size w V → Calls Try.prog 10 #[.agg #[.slice ao n c]] W fun e w' => ∃ b' p', e = .returned (.agg #[.slice (some ⟨b', 0, none⟩) n n]) ∧ Hid (TabNew w' W.heap.size w'.heap.size (some ⟨b', 0, none⟩) b' n p' D) ∧ Hid (Below V.heap.size V w') ∧ Hid (Below W.heap.size W w')) := fun V W hW hV =>
    (u8 ao b o n c p D W (HB.out W (hV.trans (hW.mono hV.size))) hn HG.out).mono fun e w' ⟨b', p', he, hT, hb⟩ => ⟨b', p', he, hT, hW.trans (hb.mono hW.size), hb⟩
  have C17 : Hid (∀ V W, Below V.heap.size V W → Calls Try.prog 17 #[.agg #[.int .i64 k, .string m]] W fun e w' => e = .returned (.agg #[.int .i64 k, .string m]) ∧ Hid (Below V.heap.size V w') ∧ Hid (Below W.heap.size W w')) := fun V W hW =>
    (c15 k m W).mono fun e w' ⟨he, hb⟩ => ⟨he, hW.trans (hb.mono hW.size), hb⟩
  have CS : Hid (∀ V W b' p' lo hi, Hid (TabNew V lo hi (some ⟨b', 0, none⟩) b' n p' D) → Below V.heap.size V W → Calls Try.prog 30 #[.agg #[.slice (some ⟨b', 0, none⟩) n n], .agg #[.int .i64 k, .string m], .int .i64 wk, .int .i64 rev] W fun e w' => ∃ ta tb tc tq, e = .returned (.tuple #[.agg #[.slice ta n' tc], .int .i64 cd]) ∧ Hid (TabNew w' W.heap.size w'.heap.size ta tb n' tq E) ∧ Hid (Below V.heap.size V w') ∧ Hid (Below W.heap.size W w')) := fun V W b' p' lo hi hT hW => by
    rw [hn', hcd, hE]
    exact (s_Confirm _ b' 0 n n p' D k m wk rev W ((hT.out.below hW).slots HF0.out (by omega)) hm hn HS.out).mono fun e w' ⟨ta, tb, tc, tq, he, hT2, hb⟩ => ⟨ta, tb, tc, tq, he, hT2, hW.trans (hb.mono hW.size), hb⟩
  have CI : Hid (∀ V W b' p' lo hi, Hid (TabNew V lo hi (some ⟨b', 0, none⟩) b' n p' D) → Below V.heap.size V W → Calls Try.prog 31 #[.agg #[.slice (some ⟨b', 0, none⟩) n n], .agg #[.int .i64 k, .string m], .int .i64 wk, .int .i64 rev] W fun e w' => ∃ ta tb tc tq, e = .returned (.tuple #[.agg #[.slice ta n' tc], .int .i64 cd]) ∧ Hid (TabNew w' W.heap.size w'.heap.size ta tb n' tq E) ∧ Hid (Below V.heap.size V w') ∧ Hid (Below W.heap.size W w')) := fun V W b' p' lo hi hT hW => by
    rw [hn', hcd, hE]
    exact (t_Confirm _ b' 0 n n p' D k m wk rev W ((hT.out.below hW).slots HF0.out (by omega)) hm HS.out).mono fun e w' ⟨ta, tb, tc, tq, he, hT2, hb⟩ => ⟨ta, tb, tc, tq, he, hT2, hW.trans (hb.mono hW.size), hb⟩
  clear hn' hcd hE
  go_wp2_with fail
  have HZ : Hid (∀ W, Below wA.heap.size wA W → W.cell? ⟨w.heap.size, 0, none⟩ = some (.slice ao n c) ∧ W.cell? ⟨w.heap.size + 1, 0, none⟩ = some (.int .i64 k) ∧ W.cell? ⟨w.heap.size + 1, 1, none⟩ = some (.string m)) := fun W hW => (XA.out.below hW).cells
  have CT : Hid (∀ W, Below wA.heap.size wA W → Calls Try.prog 10 #[.agg #[.slice ao n c]] W fun e w' => ∃ b' p', e = .returned (.agg #[.slice (some ⟨b', 0, none⟩) n n]) ∧ Hid (TabNew w' W.heap.size w'.heap.size (some ⟨b', 0, none⟩) b' n p' D) ∧ Hid (Below wA.heap.size wA w') ∧ Hid (Below W.heap.size W w')) := fun W hW => C10.out wA W hW XA.out.b
  go_cut [10, 11] (fun s10 s11 wc => ∃ xb : Nat, s10 = .pointer (some ⟨xb, 0, none⟩) ∧ s11 = .int .i64 cd ∧ Hid (Below wA.heap.size wA wc) ∧ Hid (∃ lo hi ta tb tc tq, TV wc wA.heap.size wc.heap.size xb lo hi ta tb n' tc tq E))
  case first =>
    refine wp_region_held_drew (S := (fun w' => w'.cell? ⟨w.heap.size, 0, none⟩ = some (.slice ao n c) ∧ w'.cell? ⟨w.heap.size + 1, 0, none⟩ = some (.int .i64 k) ∧ w'.cell? ⟨w.heap.size + 1, 1, none⟩ = some (.string m))) (by kernel_rfl) ?_ (fun hHeld => ?_)
    · exact HZ.out _ (Below.refl _ _).drew
    refine wpAnyH_take (i := 0) (oi := ⟨some 31, _, _, _, _, _⟩) (v := ?_) rfl (by kernel_rfl) (by kernel_rfl) (by kernel_rfl) (fun _ _ _ h => h) (Or.inl ⟨by kernel_rfl, ?_⟩) (by assumption) ?_
    rotate_left
    · (intro wS hSw; (try dsimp only at hSw); (go_simp <;> with_reducible rfl))
    (try simp only [Act.put]); (try simp only [List.setIfInBounds_toArray]); (try simp only [List.set_cons_succ]); (try simp only [List.set_cons_zero])
    refine wpAnyH_take (i := 2) (oi := ⟨some 33, _, _, _, _, _⟩) (v := ?_) rfl (by kernel_rfl) (by kernel_rfl) (by kernel_rfl) (fun _ _ _ h => h) (Or.inl ⟨by kernel_rfl, ?_⟩) (by assumption) ?_
    rotate_left
    · (intro wS hSw; (try dsimp only at hSw); (go_simp <;> with_reducible rfl))
    (try simp only [Act.put]); (try simp only [List.setIfInBounds_toArray]); (try simp only [List.set_cons_succ]); (try simp only [List.set_cons_zero])
    refine wpAnyH_take (i := 4) (oi := ⟨some 35, _, _, _, _, _⟩) (v := ?_) rfl (by kernel_rfl) (by kernel_rfl) (by kernel_rfl) (fun _ _ _ h => h) (Or.inl ⟨by kernel_rfl, ?_⟩) (by assumption) ?_
    rotate_left
    · (intro wS hSw; (try dsimp only at hSw); (go_simp <;> with_reducible rfl))
    (try simp only [Act.put]); (try simp only [List.setIfInBounds_toArray]); (try simp only [List.set_cons_succ]); (try simp only [List.set_cons_zero])
    refine wpAnyH_take (i := 5) (oi := ⟨some 36, _, _, _, _, _⟩) (v := ?_) rfl (by kernel_rfl) (by kernel_rfl) (by kernel_rfl) (fun _ _ _ h => h) (Or.inl ⟨by kernel_rfl, ?_⟩) (by assumption) ?_
    rotate_left
    · (intro wS hSw; (try dsimp only at hSw); (go_simp <;> with_reducible rfl))
    (try simp only [Act.put]); (try simp only [List.setIfInBounds_toArray]); (try simp only [List.set_cons_succ]); (try simp only [List.set_cons_zero])
    refine wpAnyH_ready (rs := [1, 10]) (by kernel_rfl) (by simp) ?_
    refine AllReadyH.cons rfl (fun K hK => ?_) (AllReadyH.cons rfl (fun K hK => ?_) AllReadyH.nil)
    · go_simp
      go_wp2_with (go_at_call 10; refine (CT.out _ (Below.refl _ _).drew).mono ?_; rintro e w4 ⟨b4, p4, rfl, T4, Jw4, Kw4⟩)
      have Hw4 : Hid (Below wA.heap.size wA w4) := Jw4.out
      refine hK.out _ _ ?_ (fun hHeld2 => ?_)
      · exact HZ.out _ Hw4.out
      clear hK K hHeld
      have hHeld := hHeld2
      clear hHeld2
      refine wpAnyH_ready (rs := [3, 10]) (by kernel_rfl) (by simp) ?_
      refine AllReadyH.cons rfl (fun K hK => ?_) (AllReadyH.cons rfl (fun K hK => ?_) AllReadyH.nil)
      · go_simp
        go_wp2_with (go_at_call 17; refine (C17.out w4 _ (Below.refl _ _)).mono ?_; rintro e w5 ⟨rfl, Jw5, Kw5⟩; have T5 : Hid (TabNew w5 _ _ (some ⟨b4, 0, none⟩) b4 n p4 D) := T4.out.below Jw5.out)
        have Hw5 : Hid (Below wA.heap.size wA w5) := Hw4.out.trans (Jw5.out.mono Hw4.out.size)
        refine hK.out _ _ ?_ (fun hHeld2 => ?_)
        · exact HZ.out _ Hw5.out
        clear hK K hHeld
        have hHeld := hHeld2
        clear hHeld2
        refine wpAnyH_ready (rs := [6, 10]) (by kernel_rfl) (by simp) ?_
        refine AllReadyH.cons rfl (fun K hK => ?_) (AllReadyH.cons rfl (fun K hK => ?_) AllReadyH.nil)
        · go_simp
          go_wp2_with (go_at_call 30; refine (CS.out w5 _ b4 p4 _ _ T5 (Below.refl _ _)).mono ?_; rintro e w6 ⟨ta, tb, tc, tq, rfl, T6, Jw6, Kw6⟩)
          have Hw6 : Hid (Below wA.heap.size wA w6) := Hw5.out.trans (Jw6.out.mono Hw5.out.size)
          refine hK.out _ _ ?_ (fun hHeld2 => ?_)
          · exact HZ.out _ Hw6.out
          clear hK K hHeld
          have hHeld := hHeld2
          clear hHeld2
          refine wpAnyH_take (i := 7) (oi := ⟨some 30, _, _, _, _, _⟩) (v := ?_) rfl (by kernel_rfl) (by kernel_rfl) (by kernel_rfl) (fun _ _ _ h => h) (Or.inl ⟨by kernel_rfl, ?_⟩) (by assumption) ?_
          rotate_left
          · (intro wS hSw; (try dsimp only at hSw); (go_simp <;> with_reducible rfl))
          (try simp only [Act.put]); (try simp only [List.setIfInBounds_toArray]); (try simp only [List.set_cons_succ]); (try simp only [List.set_cons_zero])
          refine wpAnyH_take (i := 8) (oi := ⟨some 38, _, _, _, _, _⟩) (v := ?_) rfl (by kernel_rfl) (by kernel_rfl) (by kernel_rfl) (fun _ _ _ h => h) (Or.inl ⟨by kernel_rfl, ?_⟩) (by assumption) ?_
          rotate_left
          · (intro wS hSw; (try dsimp only at hSw); (go_simp <;> with_reducible rfl))
          (try simp only [Act.put]); (try simp only [List.setIfInBounds_toArray]); (try simp only [List.set_cons_succ]); (try simp only [List.set_cons_zero])
          refine wpAnyH_take (i := 9) (oi := ⟨some 39, _, _, _, _, _⟩) (v := ?_) rfl (by kernel_rfl) (by kernel_rfl) (by kernel_rfl) (fun _ _ _ h => h) (Or.inl ⟨by kernel_rfl, ?_⟩) (by assumption) ?_
          rotate_left
          · (intro wS hSw; (try dsimp only at hSw); (go_simp <;> with_reducible rfl))
          (try simp only [Act.put]); (try simp only [List.setIfInBounds_toArray]); (try simp only [List.set_cons_succ]); (try simp only [List.set_cons_zero])
          refine wpAnyH_ready (rs := [10]) (by kernel_rfl) (by simp) ?_
          refine AllReadyH.cons rfl (fun K hK => ?_) AllReadyH.nil
          go_simp
          refine hK.out _ _ ?_ (fun hHeld2 => ?_)
          · exact HZ.out _ (Hw6.out.alloc Hw6.out.size _)
          clear hK K hHeld
          have hHeld := hHeld2
          clear hHeld2
          refine wpAnyH_ready (rs := [11]) (by kernel_rfl) (by simp) ?_
          refine AllReadyH.cons rfl (fun K hK => ?_) AllReadyH.nil
          go_simp
          refine hK.out _ _ ?_ (fun hHeld2 => ?_)
          · exact HZ.out _ (Hw6.out.alloc Hw6.out.size _)
          clear hK K hHeld
          have hHeld := hHeld2
          clear hHeld2
          refine wpAnyH_take (i := 12) (oi := ⟨some 11, _, _, _, _, _⟩) (v := ?_) rfl (by kernel_rfl) (by kernel_rfl) (by kernel_rfl) (fun _ _ _ h => h) (Or.inl ⟨by kernel_rfl, ?_⟩) (by assumption) ?_
          rotate_left
          · (intro wS hSw; (try dsimp only at hSw); (go_simp <;> with_reducible rfl))
          (try simp only [Act.put]); (try simp only [List.setIfInBounds_toArray]); (try simp only [List.set_cons_succ]); (try simp only [List.set_cons_zero])
          refine wpAnyH_done (by kernel_rfl) ?_ _
          have FV : Hid (Below wA.heap.size wA (w6.alloc (.cells #[.slice ta n' tc] 28)) ∧ ∃ lo hi ta' tb tc' tq, TV (w6.alloc (.cells #[.slice ta n' tc] 28)) wA.heap.size (w6.alloc (.cells #[.slice ta n' tc] 28)).heap.size w6.heap.size lo hi ta' tb n' tc' tq E) := ⟨Hw6.out.alloc Hw6.out.size _, _, _, ta, tb, tc, tq, tv_late T6.out (by exact Hw5.out.size) Hw6.out.size⟩
          go_wp2
          go_meet
          case rel => exact ⟨w6.heap.size, rfl, rfl, FV.out.1, FV.out.2⟩
        · go_simp
          refine hK.out _ _ ?_ (fun hHeld2 => ?_)
          · exact HZ.out _ (Hw5.out.alloc Hw5.out.size _)
          clear hK K hHeld
          have hHeld := hHeld2
          clear hHeld2
          refine wpAnyH_ready (rs := [6]) (by kernel_rfl) (by simp) ?_
          refine AllReadyH.cons rfl (fun K hK => ?_) AllReadyH.nil
          go_simp
          go_wp2_with (go_at_call 30; refine (CS.out w5 _ b4 p4 _ _ T5 (bel1 _ _)).mono ?_; rintro e w6 ⟨ta, tb, tc, tq, rfl, T6, Jw6, Kw6⟩)
          have Hw6 : Hid (Below wA.heap.size wA w6) := Hw5.out.trans (Jw6.out.mono Hw5.out.size)
          have Qw6 : Hid (w6.rowIs w5.heap.size 28 1 (fun _ => .slice none 0 0)) := (row1 w5 (.slice none 0 0) 28).of_block (Kw6.out.block _ (by simp))
          refine hK.out _ _ ?_ (fun hHeld2 => ?_)
          · exact HZ.out _ Hw6.out
          clear hK K hHeld
          have hHeld := hHeld2
          clear hHeld2
          refine wpAnyH_take (i := 7) (oi := ⟨some 30, _, _, _, _, _⟩) (v := ?_) rfl (by kernel_rfl) (by kernel_rfl) (by kernel_rfl) (fun _ _ _ h => h) (Or.inl ⟨by kernel_rfl, ?_⟩) (by assumption) ?_
          rotate_left
          · (intro wS hSw; (try dsimp only at hSw); (go_simp <;> with_reducible rfl))
          (try simp only [Act.put]); (try simp only [List.setIfInBounds_toArray]); (try simp only [List.set_cons_succ]); (try simp only [List.set_cons_zero])
          refine wpAnyH_take (i := 8) (oi := ⟨some 38, _, _, _, _, _⟩) (v := ?_) rfl (by kernel_rfl) (by kernel_rfl) (by kernel_rfl) (fun _ _ _ h => h) (Or.inl ⟨by kernel_rfl, ?_⟩) (by assumption) ?_
          rotate_left
          · (intro wS hSw; (try dsimp only at hSw); (go_simp <;> with_reducible rfl))
          (try simp only [Act.put]); (try simp only [List.setIfInBounds_toArray]); (try simp only [List.set_cons_succ]); (try simp only [List.set_cons_zero])
          refine wpAnyH_take (i := 9) (oi := ⟨some 39, _, _, _, _, _⟩) (v := ?_) rfl (by kernel_rfl) (by kernel_rfl) (by kernel_rfl) (fun _ _ _ h => h) (Or.inl ⟨by kernel_rfl, ?_⟩) (by assumption) ?_
          rotate_left
          · (intro wS hSw; (try dsimp only at hSw); (go_simp <;> with_reducible rfl))
          (try simp only [Act.put]); (try simp only [List.setIfInBounds_toArray]); (try simp only [List.set_cons_succ]); (try simp only [List.set_cons_zero])
          have qc := Qw6.out.cell (i := 0) (by omega)
          have qf := Qw6.out.frozen 0
          refine wpAnyH_ready (rs := [11]) (by kernel_rfl) (by simp) ?_
          refine AllReadyH.cons rfl (fun K hK => ?_) AllReadyH.nil
          go_simp
          clear qc qf
          refine hK.out _ _ ?_ (fun hHeld2 => ?_)
          · exact HZ.out _ (Hw6.out.setCell (by first | exact Nat.le_refl _ | (show wA.heap.size ≤ w5.heap.size; exact Hw5.out.size)) _)
          clear hK K hHeld
          have hHeld := hHeld2
          clear hHeld2
          refine wpAnyH_take (i := 12) (oi := ⟨some 11, _, _, _, _, _⟩) (v := ?_) rfl (by kernel_rfl) (by kernel_rfl) (by kernel_rfl) (fun _ _ _ h => h) (Or.inl ⟨by kernel_rfl, ?_⟩) (by assumption) ?_
          rotate_left
          · (intro wS hSw; (try dsimp only at hSw); (go_simp <;> with_reducible rfl))
          (try simp only [Act.put]); (try simp only [List.setIfInBounds_toArray]); (try simp only [List.set_cons_succ]); (try simp only [List.set_cons_zero])
          refine wpAnyH_done (by kernel_rfl) ?_ _
          have FV : Hid (Below wA.heap.size wA (w6.setCell ⟨w5.heap.size, 0, none⟩ (.slice ta n' tc)) ∧ ∃ lo hi ta' tb tc' tq, TV (w6.setCell ⟨w5.heap.size, 0, none⟩ (.slice ta n' tc)) wA.heap.size (w6.setCell ⟨w5.heap.size, 0, none⟩ (.slice ta n' tc)).heap.size w5.heap.size lo hi ta' tb n' tc' tq E) := ⟨Hw6.out.setCell (by exact Hw5.out.size) _, _, _, ta, tb, tc, tq, tv_early Qw6.out T6.out (by exact Hw5.out.size) (by simp)⟩
          go_wp2
          go_meet
          case rel => exact ⟨w5.heap.size, rfl, rfl, FV.out.1, FV.out.2⟩
      · go_simp
        refine hK.out _ _ ?_ (fun hHeld2 => ?_)
        · exact HZ.out _ (Hw4.out.alloc Hw4.out.size _)
        clear hK K hHeld
        have hHeld := hHeld2
        clear hHeld2
        refine wpAnyH_ready (rs := [3]) (by kernel_rfl) (by simp) ?_
        refine AllReadyH.cons rfl (fun K hK => ?_) AllReadyH.nil
        go_simp
        go_wp2_with (go_at_call 17; refine (C17.out w4 _ (bel1 _ _)).mono ?_; rintro e w5 ⟨rfl, Jw5, Kw5⟩; have T5 : Hid (TabNew w5 _ _ (some ⟨b4, 0, none⟩) b4 n p4 D) := T4.out.below Jw5.out)
        have Hw5 : Hid (Below wA.heap.size wA w5) := Hw4.out.trans (Jw5.out.mono Hw4.out.size)
        have Qw5 : Hid (w5.rowIs w4.heap.size 28 1 (fun _ => .slice none 0 0)) := (row1 w4 (.slice none 0 0) 28).of_block (Kw5.out.block _ (by simp))
        refine hK.out _ _ ?_ (fun hHeld2 => ?_)
        · exact HZ.out _ Hw5.out
        clear hK K hHeld
        have hHeld := hHeld2
        clear hHeld2
        refine wpAnyH_ready (rs := [6]) (by kernel_rfl) (by simp) ?_
        refine AllReadyH.cons rfl (fun K hK => ?_) AllReadyH.nil
        go_simp
        go_wp2_with (go_at_call 30; refine (CS.out w5 _ b4 p4 _ _ T5 (Below.refl _ _)).mono ?_; rintro e w6 ⟨ta, tb, tc, tq, rfl, T6, Jw6, Kw6⟩)
        have Hw6 : Hid (Below wA.heap.size wA w6) := Hw5.out.trans (Jw6.out.mono Hw5.out.size)
        have Qw6 : Hid (w6.rowIs w4.heap.size 28 1 (fun _ => .slice none 0 0)) := Qw5.out.of_block (Kw6.out.block _ Qw5.out.lt)
        refine hK.out _ _ ?_ (fun hHeld2 => ?_)
        · exact HZ.out _ Hw6.out
        clear hK K hHeld
        have hHeld := hHeld2
        clear hHeld2
        refine wpAnyH_take (i := 7) (oi := ⟨some 30, _, _, _, _, _⟩) (v := ?_) rfl (by kernel_rfl) (by kernel_rfl) (by kernel_rfl) (fun _ _ _ h => h) (Or.inl ⟨by kernel_rfl, ?_⟩) (by assumption) ?_
        rotate_left
        · (intro wS hSw; (try dsimp only at hSw); (go_simp <;> with_reducible rfl))
        (try simp only [Act.put]); (try simp only [List.setIfInBounds_toArray]); (try simp only [List.set_cons_succ]); (try simp only [List.set_cons_zero])
        refine wpAnyH_take (i := 8) (oi := ⟨some 38, _, _, _, _, _⟩) (v := ?_) rfl (by kernel_rfl) (by kernel_rfl) (by kernel_rfl) (fun _ _ _ h => h) (Or.inl ⟨by kernel_rfl, ?_⟩) (by assumption) ?_
        rotate_left
        · (intro wS hSw; (try dsimp only at hSw); (go_simp <;> with_reducible rfl))
        (try simp only [Act.put]); (try simp only [List.setIfInBounds_toArray]); (try simp only [List.set_cons_succ]); (try simp only [List.set_cons_zero])
        refine wpAnyH_take (i := 9) (oi := ⟨some 39, _, _, _, _, _⟩) (v := ?_) rfl (by kernel_rfl) (by kernel_rfl) (by kernel_rfl) (fun _ _ _ h => h) (Or.inl ⟨by kernel_rfl, ?_⟩) (by assumption) ?_
        rotate_left
        · (intro wS hSw; (try dsimp only at hSw); (go_simp <;> with_reducible rfl))
        (try simp only [Act.put]); (try simp only [List.setIfInBounds_toArray]); (try simp only [List.set_cons_succ]); (try simp only [List.set_cons_zero])
        have qc := Qw6.out.cell (i := 0) (by omega)
        have qf := Qw6.out.frozen 0
        refine wpAnyH_ready (rs := [11]) (by kernel_rfl) (by simp) ?_
        refine AllReadyH.cons rfl (fun K hK => ?_) AllReadyH.nil
        go_simp
        clear qc qf
        refine hK.out _ _ ?_ (fun hHeld2 => ?_)
        · exact HZ.out _ (Hw6.out.setCell (by first | exact Nat.le_refl _ | (show wA.heap.size ≤ w4.heap.size; exact Hw4.out.size)) _)
        clear hK K hHeld
        have hHeld := hHeld2
        clear hHeld2
        refine wpAnyH_take (i := 12) (oi := ⟨some 11, _, _, _, _, _⟩) (v := ?_) rfl (by kernel_rfl) (by kernel_rfl) (by kernel_rfl) (fun _ _ _ h => h) (Or.inl ⟨by kernel_rfl, ?_⟩) (by assumption) ?_
        rotate_left
        · (intro wS hSw; (try dsimp only at hSw); (go_simp <;> with_reducible rfl))
        (try simp only [Act.put]); (try simp only [List.setIfInBounds_toArray]); (try simp only [List.set_cons_succ]); (try simp only [List.set_cons_zero])
        refine wpAnyH_done (by kernel_rfl) ?_ _
        have FV : Hid (Below wA.heap.size wA (w6.setCell ⟨w4.heap.size, 0, none⟩ (.slice ta n' tc)) ∧ ∃ lo hi ta' tb tc' tq, TV (w6.setCell ⟨w4.heap.size, 0, none⟩ (.slice ta n' tc)) wA.heap.size (w6.setCell ⟨w4.heap.size, 0, none⟩ (.slice ta n' tc)).heap.size w4.heap.size lo hi ta' tb n' tc' tq E) := ⟨Hw6.out.setCell (by exact Hw4.out.size) _, _, _, ta, tb, tc, tq, tv_early Qw6.out T6.out (by exact Hw4.out.size) (Qw5.out.lt)⟩
        go_wp2
        go_meet
        case rel => exact ⟨w4.heap.size, rfl, rfl, FV.out.1, FV.out.2⟩
    · go_simp
      refine hK.out _ _ ?_ (fun hHeld2 => ?_)
      · exact HZ.out _ ((bel1 _ _).drew)
      clear hK K hHeld
      have hHeld := hHeld2
      clear hHeld2
      refine wpAnyH_ready (rs := [1]) (by kernel_rfl) (by simp) ?_
      refine AllReadyH.cons rfl (fun K hK => ?_) AllReadyH.nil
      go_simp
      go_wp2_with (go_at_call 10; refine (CT.out _ (bel1 _ _).drew).mono ?_; rintro e w4 ⟨b4, p4, rfl, T4, Jw4, Kw4⟩)
      have Hw4 : Hid (Below wA.heap.size wA w4) := Jw4.out
      have Qw4 : Hid (w4.rowIs wA.heap.size 28 1 (fun _ => .slice none 0 0)) := (row1 wA (.slice none 0 0) 28).of_block (Kw4.out.block _ (by simp))
      refine hK.out _ _ ?_ (fun hHeld2 => ?_)
      · exact HZ.out _ Hw4.out
      clear hK K hHeld
      have hHeld := hHeld2
      clear hHeld2
      refine wpAnyH_ready (rs := [3]) (by kernel_rfl) (by simp) ?_
      refine AllReadyH.cons rfl (fun K hK => ?_) AllReadyH.nil
      go_simp
      go_wp2_with (go_at_call 17; refine (C17.out w4 _ (Below.refl _ _)).mono ?_; rintro e w5 ⟨rfl, Jw5, Kw5⟩; have T5 : Hid (TabNew w5 _ _ (some ⟨b4, 0, none⟩) b4 n p4 D) := T4.out.below Jw5.out)
      have Hw5 : Hid (Below wA.heap.size wA w5) := Hw4.out.trans (Jw5.out.mono Hw4.out.size)
      have Qw5 : Hid (w5.rowIs wA.heap.size 28 1 (fun _ => .slice none 0 0)) := Qw4.out.of_block (Kw5.out.block _ Qw4.out.lt)
      refine hK.out _ _ ?_ (fun hHeld2 => ?_)
      · exact HZ.out _ Hw5.out
      clear hK K hHeld
      have hHeld := hHeld2
      clear hHeld2
      refine wpAnyH_ready (rs := [6]) (by kernel_rfl) (by simp) ?_
      refine AllReadyH.cons rfl (fun K hK => ?_) AllReadyH.nil
      go_simp
      go_wp2_with (go_at_call 30; refine (CS.out w5 _ b4 p4 _ _ T5 (Below.refl _ _)).mono ?_; rintro e w6 ⟨ta, tb, tc, tq, rfl, T6, Jw6, Kw6⟩)
      have Hw6 : Hid (Below wA.heap.size wA w6) := Hw5.out.trans (Jw6.out.mono Hw5.out.size)
      have Qw6 : Hid (w6.rowIs wA.heap.size 28 1 (fun _ => .slice none 0 0)) := Qw5.out.of_block (Kw6.out.block _ Qw5.out.lt)
      refine hK.out _ _ ?_ (fun hHeld2 => ?_)
      · exact HZ.out _ Hw6.out
      clear hK K hHeld
      have hHeld := hHeld2
      clear hHeld2
      refine wpAnyH_take (i := 7) (oi := ⟨some 30, _, _, _, _, _⟩) (v := ?_) rfl (by kernel_rfl) (by kernel_rfl) (by kernel_rfl) (fun _ _ _ h => h) (Or.inl ⟨by kernel_rfl, ?_⟩) (by assumption) ?_
      rotate_left
      · (intro wS hSw; (try dsimp only at hSw); (go_simp <;> with_reducible rfl))
      (try simp only [Act.put]); (try simp only [List.setIfInBounds_toArray]); (try simp only [List.set_cons_succ]); (try simp only [List.set_cons_zero])
      refine wpAnyH_take (i := 8) (oi := ⟨some 38, _, _, _, _, _⟩) (v := ?_) rfl (by kernel_rfl) (by kernel_rfl) (by kernel_rfl) (fun _ _ _ h => h) (Or.inl ⟨by kernel_rfl, ?_⟩) (by assumption) ?_
      rotate_left
      · (intro wS hSw; (try dsimp only at hSw); (go_simp <;> with_reducible rfl))
      (try simp only [Act.put]); (try simp only [List.setIfInBounds_toArray]); (try simp only [List.set_cons_succ]); (try simp only [List.set_cons_zero])
      refine wpAnyH_take (i := 9) (oi := ⟨some 39, _, _, _, _, _⟩) (v := ?_) rfl (by kernel_rfl) (by kernel_rfl) (by kernel_rfl) (fun _ _ _ h => h) (Or.inl ⟨by kernel_rfl, ?_⟩) (by assumption) ?_
      rotate_left
      · (intro wS hSw; (try dsimp only at hSw); (go_simp <;> with_reducible rfl))
      (try simp only [Act.put]); (try simp only [List.setIfInBounds_toArray]); (try simp only [List.set_cons_succ]); (try simp only [List.set_cons_zero])
      have qc := Qw6.out.cell (i := 0) (by omega)
      have qf := Qw6.out.frozen 0
      refine wpAnyH_ready (rs := [11]) (by kernel_rfl) (by simp) ?_
      refine AllReadyH.cons rfl (fun K hK => ?_) AllReadyH.nil
      go_simp
      clear qc qf
      refine hK.out _ _ ?_ (fun hHeld2 => ?_)
      · exact HZ.out _ (Hw6.out.setCell (Nat.le_refl _) _)
      clear hK K hHeld
      have hHeld := hHeld2
      clear hHeld2
      refine wpAnyH_take (i := 12) (oi := ⟨some 11, _, _, _, _, _⟩) (v := ?_) rfl (by kernel_rfl) (by kernel_rfl) (by kernel_rfl) (fun _ _ _ h => h) (Or.inl ⟨by kernel_rfl, ?_⟩) (by assumption) ?_
      rotate_left
      · (intro wS hSw; (try dsimp only at hSw); (go_simp <;> with_reducible rfl))
      (try simp only [Act.put]); (try simp only [List.setIfInBounds_toArray]); (try simp only [List.set_cons_succ]); (try simp only [List.set_cons_zero])
      refine wpAnyH_done (by kernel_rfl) ?_ _
      have FV : Hid (Below wA.heap.size wA (w6.setCell ⟨wA.heap.size, 0, none⟩ (.slice ta n' tc)) ∧ ∃ lo hi ta' tb tc' tq, TV (w6.setCell ⟨wA.heap.size, 0, none⟩ (.slice ta n' tc)) wA.heap.size (w6.setCell ⟨wA.heap.size, 0, none⟩ (.slice ta n' tc)).heap.size wA.heap.size lo hi ta' tb n' tc' tq E) := ⟨Hw6.out.setCell (by exact Nat.le_refl _) _, _, _, ta, tb, tc, tq, tv_early Qw6.out T6.out (by exact Nat.le_refl _) (Qw5.out.lt)⟩
      go_wp2
      go_meet
      case rel => exact ⟨wA.heap.size, rfl, rfl, FV.out.1, FV.out.2⟩
  case rest =>
    obtain ⟨x1, rfl, rfl, HC1, HV1⟩ := hcut
    have XC : Hid (LB w wc ao n c k m) := XA.out.below HC1.out
    obtain ⟨lo1, hi1, ta1, tb1, tc1, tq1, V1'⟩ := HV1.out
    have V1 : Hid (TV wc wA.heap.size wc.heap.size x1 lo1 hi1 ta1 tb1 n' tc1 tq1 E) := V1'
    obtain ⟨top1, htop1⟩ : ∃ top1, top1 = wc.heap.size := ⟨_, rfl⟩
    have htA : w.heap.size + 1 < wA.heap.size := XA.out.k.lt
    have htC := HC1.out.size
    rw [← htop1] at V1
    clear V1' HV1 HC1 HZ CT
    obtain ⟨t1, u1, v1⟩ := XC.out.cells
    go_wp2_with fail
    refine (C10.out wc _ (Below.refl _ _) XC.out.b).mono ?_
    rintro e w7 ⟨b7, p7, rfl, T7, J7, -⟩
    obtain ⟨wB, hwB⟩ : ∃ wB, wB = w7.alloc (.cells #[.slice (some ⟨b7, 0, none⟩) n n] 28) := ⟨_, rfl⟩
    obtain ⟨x2, hx2⟩ : ∃ x2, x2 = w7.heap.size := ⟨_, rfl⟩
    have JB : Hid (Below wc.heap.size wc wB) := by rw [hwB]; exact J7.out.alloc J7.out.size _
    have V2 : Hid (∃ lo2 hi2, TV wB wc.heap.size wB.heap.size x2 lo2 hi2 (some ⟨b7, 0, none⟩) b7 n n p7 D) := by
      rw [hwB, hx2]; exact ⟨_, _, tv_late (w0 := wc) T7.out (Nat.le_refl _) J7.out.size⟩
    have XB : Hid (LB w wB ao n c k m) := XC.out.below JB.out
    obtain ⟨lo2, hi2, V2'⟩ := V2.out
    have V2 : Hid (TV wB wc.heap.size wB.heap.size x2 lo2 hi2 (some ⟨b7, 0, none⟩) b7 n n p7 D) := V2'
    have TX : Hid (TabNew wB lo2 hi2 (some ⟨b7, 0, none⟩) b7 n p7 D) := V2'.tab
    have V1B : Hid (TV wB wA.heap.size top1 x1 lo1 hi1 ta1 tb1 n' tc1 tq1 E) := V1.out.below JB.out
    have htB := JB.out.size
    clear t1 u1 v1 V2' T7 J7 V1
    go_wp2_with fail
    rw [← hwB, ← hx2]
    clear hwB hx2
    have HZ : Hid (∀ W, Below wB.heap.size wB W → W.cell? ⟨x2, 0, none⟩ = some (.slice (some ⟨b7, 0, none⟩) n n) ∧ W.cell? ⟨w.heap.size, 0, none⟩ = some (.slice ao n c) ∧ W.cell? ⟨w.heap.size + 1, 0, none⟩ = some (.int .i64 k) ∧ W.cell? ⟨w.heap.size + 1, 1, none⟩ = some (.string m)) := fun W hW => ⟨(V2.out.below hW).row.cell (i := 0) (by omega), (XB.out.below hW).cells⟩
    obtain ⟨wD, hwD⟩ : ∃ wD, wD = wc := ⟨_, rfl⟩
    rw [← hwD] at V2 JB XC htC htB
    have htop1' : top1 = wD.heap.size := by rw [htop1, hwD]
    clear htop1 hwD
    go_cut [13, 14] (fun s10 s11 wc => ∃ xb : Nat, s10 = .pointer (some ⟨xb, 0, none⟩) ∧ s11 = .int .i64 cd ∧ Hid (Below wB.heap.size wB wc) ∧ Hid (∃ lo hi ta tb tc tq, TV wc wB.heap.size wc.heap.size xb lo hi ta tb n' tc tq E))
    case first =>
      refine wp_region_held_drew (S := (fun w' => w'.cell? ⟨x2, 0, none⟩ = some (.slice (some ⟨b7, 0, none⟩) n n) ∧ w'.cell? ⟨w.heap.size, 0, none⟩ = some (.slice ao n c) ∧ w'.cell? ⟨w.heap.size + 1, 0, none⟩ = some (.int .i64 k) ∧ w'.cell? ⟨w.heap.size + 1, 1, none⟩ = some (.string m))) (by kernel_rfl) ?_ (fun hHeld => ?_)
      · exact HZ.out _ (Below.refl _ _).drew
      refine wpAnyH_take (i := 0) (oi := ⟨some 43, _, _, _, _, _⟩) (v := ?_) rfl (by kernel_rfl) (by kernel_rfl) (by kernel_rfl) (fun _ _ _ h => h) (Or.inl ⟨by kernel_rfl, ?_⟩) (by assumption) ?_
      rotate_left
      · (intro wS hSw; (try dsimp only at hSw); (go_simp <;> with_reducible rfl))
      (try simp only [Act.put]); (try simp only [List.setIfInBounds_toArray]); (try simp only [List.set_cons_succ]); (try simp only [List.set_cons_zero])
      refine wpAnyH_take (i := 1) (oi := ⟨some 44, _, _, _, _, _⟩) (v := ?_) rfl (by kernel_rfl) (by kernel_rfl) (by kernel_rfl) (fun _ _ _ h => h) (Or.inl ⟨by kernel_rfl, ?_⟩) (by assumption) ?_
      rotate_left
      · (intro wS hSw; (try dsimp only at hSw); (go_simp <;> with_reducible rfl))
      (try simp only [Act.put]); (try simp only [List.setIfInBounds_toArray]); (try simp only [List.set_cons_succ]); (try simp only [List.set_cons_zero])
      refine wpAnyH_take (i := 3) (oi := ⟨some 46, _, _, _, _, _⟩) (v := ?_) rfl (by kernel_rfl) (by kernel_rfl) (by kernel_rfl) (fun _ _ _ h => h) (Or.inl ⟨by kernel_rfl, ?_⟩) (by assumption) ?_
      rotate_left
      · (intro wS hSw; (try dsimp only at hSw); (go_simp <;> with_reducible rfl))
      (try simp only [Act.put]); (try simp only [List.setIfInBounds_toArray]); (try simp only [List.set_cons_succ]); (try simp only [List.set_cons_zero])
      refine wpAnyH_take (i := 4) (oi := ⟨some 47, _, _, _, _, _⟩) (v := ?_) rfl (by kernel_rfl) (by kernel_rfl) (by kernel_rfl) (fun _ _ _ h => h) (Or.inl ⟨by kernel_rfl, ?_⟩) (by assumption) ?_
      rotate_left
      · (intro wS hSw; (try dsimp only at hSw); (go_simp <;> with_reducible rfl))
      (try simp only [Act.put]); (try simp only [List.setIfInBounds_toArray]); (try simp only [List.set_cons_succ]); (try simp only [List.set_cons_zero])
      refine wpAnyH_ready (rs := [2, 9]) (by kernel_rfl) (by simp) ?_
      refine AllReadyH.cons rfl (fun K hK => ?_) (AllReadyH.cons rfl (fun K hK => ?_) AllReadyH.nil)
      · go_simp
        go_wp2_with (go_at_call 17; refine (C17.out wB _ (Below.refl _ _).drew).mono ?_; rintro e w8 ⟨rfl, Jw8, Kw8⟩; have T5 : Hid (TabNew w8 _ _ (some ⟨b7, 0, none⟩) b7 n p7 D) := TX.out.below Jw8.out)
        have Hw8 : Hid (Below wB.heap.size wB w8) := Jw8.out
        refine hK.out _ _ ?_ (fun hHeld2 => ?_)
        · exact HZ.out _ Hw8.out
        clear hK K hHeld
        have hHeld := hHeld2
        clear hHeld2
        refine wpAnyH_ready (rs := [5, 9]) (by kernel_rfl) (by simp) ?_
        refine AllReadyH.cons rfl (fun K hK => ?_) (AllReadyH.cons rfl (fun K hK => ?_) AllReadyH.nil)
        · go_simp
          go_wp2_with (go_at_call 31; refine (CI.out w8 _ b7 p7 _ _ T5 (Below.refl _ _)).mono ?_; rintro e w9 ⟨ta, tb, tc, tq, rfl, T6, Jw9, Kw9⟩)
          have Hw9 : Hid (Below wB.heap.size wB w9) := Hw8.out.trans (Jw9.out.mono Hw8.out.size)
          refine hK.out _ _ ?_ (fun hHeld2 => ?_)
          · exact HZ.out _ Hw9.out
          clear hK K hHeld
          have hHeld := hHeld2
          clear hHeld2
          refine wpAnyH_take (i := 6) (oi := ⟨some 42, _, _, _, _, _⟩) (v := ?_) rfl (by kernel_rfl) (by kernel_rfl) (by kernel_rfl) (fun _ _ _ h => h) (Or.inl ⟨by kernel_rfl, ?_⟩) (by assumption) ?_
          rotate_left
          · (intro wS hSw; (try dsimp only at hSw); (go_simp <;> with_reducible rfl))
          (try simp only [Act.put]); (try simp only [List.setIfInBounds_toArray]); (try simp only [List.set_cons_succ]); (try simp only [List.set_cons_zero])
          refine wpAnyH_take (i := 7) (oi := ⟨some 49, _, _, _, _, _⟩) (v := ?_) rfl (by kernel_rfl) (by kernel_rfl) (by kernel_rfl) (fun _ _ _ h => h) (Or.inl ⟨by kernel_rfl, ?_⟩) (by assumption) ?_
          rotate_left
          · (intro wS hSw; (try dsimp only at hSw); (go_simp <;> with_reducible rfl))
          (try simp only [Act.put]); (try simp only [List.setIfInBounds_toArray]); (try simp only [List.set_cons_succ]); (try simp only [List.set_cons_zero])
          refine wpAnyH_take (i := 8) (oi := ⟨some 50, _, _, _, _, _⟩) (v := ?_) rfl (by kernel_rfl) (by kernel_rfl) (by kernel_rfl) (fun _ _ _ h => h) (Or.inl ⟨by kernel_rfl, ?_⟩) (by assumption) ?_
          rotate_left
          · (intro wS hSw; (try dsimp only at hSw); (go_simp <;> with_reducible rfl))
          (try simp only [Act.put]); (try simp only [List.setIfInBounds_toArray]); (try simp only [List.set_cons_succ]); (try simp only [List.set_cons_zero])
          refine wpAnyH_ready (rs := [9]) (by kernel_rfl) (by simp) ?_
          refine AllReadyH.cons rfl (fun K hK => ?_) AllReadyH.nil
          go_simp
          refine hK.out _ _ ?_ (fun hHeld2 => ?_)
          · exact HZ.out _ (Hw9.out.alloc Hw9.out.size _)
          clear hK K hHeld
          have hHeld := hHeld2
          clear hHeld2
          refine wpAnyH_ready (rs := [10]) (by kernel_rfl) (by simp) ?_
          refine AllReadyH.cons rfl (fun K hK => ?_) AllReadyH.nil
          go_simp
          refine hK.out _ _ ?_ (fun hHeld2 => ?_)
          · exact HZ.out _ (Hw9.out.alloc Hw9.out.size _)
          clear hK K hHeld
          have hHeld := hHeld2
          clear hHeld2
          refine wpAnyH_take (i := 11) (oi := ⟨some 14, _, _, _, _, _⟩) (v := ?_) rfl (by kernel_rfl) (by kernel_rfl) (by kernel_rfl) (fun _ _ _ h => h) (Or.inl ⟨by kernel_rfl, ?_⟩) (by assumption) ?_
          rotate_left
          · (intro wS hSw; (try dsimp only at hSw); (go_simp <;> with_reducible rfl))
          (try simp only [Act.put]); (try simp only [List.setIfInBounds_toArray]); (try simp only [List.set_cons_succ]); (try simp only [List.set_cons_zero])
          refine wpAnyH_done (by kernel_rfl) ?_ _
          have FV : Hid (Below wB.heap.size wB (w9.alloc (.cells #[.slice ta n' tc] 28)) ∧ ∃ lo hi ta' tb tc' tq, TV (w9.alloc (.cells #[.slice ta n' tc] 28)) wB.heap.size (w9.alloc (.cells #[.slice ta n' tc] 28)).heap.size w9.heap.size lo hi ta' tb n' tc' tq E) := ⟨Hw9.out.alloc Hw9.out.size _, _, _, ta, tb, tc, tq, tv_late T6.out (by exact Hw8.out.size) Hw9.out.size⟩
          go_wp2
          go_meet
          case rel => exact ⟨w9.heap.size, rfl, rfl, FV.out.1, FV.out.2⟩
        · go_simp
          refine hK.out _ _ ?_ (fun hHeld2 => ?_)
          · exact HZ.out _ (Hw8.out.alloc Hw8.out.size _)
          clear hK K hHeld
          have hHeld := hHeld2
          clear hHeld2
          refine wpAnyH_ready (rs := [5]) (by kernel_rfl) (by simp) ?_
          refine AllReadyH.cons rfl (fun K hK => ?_) AllReadyH.nil
          go_simp
          go_wp2_with (go_at_call 31; refine (CI.out w8 _ b7 p7 _ _ T5 (bel1 _ _)).mono ?_; rintro e w9 ⟨ta, tb, tc, tq, rfl, T6, Jw9, Kw9⟩)
          have Hw9 : Hid (Below wB.heap.size wB w9) := Hw8.out.trans (Jw9.out.mono Hw8.out.size)
          have Qw9 : Hid (w9.rowIs w8.heap.size 28 1 (fun _ => .slice none 0 0)) := (row1 w8 (.slice none 0 0) 28).of_block (Kw9.out.block _ (by simp))
          refine hK.out _ _ ?_ (fun hHeld2 => ?_)
          · exact HZ.out _ Hw9.out
          clear hK K hHeld
          have hHeld := hHeld2
          clear hHeld2
          refine wpAnyH_take (i := 6) (oi := ⟨some 42, _, _, _, _, _⟩) (v := ?_) rfl (by kernel_rfl) (by kernel_rfl) (by kernel_rfl) (fun _ _ _ h => h) (Or.inl ⟨by kernel_rfl, ?_⟩) (by assumption) ?_
          rotate_left
          · (intro wS hSw; (try dsimp only at hSw); (go_simp <;> with_reducible rfl))
          (try simp only [Act.put]); (try simp only [List.setIfInBounds_toArray]); (try simp only [List.set_cons_succ]); (try simp only [List.set_cons_zero])
          refine wpAnyH_take (i := 7) (oi := ⟨some 49, _, _, _, _, _⟩) (v := ?_) rfl (by kernel_rfl) (by kernel_rfl) (by kernel_rfl) (fun _ _ _ h => h) (Or.inl ⟨by kernel_rfl, ?_⟩) (by assumption) ?_
          rotate_left
          · (intro wS hSw; (try dsimp only at hSw); (go_simp <;> with_reducible rfl))
          (try simp only [Act.put]); (try simp only [List.setIfInBounds_toArray]); (try simp only [List.set_cons_succ]); (try simp only [List.set_cons_zero])
          refine wpAnyH_take (i := 8) (oi := ⟨some 50, _, _, _, _, _⟩) (v := ?_) rfl (by kernel_rfl) (by kernel_rfl) (by kernel_rfl) (fun _ _ _ h => h) (Or.inl ⟨by kernel_rfl, ?_⟩) (by assumption) ?_
          rotate_left
          · (intro wS hSw; (try dsimp only at hSw); (go_simp <;> with_reducible rfl))
          (try simp only [Act.put]); (try simp only [List.setIfInBounds_toArray]); (try simp only [List.set_cons_succ]); (try simp only [List.set_cons_zero])
          have qc := Qw9.out.cell (i := 0) (by omega)
          have qf := Qw9.out.frozen 0
          refine wpAnyH_ready (rs := [10]) (by kernel_rfl) (by simp) ?_
          refine AllReadyH.cons rfl (fun K hK => ?_) AllReadyH.nil
          go_simp
          clear qc qf
          refine hK.out _ _ ?_ (fun hHeld2 => ?_)
          · exact HZ.out _ (Hw9.out.setCell (by first | exact Nat.le_refl _ | (show wB.heap.size ≤ w8.heap.size; exact Hw8.out.size)) _)
          clear hK K hHeld
          have hHeld := hHeld2
          clear hHeld2
          refine wpAnyH_take (i := 11) (oi := ⟨some 14, _, _, _, _, _⟩) (v := ?_) rfl (by kernel_rfl) (by kernel_rfl) (by kernel_rfl) (fun _ _ _ h => h) (Or.inl ⟨by kernel_rfl, ?_⟩) (by assumption) ?_
          rotate_left
          · (intro wS hSw; (try dsimp only at hSw); (go_simp <;> with_reducible rfl))
          (try simp only [Act.put]); (try simp only [List.setIfInBounds_toArray]); (try simp only [List.set_cons_succ]); (try simp only [List.set_cons_zero])
          refine wpAnyH_done (by kernel_rfl) ?_ _
          have FV : Hid (Below wB.heap.size wB (w9.setCell ⟨w8.heap.size, 0, none⟩ (.slice ta n' tc)) ∧ ∃ lo hi ta' tb tc' tq, TV (w9.setCell ⟨w8.heap.size, 0, none⟩ (.slice ta n' tc)) wB.heap.size (w9.setCell ⟨w8.heap.size, 0, none⟩ (.slice ta n' tc)).heap.size w8.heap.size lo hi ta' tb n' tc' tq E) := ⟨Hw9.out.setCell (by exact Hw8.out.size) _, _, _, ta, tb, tc, tq, tv_early Qw9.out T6.out (by exact Hw8.out.size) (by simp)⟩
          go_wp2
          go_meet
          case rel => exact ⟨w8.heap.size, rfl, rfl, FV.out.1, FV.out.2⟩
      · go_simp
        refine hK.out _ _ ?_ (fun hHeld2 => ?_)
        · exact HZ.out _ ((bel1 _ _).drew)
        clear hK K hHeld
        have hHeld := hHeld2
        clear hHeld2
        refine wpAnyH_ready (rs := [2]) (by kernel_rfl) (by simp) ?_
        refine AllReadyH.cons rfl (fun K hK => ?_) AllReadyH.nil
        go_simp
        go_wp2_with (go_at_call 17; refine (C17.out wB _ (bel1 _ _).drew).mono ?_; rintro e w8 ⟨rfl, Jw8, Kw8⟩; have T5 : Hid (TabNew w8 _ _ (some ⟨b7, 0, none⟩) b7 n p7 D) := TX.out.below Jw8.out)
        have Hw8 : Hid (Below wB.heap.size wB w8) := Jw8.out
        have Qw8 : Hid (w8.rowIs wB.heap.size 28 1 (fun _ => .slice none 0 0)) := (row1 wB (.slice none 0 0) 28).of_block (Kw8.out.block _ (by simp))
        refine hK.out _ _ ?_ (fun hHeld2 => ?_)
        · exact HZ.out _ Hw8.out
        clear hK K hHeld
        have hHeld := hHeld2
        clear hHeld2
        refine wpAnyH_ready (rs := [5]) (by kernel_rfl) (by simp) ?_
        refine AllReadyH.cons rfl (fun K hK => ?_) AllReadyH.nil
        go_simp
        go_wp2_with (go_at_call 31; refine (CI.out w8 _ b7 p7 _ _ T5 (Below.refl _ _)).mono ?_; rintro e w9 ⟨ta, tb, tc, tq, rfl, T6, Jw9, Kw9⟩)
        have Hw9 : Hid (Below wB.heap.size wB w9) := Hw8.out.trans (Jw9.out.mono Hw8.out.size)
        have Qw9 : Hid (w9.rowIs wB.heap.size 28 1 (fun _ => .slice none 0 0)) := Qw8.out.of_block (Kw9.out.block _ Qw8.out.lt)
        refine hK.out _ _ ?_ (fun hHeld2 => ?_)
        · exact HZ.out _ Hw9.out
        clear hK K hHeld
        have hHeld := hHeld2
        clear hHeld2
        refine wpAnyH_take (i := 6) (oi := ⟨some 42, _, _, _, _, _⟩) (v := ?_) rfl (by kernel_rfl) (by kernel_rfl) (by kernel_rfl) (fun _ _ _ h => h) (Or.inl ⟨by kernel_rfl, ?_⟩) (by assumption) ?_
        rotate_left
        · (intro wS hSw; (try dsimp only at hSw); (go_simp <;> with_reducible rfl))
        (try simp only [Act.put]); (try simp only [List.setIfInBounds_toArray]); (try simp only [List.set_cons_succ]); (try simp only [List.set_cons_zero])
        refine wpAnyH_take (i := 7) (oi := ⟨some 49, _, _, _, _, _⟩) (v := ?_) rfl (by kernel_rfl) (by kernel_rfl) (by kernel_rfl) (fun _ _ _ h => h) (Or.inl ⟨by kernel_rfl, ?_⟩) (by assumption) ?_
        rotate_left
        · (intro wS hSw; (try dsimp only at hSw); (go_simp <;> with_reducible rfl))
        (try simp only [Act.put]); (try simp only [List.setIfInBounds_toArray]); (try simp only [List.set_cons_succ]); (try simp only [List.set_cons_zero])
        refine wpAnyH_take (i := 8) (oi := ⟨some 50, _, _, _, _, _⟩) (v := ?_) rfl (by kernel_rfl) (by kernel_rfl) (by kernel_rfl) (fun _ _ _ h => h) (Or.inl ⟨by kernel_rfl, ?_⟩) (by assumption) ?_
        rotate_left
        · (intro wS hSw; (try dsimp only at hSw); (go_simp <;> with_reducible rfl))
        (try simp only [Act.put]); (try simp only [List.setIfInBounds_toArray]); (try simp only [List.set_cons_succ]); (try simp only [List.set_cons_zero])
        have qc := Qw9.out.cell (i := 0) (by omega)
        have qf := Qw9.out.frozen 0
        refine wpAnyH_ready (rs := [10]) (by kernel_rfl) (by simp) ?_
        refine AllReadyH.cons rfl (fun K hK => ?_) AllReadyH.nil
        go_simp
        clear qc qf
        refine hK.out _ _ ?_ (fun hHeld2 => ?_)
        · exact HZ.out _ (Hw9.out.setCell (Nat.le_refl _) _)
        clear hK K hHeld
        have hHeld := hHeld2
        clear hHeld2
        refine wpAnyH_take (i := 11) (oi := ⟨some 14, _, _, _, _, _⟩) (v := ?_) rfl (by kernel_rfl) (by kernel_rfl) (by kernel_rfl) (fun _ _ _ h => h) (Or.inl ⟨by kernel_rfl, ?_⟩) (by assumption) ?_
        rotate_left
        · (intro wS hSw; (try dsimp only at hSw); (go_simp <;> with_reducible rfl))
        (try simp only [Act.put]); (try simp only [List.setIfInBounds_toArray]); (try simp only [List.set_cons_succ]); (try simp only [List.set_cons_zero])
        refine wpAnyH_done (by kernel_rfl) ?_ _
        have FV : Hid (Below wB.heap.size wB (w9.setCell ⟨wB.heap.size, 0, none⟩ (.slice ta n' tc)) ∧ ∃ lo hi ta' tb tc' tq, TV (w9.setCell ⟨wB.heap.size, 0, none⟩ (.slice ta n' tc)) wB.heap.size (w9.setCell ⟨wB.heap.size, 0, none⟩ (.slice ta n' tc)).heap.size wB.heap.size lo hi ta' tb n' tc' tq E) := ⟨Hw9.out.setCell (by exact Nat.le_refl _) _, _, _, ta, tb, tc, tq, tv_early Qw9.out T6.out (by exact Nat.le_refl _) (Qw8.out.lt)⟩
        go_wp2
        go_meet
        case rel => exact ⟨wB.heap.size, rfl, rfl, FV.out.1, FV.out.2⟩
    case rest =>
      obtain ⟨x3, rfl, rfl, HC3, HV3⟩ := hcut
      have XE : Hid (LB w wc ao n c k m) := XB.out.below HC3.out
      obtain ⟨lo3, hi3, ta3, tb3, tc3, tq3, V3'⟩ := HV3.out
      have V3 : Hid (TV wc wB.heap.size wc.heap.size x3 lo3 hi3 ta3 tb3 n' tc3 tq3 E) := V3'
      have V2E : Hid (TV wc wD.heap.size wB.heap.size x2 lo2 hi2 (some ⟨b7, 0, none⟩) b7 n n p7 D) := V2.out.below HC3.out
      have V1E : Hid (TV wc wA.heap.size top1 x1 lo1 hi1 ta1 tb1 n' tc1 tq1 E) := V1B.out.below HC3.out
      obtain ⟨top3, htop3⟩ : ∃ top3, top3 = wc.heap.size := ⟨_, rfl⟩
      have htE := HC3.out.size
      rw [← htop3] at V3
      clear V3' HV3 HC3 HZ TX V2 V1B XB JB
      have z3 := V3.out.row.cell (i := 0) (by omega)
      have z1 := V1E.out.row.cell (i := 0) (by omega)
      have HFF : Hid (∀ i, i < n' → Fit (E i)) := fun i hi => (HFE.out i hi).1
      go_wp2_with fail
      refine (t_eqTable ta3 ta1 tb3 tc3 tb1 tc1 n' lo3 hi3 lo1 hi1 tq3 tq1 E _ V3.out.tab V1E.out.tab HFF.out (by omega)).mono ?_
      rintro e wF ⟨rfl, hbF⟩
      have XF : Hid (LB w wF ao n c k m) := XE.out.below hbF
      have V1F : Hid (TV wF wA.heap.size top1 x1 lo1 hi1 ta1 tb1 n' tc1 tq1 E) := V1E.out.below hbF
      have V2F : Hid (TV wF wD.heap.size wB.heap.size x2 lo2 hi2 (some ⟨b7, 0, none⟩) b7 n n p7 D) := V2E.out.below hbF
      have V3F : Hid (TV wF wB.heap.size top3 x3 lo3 hi3 ta3 tb3 n' tc3 tq3 E) := V3.out.below hbF
      clear hbF z1 z3 XE V1E V2E V3
      obtain ⟨t1, u1, v1⟩ := XF.out.cells
      have z2 := V2F.out.row.cell (i := 0) (by omega)
      go_wp2_with fail
      have CTF : Hid (∀ W, Below wF.heap.size wF W → Calls Try.prog 10 #[.agg #[.slice ao n c]] W fun e w' => ∃ b' p', e = .returned (.agg #[.slice (some ⟨b', 0, none⟩) n n]) ∧ Hid (TabNew w' W.heap.size w'.heap.size (some ⟨b', 0, none⟩) b' n p' D) ∧ Hid (Below wF.heap.size wF w')) := fun W hW => (C10.out wF W hW XF.out.b).mono fun e w' ⟨b', p', he, hT, hb, _⟩ => ⟨b', p', he, hT, hb⟩
      have CEF : Hid (∀ W b' p' lo hi, Hid (TabNew W lo hi (some ⟨b', 0, none⟩) b' n p' D) → Hid (Below wF.heap.size wF W) → Calls Try.prog 12 #[.agg #[.slice (some ⟨b7, 0, none⟩) n n], .agg #[.slice (some ⟨b', 0, none⟩) n n]] W fun e w' => e = .returned (.bool true) ∧ Hid (Below wF.heap.size wF w')) := fun W b' p' lo hi hT hW => (t_eqTable (some ⟨b7, 0, none⟩) (some ⟨b', 0, none⟩) b7 n b' n n lo2 hi2 lo hi p7 p' D W (V2F.out.below hW.out).tab hT.out HF0.out (by omega)).mono fun e w' ⟨he, hb⟩ => ⟨he, hW.out.trans (hb.mono hW.out.size)⟩
      have HZ : Hid (∀ W, Below wF.heap.size wF W → W.cell? ⟨x2, 0, none⟩ = some (.slice (some ⟨b7, 0, none⟩) n n) ∧ W.cell? ⟨w.heap.size, 0, none⟩ = some (.slice ao n c)) := fun W hW => ⟨(V2F.out.below hW).row.cell (i := 0) (by omega), (XF.out.below hW).cells.1⟩
      go_region_held3 (fun w' => w'.cell? ⟨x2, 0, none⟩ = some (.slice (some ⟨b7, 0, none⟩) n n) ∧ w'.cell? ⟨w.heap.size, 0, none⟩ = some (.slice ao n c)) (go_keep)
        (first
          | (go_at_call 10; (with_reducible refine (CTF.out _ (Below.refl _ _).drew).mono ?_); rintro e wG ⟨bG, pG, rfl, TG, HG1⟩; obtain ⟨y0, y1⟩ := HZ.out wG HG1.out)
          | (go_at_call 12; (with_reducible refine (CEF.out _ bG pG _ _ TG HG1).mono ?_); rintro e wH ⟨rfl, HH1⟩; obtain ⟨y2, y3⟩ := HZ.out wH HH1.out))
      have XH : Hid (LB w wH ao n c k m) := XF.out.below HH1.out
      have V1H : Hid (TV wH wA.heap.size top1 x1 lo1 hi1 ta1 tb1 n' tc1 tq1 E) := V1F.out.below HH1.out
      have V2H : Hid (TV wH wD.heap.size wB.heap.size x2 lo2 hi2 (some ⟨b7, 0, none⟩) b7 n n p7 D) := V2F.out.below HH1.out
      have V3H : Hid (TV wH wB.heap.size top3 x3 lo3 hi3 ta3 tb3 n' tc3 tq3 E) := V3F.out.below HH1.out
      clear y0 y1 y2 y3 t1 u1 v1 z2 HZ CTF CEF TG HG1 HH1 XF V1F V2F V3F
      have z2 := V2H.out.row.cell (i := 0) (by omega)
      go_wp2_with fail
      refine (t_markTable lo2 hi2 _ b7 n n p7 D 1 _ V2H.out.tab (by omega) (by omega) hn HG.out).mono ?_
      rintro e wI ⟨rfl, -, SI⟩
      have hl2 := V2H.out.l1
      have hh2 := V2H.out.h1
      have hl3 := V3H.out.l1
      have hh3 := V3H.out.h1
      have XI : Hid (LB w wI ao n c k m) := XH.out.span SI (by omega)
      have V1I : Hid (TV wI wA.heap.size top1 x1 lo1 hi1 ta1 tb1 n' tc1 tq1 E) := V1H.out.span SI (Or.inl (by omega))
      have V3I : Hid (TV wI wB.heap.size top3 x3 lo3 hi3 ta3 tb3 n' tc3 tq3 E) := V3H.out.span SI (Or.inr (by omega))
      clear SI XH V1H V2H V3H z2
      have z3 := V3I.out.row.cell (i := 0) (by omega)
      have z1 := V1I.out.row.cell (i := 0) (by omega)
      obtain ⟨q1, hq1⟩ : ∃ q : Nat, q = cnt 1 D n := ⟨_, rfl⟩
      rw [← hq1]
      have hq1n : ¬ (q1 : Int) < 0 := by omega
      clear hq1
      go_wp2_with fail
      refine (t_eqTable ta3 ta1 tb3 tc3 tb1 tc1 n' lo3 hi3 lo1 hi1 tq3 tq1 E _ V3I.out.tab V1I.out.tab HFF.out (by omega)).mono ?_
      rintro e wJ ⟨rfl, hbJ⟩
      have XJ : Hid (LB w wJ ao n c k m) := XI.out.below hbJ
      have V1J : Hid (TV wJ wA.heap.size top1 x1 lo1 hi1 ta1 tb1 n' tc1 tq1 E) := V1I.out.below hbJ
      have V3J : Hid (TV wJ wB.heap.size top3 x3 lo3 hi3 ta3 tb3 n' tc3 tq3 E) := V3I.out.below hbJ
      clear hbJ XI V1I V3I z1 z3
      have z3 := V3J.out.row.cell (i := 0) (by omega)
      have HGE : Hid (∀ i, i < n' → (E i).n ≤ 1048576) := fun i hi => (HFE.out i hi).2.2.2.1
      go_wp2_with fail
      refine (t_markTable lo3 hi3 ta3 tb3 n' tc3 tq3 E 1 _ V3J.out.tab (by omega) (by omega) hn2 HGE.out).mono ?_
      rintro e wK ⟨rfl, TK, SK⟩
      have XK : Hid (LB w wK ao n c k m) := XJ.out.span SK (by omega)
      have V1K : Hid (TV wK wA.heap.size top1 x1 lo1 hi1 ta1 tb1 n' tc1 tq1 E) := V1J.out.span SK (Or.inl (by omega))
      have V3K : Hid (TV wK wB.heap.size top3 x3 lo3 hi3 ta3 tb3 n' tc3 tq3 (MD 1 E)) := V3J.out.own SK TK
      clear SK TK XJ V1J V3J z3
      have z3 := V3K.out.row.cell (i := 0) (by omega)
      obtain ⟨q2, hq2⟩ : ∃ q : Nat, q = cnt 1 E n' := ⟨_, rfl⟩
      rw [← hq2]
      go_wp2_with fail
      refine (t_heldTable lo3 hi3 ta3 tb3 n' tc3 tq3 E 1 _ V3K.out.tab (by omega) (by omega) hn2 HGE.out).mono ?_
      rintro e wL ⟨rfl, hbL⟩
      rw [← hq2]
      have hq2n : ¬ (q2 : Int) < 0 := by omega
      have XL : Hid (LB w wL ao n c k m) := XK.out.below hbL
      have V1L : Hid (TV wL wA.heap.size top1 x1 lo1 hi1 ta1 tb1 n' tc1 tq1 E) := V1K.out.below hbL
      clear hbL XK V1K V3K z3 hq2
      obtain ⟨t1, u1, v1⟩ := XL.out.cells
      go_wp2_with fail
      have HZ : Hid (∀ W, Below wL.heap.size wL W → W.cell? ⟨w.heap.size, 0, none⟩ = some (.slice ao n c) ∧ W.cell? ⟨w.heap.size + 1, 0, none⟩ = some (.int .i64 k) ∧ W.cell? ⟨w.heap.size + 1, 1, none⟩ = some (.string m)) := fun W hW => (XL.out.below hW).cells
      have CT : Hid (∀ W, Below wL.heap.size wL W → Calls Try.prog 10 #[.agg #[.slice ao n c]] W fun e w' => ∃ b' p', e = .returned (.agg #[.slice (some ⟨b', 0, none⟩) n n]) ∧ Hid (TabNew w' W.heap.size w'.heap.size (some ⟨b', 0, none⟩) b' n p' D) ∧ Hid (Below wL.heap.size wL w') ∧ Hid (Below W.heap.size W w')) := fun W hW => C10.out wL W hW XL.out.b
      clear t1 u1 v1
      go_cut [18, 19] (fun s10 s11 wc => ∃ xb : Nat, s10 = .pointer (some ⟨xb, 0, none⟩) ∧ s11 = .int .i64 cd ∧ Hid (Below wL.heap.size wL wc) ∧ Hid (∃ lo hi ta tb tc tq, TV wc wL.heap.size wc.heap.size xb lo hi ta tb n' tc tq E))
      case first =>
        refine wp_region_held_drew (S := (fun w' => w'.cell? ⟨w.heap.size, 0, none⟩ = some (.slice ao n c) ∧ w'.cell? ⟨w.heap.size + 1, 0, none⟩ = some (.int .i64 k) ∧ w'.cell? ⟨w.heap.size + 1, 1, none⟩ = some (.string m))) (by kernel_rfl) ?_ (fun hHeld => ?_)
        · exact HZ.out _ (Below.refl _ _).drew
        refine wpAnyH_take (i := 0) (oi := ⟨some 93, _, _, _, _, _⟩) (v := ?_) rfl (by kernel_rfl) (by kernel_rfl) (by kernel_rfl) (fun _ _ _ h => h) (Or.inl ⟨by kernel_rfl, ?_⟩) (by assumption) ?_
        rotate_left
        · (intro wS hSw; (try dsimp only at hSw); (go_simp <;> with_reducible rfl))
        (try simp only [Act.put]); (try simp only [List.setIfInBounds_toArray]); (try simp only [List.set_cons_succ]); (try simp only [List.set_cons_zero])
        refine wpAnyH_take (i := 2) (oi := ⟨some 95, _, _, _, _, _⟩) (v := ?_) rfl (by kernel_rfl) (by kernel_rfl) (by kernel_rfl) (fun _ _ _ h => h) (Or.inl ⟨by kernel_rfl, ?_⟩) (by assumption) ?_
        rotate_left
        · (intro wS hSw; (try dsimp only at hSw); (go_simp <;> with_reducible rfl))
        (try simp only [Act.put]); (try simp only [List.setIfInBounds_toArray]); (try simp only [List.set_cons_succ]); (try simp only [List.set_cons_zero])
        refine wpAnyH_take (i := 4) (oi := ⟨some 97, _, _, _, _, _⟩) (v := ?_) rfl (by kernel_rfl) (by kernel_rfl) (by kernel_rfl) (fun _ _ _ h => h) (Or.inl ⟨by kernel_rfl, ?_⟩) (by assumption) ?_
        rotate_left
        · (intro wS hSw; (try dsimp only at hSw); (go_simp <;> with_reducible rfl))
        (try simp only [Act.put]); (try simp only [List.setIfInBounds_toArray]); (try simp only [List.set_cons_succ]); (try simp only [List.set_cons_zero])
        refine wpAnyH_take (i := 5) (oi := ⟨some 98, _, _, _, _, _⟩) (v := ?_) rfl (by kernel_rfl) (by kernel_rfl) (by kernel_rfl) (fun _ _ _ h => h) (Or.inl ⟨by kernel_rfl, ?_⟩) (by assumption) ?_
        rotate_left
        · (intro wS hSw; (try dsimp only at hSw); (go_simp <;> with_reducible rfl))
        (try simp only [Act.put]); (try simp only [List.setIfInBounds_toArray]); (try simp only [List.set_cons_succ]); (try simp only [List.set_cons_zero])
        refine wpAnyH_ready (rs := [1, 10]) (by kernel_rfl) (by simp) ?_
        refine AllReadyH.cons rfl (fun K hK => ?_) (AllReadyH.cons rfl (fun K hK => ?_) AllReadyH.nil)
        · go_simp
          go_wp2_with (go_at_call 10; refine (CT.out _ (Below.refl _ _).drew).mono ?_; rintro e wM ⟨b4, p4, rfl, T4, JwM, KwM⟩)
          have HwM : Hid (Below wL.heap.size wL wM) := JwM.out
          refine hK.out _ _ ?_ (fun hHeld2 => ?_)
          · exact HZ.out _ HwM.out
          clear hK K hHeld
          have hHeld := hHeld2
          clear hHeld2
          refine wpAnyH_ready (rs := [3, 10]) (by kernel_rfl) (by simp) ?_
          refine AllReadyH.cons rfl (fun K hK => ?_) (AllReadyH.cons rfl (fun K hK => ?_) AllReadyH.nil)
          · go_simp
            go_wp2_with (go_at_call 17; refine (C17.out wM _ (Below.refl _ _)).mono ?_; rintro e wN ⟨rfl, JwN, KwN⟩; have T5 : Hid (TabNew wN _ _ (some ⟨b4, 0, none⟩) b4 n p4 D) := T4.out.below JwN.out)
            have HwN : Hid (Below wL.heap.size wL wN) := HwM.out.trans (JwN.out.mono HwM.out.size)
            refine hK.out _ _ ?_ (fun hHeld2 => ?_)
            · exact HZ.out _ HwN.out
            clear hK K hHeld
            have hHeld := hHeld2
            clear hHeld2
            refine wpAnyH_ready (rs := [6, 10]) (by kernel_rfl) (by simp) ?_
            refine AllReadyH.cons rfl (fun K hK => ?_) (AllReadyH.cons rfl (fun K hK => ?_) AllReadyH.nil)
            · go_simp
              go_wp2_with (go_at_call 31; refine (CI.out wN _ b4 p4 _ _ T5 (Below.refl _ _)).mono ?_; rintro e wO ⟨ta, tb, tc, tq, rfl, T6, JwO, KwO⟩)
              have HwO : Hid (Below wL.heap.size wL wO) := HwN.out.trans (JwO.out.mono HwN.out.size)
              refine hK.out _ _ ?_ (fun hHeld2 => ?_)
              · exact HZ.out _ HwO.out
              clear hK K hHeld
              have hHeld := hHeld2
              clear hHeld2
              refine wpAnyH_take (i := 7) (oi := ⟨some 92, _, _, _, _, _⟩) (v := ?_) rfl (by kernel_rfl) (by kernel_rfl) (by kernel_rfl) (fun _ _ _ h => h) (Or.inl ⟨by kernel_rfl, ?_⟩) (by assumption) ?_
              rotate_left
              · (intro wS hSw; (try dsimp only at hSw); (go_simp <;> with_reducible rfl))
              (try simp only [Act.put]); (try simp only [List.setIfInBounds_toArray]); (try simp only [List.set_cons_succ]); (try simp only [List.set_cons_zero])
              refine wpAnyH_take (i := 8) (oi := ⟨some 100, _, _, _, _, _⟩) (v := ?_) rfl (by kernel_rfl) (by kernel_rfl) (by kernel_rfl) (fun _ _ _ h => h) (Or.inl ⟨by kernel_rfl, ?_⟩) (by assumption) ?_
              rotate_left
              · (intro wS hSw; (try dsimp only at hSw); (go_simp <;> with_reducible rfl))
              (try simp only [Act.put]); (try simp only [List.setIfInBounds_toArray]); (try simp only [List.set_cons_succ]); (try simp only [List.set_cons_zero])
              refine wpAnyH_take (i := 9) (oi := ⟨some 101, _, _, _, _, _⟩) (v := ?_) rfl (by kernel_rfl) (by kernel_rfl) (by kernel_rfl) (fun _ _ _ h => h) (Or.inl ⟨by kernel_rfl, ?_⟩) (by assumption) ?_
              rotate_left
              · (intro wS hSw; (try dsimp only at hSw); (go_simp <;> with_reducible rfl))
              (try simp only [Act.put]); (try simp only [List.setIfInBounds_toArray]); (try simp only [List.set_cons_succ]); (try simp only [List.set_cons_zero])
              refine wpAnyH_ready (rs := [10]) (by kernel_rfl) (by simp) ?_
              refine AllReadyH.cons rfl (fun K hK => ?_) AllReadyH.nil
              go_simp
              refine hK.out _ _ ?_ (fun hHeld2 => ?_)
              · exact HZ.out _ (HwO.out.alloc HwO.out.size _)
              clear hK K hHeld
              have hHeld := hHeld2
              clear hHeld2
              refine wpAnyH_ready (rs := [11]) (by kernel_rfl) (by simp) ?_
              refine AllReadyH.cons rfl (fun K hK => ?_) AllReadyH.nil
              go_simp
              refine hK.out _ _ ?_ (fun hHeld2 => ?_)
              · exact HZ.out _ (HwO.out.alloc HwO.out.size _)
              clear hK K hHeld
              have hHeld := hHeld2
              clear hHeld2
              refine wpAnyH_take (i := 12) (oi := ⟨some 19, _, _, _, _, _⟩) (v := ?_) rfl (by kernel_rfl) (by kernel_rfl) (by kernel_rfl) (fun _ _ _ h => h) (Or.inl ⟨by kernel_rfl, ?_⟩) (by assumption) ?_
              rotate_left
              · (intro wS hSw; (try dsimp only at hSw); (go_simp <;> with_reducible rfl))
              (try simp only [Act.put]); (try simp only [List.setIfInBounds_toArray]); (try simp only [List.set_cons_succ]); (try simp only [List.set_cons_zero])
              refine wpAnyH_done (by kernel_rfl) ?_ _
              have FV : Hid (Below wL.heap.size wL (wO.alloc (.cells #[.slice ta n' tc] 28)) ∧ ∃ lo hi ta' tb tc' tq, TV (wO.alloc (.cells #[.slice ta n' tc] 28)) wL.heap.size (wO.alloc (.cells #[.slice ta n' tc] 28)).heap.size wO.heap.size lo hi ta' tb n' tc' tq E) := ⟨HwO.out.alloc HwO.out.size _, _, _, ta, tb, tc, tq, tv_late T6.out (by exact HwN.out.size) HwO.out.size⟩
              go_wp2
              go_meet
              case rel => exact ⟨wO.heap.size, rfl, rfl, FV.out.1, FV.out.2⟩
            · go_simp
              refine hK.out _ _ ?_ (fun hHeld2 => ?_)
              · exact HZ.out _ (HwN.out.alloc HwN.out.size _)
              clear hK K hHeld
              have hHeld := hHeld2
              clear hHeld2
              refine wpAnyH_ready (rs := [6]) (by kernel_rfl) (by simp) ?_
              refine AllReadyH.cons rfl (fun K hK => ?_) AllReadyH.nil
              go_simp
              go_wp2_with (go_at_call 31; refine (CI.out wN _ b4 p4 _ _ T5 (bel1 _ _)).mono ?_; rintro e wO ⟨ta, tb, tc, tq, rfl, T6, JwO, KwO⟩)
              have HwO : Hid (Below wL.heap.size wL wO) := HwN.out.trans (JwO.out.mono HwN.out.size)
              have QwO : Hid (wO.rowIs wN.heap.size 28 1 (fun _ => .slice none 0 0)) := (row1 wN (.slice none 0 0) 28).of_block (KwO.out.block _ (by simp))
              refine hK.out _ _ ?_ (fun hHeld2 => ?_)
              · exact HZ.out _ HwO.out
              clear hK K hHeld
              have hHeld := hHeld2
              clear hHeld2
              refine wpAnyH_take (i := 7) (oi := ⟨some 92, _, _, _, _, _⟩) (v := ?_) rfl (by kernel_rfl) (by kernel_rfl) (by kernel_rfl) (fun _ _ _ h => h) (Or.inl ⟨by kernel_rfl, ?_⟩) (by assumption) ?_
              rotate_left
              · (intro wS hSw; (try dsimp only at hSw); (go_simp <;> with_reducible rfl))
              (try simp only [Act.put]); (try simp only [List.setIfInBounds_toArray]); (try simp only [List.set_cons_succ]); (try simp only [List.set_cons_zero])
              refine wpAnyH_take (i := 8) (oi := ⟨some 100, _, _, _, _, _⟩) (v := ?_) rfl (by kernel_rfl) (by kernel_rfl) (by kernel_rfl) (fun _ _ _ h => h) (Or.inl ⟨by kernel_rfl, ?_⟩) (by assumption) ?_
              rotate_left
              · (intro wS hSw; (try dsimp only at hSw); (go_simp <;> with_reducible rfl))
              (try simp only [Act.put]); (try simp only [List.setIfInBounds_toArray]); (try simp only [List.set_cons_succ]); (try simp only [List.set_cons_zero])
              refine wpAnyH_take (i := 9) (oi := ⟨some 101, _, _, _, _, _⟩) (v := ?_) rfl (by kernel_rfl) (by kernel_rfl) (by kernel_rfl) (fun _ _ _ h => h) (Or.inl ⟨by kernel_rfl, ?_⟩) (by assumption) ?_
              rotate_left
              · (intro wS hSw; (try dsimp only at hSw); (go_simp <;> with_reducible rfl))
              (try simp only [Act.put]); (try simp only [List.setIfInBounds_toArray]); (try simp only [List.set_cons_succ]); (try simp only [List.set_cons_zero])
              have qc := QwO.out.cell (i := 0) (by omega)
              have qf := QwO.out.frozen 0
              refine wpAnyH_ready (rs := [11]) (by kernel_rfl) (by simp) ?_
              refine AllReadyH.cons rfl (fun K hK => ?_) AllReadyH.nil
              go_simp
              clear qc qf
              refine hK.out _ _ ?_ (fun hHeld2 => ?_)
              · exact HZ.out _ (HwO.out.setCell (by first | exact Nat.le_refl _ | (show wL.heap.size ≤ wN.heap.size; exact HwN.out.size)) _)
              clear hK K hHeld
              have hHeld := hHeld2
              clear hHeld2
              refine wpAnyH_take (i := 12) (oi := ⟨some 19, _, _, _, _, _⟩) (v := ?_) rfl (by kernel_rfl) (by kernel_rfl) (by kernel_rfl) (fun _ _ _ h => h) (Or.inl ⟨by kernel_rfl, ?_⟩) (by assumption) ?_
              rotate_left
              · (intro wS hSw; (try dsimp only at hSw); (go_simp <;> with_reducible rfl))
              (try simp only [Act.put]); (try simp only [List.setIfInBounds_toArray]); (try simp only [List.set_cons_succ]); (try simp only [List.set_cons_zero])
              refine wpAnyH_done (by kernel_rfl) ?_ _
              have FV : Hid (Below wL.heap.size wL (wO.setCell ⟨wN.heap.size, 0, none⟩ (.slice ta n' tc)) ∧ ∃ lo hi ta' tb tc' tq, TV (wO.setCell ⟨wN.heap.size, 0, none⟩ (.slice ta n' tc)) wL.heap.size (wO.setCell ⟨wN.heap.size, 0, none⟩ (.slice ta n' tc)).heap.size wN.heap.size lo hi ta' tb n' tc' tq E) := ⟨HwO.out.setCell (by exact HwN.out.size) _, _, _, ta, tb, tc, tq, tv_early QwO.out T6.out (by exact HwN.out.size) (by simp)⟩
              go_wp2
              go_meet
              case rel => exact ⟨wN.heap.size, rfl, rfl, FV.out.1, FV.out.2⟩
          · go_simp
            refine hK.out _ _ ?_ (fun hHeld2 => ?_)
            · exact HZ.out _ (HwM.out.alloc HwM.out.size _)
            clear hK K hHeld
            have hHeld := hHeld2
            clear hHeld2
            refine wpAnyH_ready (rs := [3]) (by kernel_rfl) (by simp) ?_
            refine AllReadyH.cons rfl (fun K hK => ?_) AllReadyH.nil
            go_simp
            go_wp2_with (go_at_call 17; refine (C17.out wM _ (bel1 _ _)).mono ?_; rintro e wN ⟨rfl, JwN, KwN⟩; have T5 : Hid (TabNew wN _ _ (some ⟨b4, 0, none⟩) b4 n p4 D) := T4.out.below JwN.out)
            have HwN : Hid (Below wL.heap.size wL wN) := HwM.out.trans (JwN.out.mono HwM.out.size)
            have QwN : Hid (wN.rowIs wM.heap.size 28 1 (fun _ => .slice none 0 0)) := (row1 wM (.slice none 0 0) 28).of_block (KwN.out.block _ (by simp))
            refine hK.out _ _ ?_ (fun hHeld2 => ?_)
            · exact HZ.out _ HwN.out
            clear hK K hHeld
            have hHeld := hHeld2
            clear hHeld2
            refine wpAnyH_ready (rs := [6]) (by kernel_rfl) (by simp) ?_
            refine AllReadyH.cons rfl (fun K hK => ?_) AllReadyH.nil
            go_simp
            go_wp2_with (go_at_call 31; refine (CI.out wN _ b4 p4 _ _ T5 (Below.refl _ _)).mono ?_; rintro e wO ⟨ta, tb, tc, tq, rfl, T6, JwO, KwO⟩)
            have HwO : Hid (Below wL.heap.size wL wO) := HwN.out.trans (JwO.out.mono HwN.out.size)
            have QwO : Hid (wO.rowIs wM.heap.size 28 1 (fun _ => .slice none 0 0)) := QwN.out.of_block (KwO.out.block _ QwN.out.lt)
            refine hK.out _ _ ?_ (fun hHeld2 => ?_)
            · exact HZ.out _ HwO.out
            clear hK K hHeld
            have hHeld := hHeld2
            clear hHeld2
            refine wpAnyH_take (i := 7) (oi := ⟨some 92, _, _, _, _, _⟩) (v := ?_) rfl (by kernel_rfl) (by kernel_rfl) (by kernel_rfl) (fun _ _ _ h => h) (Or.inl ⟨by kernel_rfl, ?_⟩) (by assumption) ?_
            rotate_left
            · (intro wS hSw; (try dsimp only at hSw); (go_simp <;> with_reducible rfl))
            (try simp only [Act.put]); (try simp only [List.setIfInBounds_toArray]); (try simp only [List.set_cons_succ]); (try simp only [List.set_cons_zero])
            refine wpAnyH_take (i := 8) (oi := ⟨some 100, _, _, _, _, _⟩) (v := ?_) rfl (by kernel_rfl) (by kernel_rfl) (by kernel_rfl) (fun _ _ _ h => h) (Or.inl ⟨by kernel_rfl, ?_⟩) (by assumption) ?_
            rotate_left
            · (intro wS hSw; (try dsimp only at hSw); (go_simp <;> with_reducible rfl))
            (try simp only [Act.put]); (try simp only [List.setIfInBounds_toArray]); (try simp only [List.set_cons_succ]); (try simp only [List.set_cons_zero])
            refine wpAnyH_take (i := 9) (oi := ⟨some 101, _, _, _, _, _⟩) (v := ?_) rfl (by kernel_rfl) (by kernel_rfl) (by kernel_rfl) (fun _ _ _ h => h) (Or.inl ⟨by kernel_rfl, ?_⟩) (by assumption) ?_
            rotate_left
            · (intro wS hSw; (try dsimp only at hSw); (go_simp <;> with_reducible rfl))
            (try simp only [Act.put]); (try simp only [List.setIfInBounds_toArray]); (try simp only [List.set_cons_succ]); (try simp only [List.set_cons_zero])
            have qc := QwO.out.cell (i := 0) (by omega)
            have qf := QwO.out.frozen 0
            refine wpAnyH_ready (rs := [11]) (by kernel_rfl) (by simp) ?_
            refine AllReadyH.cons rfl (fun K hK => ?_) AllReadyH.nil
            go_simp
            clear qc qf
            refine hK.out _ _ ?_ (fun hHeld2 => ?_)
            · exact HZ.out _ (HwO.out.setCell (by first | exact Nat.le_refl _ | (show wL.heap.size ≤ wM.heap.size; exact HwM.out.size)) _)
            clear hK K hHeld
            have hHeld := hHeld2
            clear hHeld2
            refine wpAnyH_take (i := 12) (oi := ⟨some 19, _, _, _, _, _⟩) (v := ?_) rfl (by kernel_rfl) (by kernel_rfl) (by kernel_rfl) (fun _ _ _ h => h) (Or.inl ⟨by kernel_rfl, ?_⟩) (by assumption) ?_
            rotate_left
            · (intro wS hSw; (try dsimp only at hSw); (go_simp <;> with_reducible rfl))
            (try simp only [Act.put]); (try simp only [List.setIfInBounds_toArray]); (try simp only [List.set_cons_succ]); (try simp only [List.set_cons_zero])
            refine wpAnyH_done (by kernel_rfl) ?_ _
            have FV : Hid (Below wL.heap.size wL (wO.setCell ⟨wM.heap.size, 0, none⟩ (.slice ta n' tc)) ∧ ∃ lo hi ta' tb tc' tq, TV (wO.setCell ⟨wM.heap.size, 0, none⟩ (.slice ta n' tc)) wL.heap.size (wO.setCell ⟨wM.heap.size, 0, none⟩ (.slice ta n' tc)).heap.size wM.heap.size lo hi ta' tb n' tc' tq E) := ⟨HwO.out.setCell (by exact HwM.out.size) _, _, _, ta, tb, tc, tq, tv_early QwO.out T6.out (by exact HwM.out.size) (QwN.out.lt)⟩
            go_wp2
            go_meet
            case rel => exact ⟨wM.heap.size, rfl, rfl, FV.out.1, FV.out.2⟩
        · go_simp
          refine hK.out _ _ ?_ (fun hHeld2 => ?_)
          · exact HZ.out _ ((bel1 _ _).drew)
          clear hK K hHeld
          have hHeld := hHeld2
          clear hHeld2
          refine wpAnyH_ready (rs := [1]) (by kernel_rfl) (by simp) ?_
          refine AllReadyH.cons rfl (fun K hK => ?_) AllReadyH.nil
          go_simp
          go_wp2_with (go_at_call 10; refine (CT.out _ (bel1 _ _).drew).mono ?_; rintro e wM ⟨b4, p4, rfl, T4, JwM, KwM⟩)
          have HwM : Hid (Below wL.heap.size wL wM) := JwM.out
          have QwM : Hid (wM.rowIs wL.heap.size 28 1 (fun _ => .slice none 0 0)) := (row1 wL (.slice none 0 0) 28).of_block (KwM.out.block _ (by simp))
          refine hK.out _ _ ?_ (fun hHeld2 => ?_)
          · exact HZ.out _ HwM.out
          clear hK K hHeld
          have hHeld := hHeld2
          clear hHeld2
          refine wpAnyH_ready (rs := [3]) (by kernel_rfl) (by simp) ?_
          refine AllReadyH.cons rfl (fun K hK => ?_) AllReadyH.nil
          go_simp
          go_wp2_with (go_at_call 17; refine (C17.out wM _ (Below.refl _ _)).mono ?_; rintro e wN ⟨rfl, JwN, KwN⟩; have T5 : Hid (TabNew wN _ _ (some ⟨b4, 0, none⟩) b4 n p4 D) := T4.out.below JwN.out)
          have HwN : Hid (Below wL.heap.size wL wN) := HwM.out.trans (JwN.out.mono HwM.out.size)
          have QwN : Hid (wN.rowIs wL.heap.size 28 1 (fun _ => .slice none 0 0)) := QwM.out.of_block (KwN.out.block _ QwM.out.lt)
          refine hK.out _ _ ?_ (fun hHeld2 => ?_)
          · exact HZ.out _ HwN.out
          clear hK K hHeld
          have hHeld := hHeld2
          clear hHeld2
          refine wpAnyH_ready (rs := [6]) (by kernel_rfl) (by simp) ?_
          refine AllReadyH.cons rfl (fun K hK => ?_) AllReadyH.nil
          go_simp
          go_wp2_with (go_at_call 31; refine (CI.out wN _ b4 p4 _ _ T5 (Below.refl _ _)).mono ?_; rintro e wO ⟨ta, tb, tc, tq, rfl, T6, JwO, KwO⟩)
          have HwO : Hid (Below wL.heap.size wL wO) := HwN.out.trans (JwO.out.mono HwN.out.size)
          have QwO : Hid (wO.rowIs wL.heap.size 28 1 (fun _ => .slice none 0 0)) := QwN.out.of_block (KwO.out.block _ QwN.out.lt)
          refine hK.out _ _ ?_ (fun hHeld2 => ?_)
          · exact HZ.out _ HwO.out
          clear hK K hHeld
          have hHeld := hHeld2
          clear hHeld2
          refine wpAnyH_take (i := 7) (oi := ⟨some 92, _, _, _, _, _⟩) (v := ?_) rfl (by kernel_rfl) (by kernel_rfl) (by kernel_rfl) (fun _ _ _ h => h) (Or.inl ⟨by kernel_rfl, ?_⟩) (by assumption) ?_
          rotate_left
          · (intro wS hSw; (try dsimp only at hSw); (go_simp <;> with_reducible rfl))
          (try simp only [Act.put]); (try simp only [List.setIfInBounds_toArray]); (try simp only [List.set_cons_succ]); (try simp only [List.set_cons_zero])
          refine wpAnyH_take (i := 8) (oi := ⟨some 100, _, _, _, _, _⟩) (v := ?_) rfl (by kernel_rfl) (by kernel_rfl) (by kernel_rfl) (fun _ _ _ h => h) (Or.inl ⟨by kernel_rfl, ?_⟩) (by assumption) ?_
          rotate_left
          · (intro wS hSw; (try dsimp only at hSw); (go_simp <;> with_reducible rfl))
          (try simp only [Act.put]); (try simp only [List.setIfInBounds_toArray]); (try simp only [List.set_cons_succ]); (try simp only [List.set_cons_zero])
          refine wpAnyH_take (i := 9) (oi := ⟨some 101, _, _, _, _, _⟩) (v := ?_) rfl (by kernel_rfl) (by kernel_rfl) (by kernel_rfl) (fun _ _ _ h => h) (Or.inl ⟨by kernel_rfl, ?_⟩) (by assumption) ?_
          rotate_left
          · (intro wS hSw; (try dsimp only at hSw); (go_simp <;> with_reducible rfl))
          (try simp only [Act.put]); (try simp only [List.setIfInBounds_toArray]); (try simp only [List.set_cons_succ]); (try simp only [List.set_cons_zero])
          have qc := QwO.out.cell (i := 0) (by omega)
          have qf := QwO.out.frozen 0
          refine wpAnyH_ready (rs := [11]) (by kernel_rfl) (by simp) ?_
          refine AllReadyH.cons rfl (fun K hK => ?_) AllReadyH.nil
          go_simp
          clear qc qf
          refine hK.out _ _ ?_ (fun hHeld2 => ?_)
          · exact HZ.out _ (HwO.out.setCell (Nat.le_refl _) _)
          clear hK K hHeld
          have hHeld := hHeld2
          clear hHeld2
          refine wpAnyH_take (i := 12) (oi := ⟨some 19, _, _, _, _, _⟩) (v := ?_) rfl (by kernel_rfl) (by kernel_rfl) (by kernel_rfl) (fun _ _ _ h => h) (Or.inl ⟨by kernel_rfl, ?_⟩) (by assumption) ?_
          rotate_left
          · (intro wS hSw; (try dsimp only at hSw); (go_simp <;> with_reducible rfl))
          (try simp only [Act.put]); (try simp only [List.setIfInBounds_toArray]); (try simp only [List.set_cons_succ]); (try simp only [List.set_cons_zero])
          refine wpAnyH_done (by kernel_rfl) ?_ _
          have FV : Hid (Below wL.heap.size wL (wO.setCell ⟨wL.heap.size, 0, none⟩ (.slice ta n' tc)) ∧ ∃ lo hi ta' tb tc' tq, TV (wO.setCell ⟨wL.heap.size, 0, none⟩ (.slice ta n' tc)) wL.heap.size (wO.setCell ⟨wL.heap.size, 0, none⟩ (.slice ta n' tc)).heap.size wL.heap.size lo hi ta' tb n' tc' tq E) := ⟨HwO.out.setCell (by exact Nat.le_refl _) _, _, _, ta, tb, tc, tq, tv_early QwO.out T6.out (by exact Nat.le_refl _) (QwN.out.lt)⟩
          go_wp2
          go_meet
          case rel => exact ⟨wL.heap.size, rfl, rfl, FV.out.1, FV.out.2⟩
      case rest =>
        obtain ⟨x4, rfl, rfl, HC4, HV4⟩ := hcut
        have XP : Hid (LB w wc ao n c k m) := XL.out.below HC4.out
        obtain ⟨lo4, hi4, ta4, tb4, tc4, tq4, V4'⟩ := HV4.out
        have V4 : Hid (TV wc wL.heap.size wc.heap.size x4 lo4 hi4 ta4 tb4 n' tc4 tq4 E) := V4'
        have V1P : Hid (TV wc wA.heap.size top1 x1 lo1 hi1 ta1 tb1 n' tc1 tq1 E) := V1L.out.below HC4.out
        clear V4' HV4 HC4 HZ CT
        have z4 := V4.out.row.cell (i := 0) (by omega)
        have z1 := V1P.out.row.cell (i := 0) (by omega)
        go_wp2_with fail
        refine (t_eqTable ta4 ta1 tb4 tc4 tb1 tc1 n' lo4 hi4 lo1 hi1 tq4 tq1 E _ V4.out.tab V1P.out.tab HFF.out (by omega)).mono ?_
        rintro e wQ ⟨rfl, hbQ⟩
        have XQ : Hid (Below w.heap.size w wQ) := (XP.out.below hbQ).b
        clear hbQ
        go_wp2
        go_ret
        exact ⟨rfl, XQ.out⟩

end Go.Proofs.Ytijgiingfgaakaa
