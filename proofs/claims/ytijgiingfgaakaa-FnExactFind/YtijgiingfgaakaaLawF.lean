/-
  Tables: the walk of the law on Find.
-/
import Derived.Test.YtijgiingfgaakaaTabY
import Derived.Test.YtijgiingfgaakaaTabL
import Derived.Deep.DeepCutAuto
namespace Go.Proofs.Ytijgiingfgaakaa
open Go.RowKit

/-- The law's own boxes. -/
structure LB (w W : World) (ao : Option Addr) (n c : Nat) (k : Int) (m : ByteArray) : Prop where
  t : W.rowIs w.heap.size 24 1 (fun _ => .slice ao n c)
  k : W.rowIs (w.heap.size + 1) 35 2 (fun i => if i = 0 then .int .i64 k else .string m)
  b : Below w.heap.size w W

theorem LB.below {w W W' : World} {ao : Option Addr} {n c : Nat} {k : Int} {m : ByteArray} (h : LB w W ao n c k m) (hb : Below W.heap.size W W') : LB w W' ao n c k m :=
  ⟨h.t.of_block (hb.block _ h.t.lt), h.k.of_block (hb.block _ h.k.lt), h.b.trans (hb.mono h.b.size)⟩
theorem LB.span {w W W' : World} {ao : Option Addr} {n c : Nat} {k : Int} {m : ByteArray} (h : LB w W ao n c k m) {l2 h2 : Nat} (hs : Span l2 h2 W W') (hl : w.heap.size + 1 < l2) : LB w W' ao n c k m :=
  ⟨h.t.of_block (hs.block _ h.t.lt (by omega)), h.k.of_block (hs.block _ h.k.lt (by omega)), hs.toBelow h.b (by omega) h.b.size⟩
theorem LB.cells {w W : World} {ao : Option Addr} {n c : Nat} {k : Int} {m : ByteArray} (h : LB w W ao n c k m) : W.cell? ⟨w.heap.size, 0, none⟩ = some (.slice ao n c) ∧ W.cell? ⟨w.heap.size + 1, 0, none⟩ = some (.int .i64 k) ∧ W.cell? ⟨w.heap.size + 1, 1, none⟩ = some (.string m) :=
  ⟨h.t.cell (i := 0) (by omega), h.k.cell (i := 0) (by omega), h.k.cell (i := 1) (by omega)⟩

/-- A variable with a slot, its list in memory of its own. -/
structure SV (w : World) (base top xb lo hi : Nat) (oa : Option Addr) (kb cap : Nat) (d : SD) : Prop where
  row : w.rowIs xb 40 9 (sc ⟨oa, kb, 0, cap⟩ d)
  keys : KeysNew w lo hi oa kb d.n d.dk d.dm
  apart : xb < lo ∨ hi ≤ xb
  x1 : base ≤ xb
  x2 : xb < top
  l1 : base ≤ lo
  h1 : hi ≤ top

theorem SV.below {w w' : World} {base top xb lo hi : Nat} {oa : Option Addr} {kb cap : Nat} {d : SD} (h : SV w base top xb lo hi oa kb cap d) (hb : Below w.heap.size w w') : SV w' base top xb lo hi oa kb cap d :=
  ⟨h.row.of_block (hb.block _ h.row.lt), h.keys.below hb, h.apart, h.x1, h.x2, h.l1, h.h1⟩
theorem SV.span {w w' : World} {base top xb lo hi : Nat} {oa : Option Addr} {kb cap : Nat} {d : SD} (h : SV w base top xb lo hi oa kb cap d) {l2 h2 : Nat} (hs : Span l2 h2 w w') (hd : top ≤ l2 ∨ h2 ≤ base) : SV w' base top xb lo hi oa kb cap d :=
  ⟨h.row.of_block (hs.block _ h.row.lt (by have := h.x1; have := h.x2; omega)), h.keys.span hs (by have := h.l1; have := h.h1; omega), h.apart, h.x1, h.x2, h.l1, h.h1⟩
theorem SV.slot {w : World} {base top xb lo hi : Nat} {oa : Option Addr} {kb cap : Nat} {d : SD} (h : SV w base top xb lo hi oa kb cap d) (hF : Fit d) : SlotAt w ⟨oa, kb, 0, cap⟩ d :=
  ⟨h.keys.keys hF.ks hF.kn, hF.sm, hF.sv, hF.lo, hF.hi⟩
theorem sv_late {w0 w : World} {lo : Nat} {oa : Option Addr} {kb cap : Nat} {d : SD} (hT : KeysNew w lo w.heap.size oa kb d.n d.dk d.dm) (hlo : w0.heap.size ≤ lo) (hw : w0.heap.size ≤ w.heap.size) : SV (w.alloc (.cells #[.int .i64 d.k, .string d.m, .bool d.has, .string d.v, .slice oa d.n cap, .int .i64 d.ver, .int .i64 d.chg, .int .i64 d.own, .int .i64 d.sin] 40)) w0.heap.size (w.alloc (.cells #[.int .i64 d.k, .string d.m, .bool d.has, .string d.v, .slice oa d.n cap, .int .i64 d.ver, .int .i64 d.chg, .int .i64 d.own, .int .i64 d.sin] 40)).heap.size w.heap.size lo w.heap.size oa kb cap d :=
  ⟨row_sc w ⟨oa, kb, 0, cap⟩ d _, hT.below (bel1 _ _), Or.inr (Nat.le_refl _), hw, by simp, hlo, by simp⟩
theorem keys_put {w : World} {lo hi : Nat} {ao : Option Addr} {b n : Nat} {K : Nat → Int} {M : Nat → ByteArray} {xb o : Nat} {p : SP} {d : SD} (h : KeysNew w lo hi ao b n K M) (hl : xb < lo) : KeysNew (putSlot w xb o p d) lo hi ao b n K M :=
  ⟨h.at_, fun q => (h.row q).put (by have := h.inn q; omega), h.inn⟩
theorem sv_early {w0 w : World} {xb lo : Nat} {f : Nat → Value} {oa : Option Addr} {kb cap : Nat} {d : SD} (hr : w.rowIs xb 40 9 f) (hT : KeysNew w lo w.heap.size oa kb d.n d.dk d.dm) (hx : w0.heap.size ≤ xb) (hl : xb < lo) : SV (putSlot w xb 0 ⟨oa, kb, 0, cap⟩ d) w0.heap.size (putSlot w xb 0 ⟨oa, kb, 0, cap⟩ d).heap.size xb lo w.heap.size oa kb cap d :=
  ⟨(putSlot_row hr).congr (fun i hi => by rw [if_pos (by omega), Nat.sub_zero]), keys_put hT hl, Or.inl hl, hx, by rw [size_put]; exact hr.lt, by omega, by rw [size_put]; exact Nat.le_refl _⟩
theorem t_eqSlot {w : World} {base top xb lo hi base' top' xb' lo' hi' : Nat} {oa oa' : Option Addr} {kb cap kb' cap' : Nat} {d : SD} (h : SV w base top xb lo hi oa kb cap d) (h' : SV w base' top' xb' lo' hi' oa' kb' cap' d) (hF : Fit d) :
    Calls Try.prog 19 #[.agg #[.int .i64 d.k, .string d.m, .bool d.has, .string d.v, .slice oa d.n cap, .int .i64 d.ver, .int .i64 d.chg, .int .i64 d.own, .int .i64 d.sin], .agg #[.int .i64 d.k, .string d.m, .bool d.has, .string d.v, .slice oa' d.n cap', .int .i64 d.ver, .int .i64 d.chg, .int .i64 d.own, .int .i64 d.sin]] w fun e w' => e = .returned (.bool true) ∧ Below w.heap.size w w' :=
  c20 ⟨oa, kb, 0, cap⟩ ⟨oa', kb', 0, cap'⟩ d w (h.slot hF) (h'.slot hF)

set_option maxRecDepth 100000 in
set_option maxHeartbeats 16000000 in
theorem l_Find (ao : Option Addr) (b o n c : Nat) (p : Nat → SP) (D : Nat → SD) (k : Int) (m : ByteArray) (w : World) (h1 : SlotsAt w ao b o n p D) (hm : m.size ≤ 9223372036854775807) :
    Calls Try.prog 4 #[.agg #[.slice ao n c], .agg #[.int .i64 k, .string m]] w fun e w' => e = .returned (.bool true) ∧ Below w.heap.size w w' := by
  have HB : Hid (∀ w', Below w.heap.size w w' → SlotsAt w' ao b o n p D) := fun w' hb => h1.below hb
  clear h1
  have HX0 : Hid (LB w ((w.alloc (.cells #[.slice ao n c] 24)).alloc (.cells #[.int .i64 k, .string m] 35)) ao n c k m) := ⟨(row1 w (.slice ao n c) 24).alloc _, by have := row2 (w.alloc (.cells #[.slice ao n c] 24)) (.int .i64 k) (.string m) 35; rw [World.size_alloc] at this; exact this, bel2 w _ _⟩
  go_enter Try.func4, Try.ntmps4
  go_wp2_with fail
  refine (c6 ao b o n c p D 1048576 _ (by omega) (by omega) (by exact HB.out _ (bel2 _ _ _))).mono ?_
  rintro e w1 ⟨r, rfl, hr, hb1⟩
  have X1 : Hid (LB w w1 ao n c k m) := HX0.out.below hb1
  obtain ⟨t1, u1, v1⟩ := X1.out.cells
  clear hb1 HX0
  by_cases h3 : r < 0
  · go_wp2
    go_ret
    exact ⟨rfl, X1.out.b⟩
  obtain ⟨hn, hS0⟩ := hr.ok (by omega)
  have HS : Hid (∀ i, i < n → small (D i)) := hS0
  have HG : Hid (∀ i, i < n → (D i).n ≤ 1048576) := fun i hi => (hS0 i hi).2.2.1
  have hr1 := hr.hi
  clear hr hS0
  go_wp2_with fail
  refine (c12 k m r _ (by omega) (by omega) hm).mono ?_
  rintro e wA ⟨r3, rfl, hr3, hb3⟩
  have XA : Hid (LB w wA ao n c k m) := X1.out.below hb3
  clear hb3 t1 u1 v1 X1 hr3
  by_cases h5 : r3 < 0
  · go_wp2
    go_ret
    exact ⟨rfl, XA.out.b⟩
  obtain ⟨d, hd⟩ : ∃ d, d = fnd n D k m := ⟨_, rfl⟩
  have HF0 : Hid (∀ i, i < n → Fit (D i)) := fun i hi => ((HB.out w (Below.refl _ _)).slot i hi).fit
  have HDX : Hid (Fit d ∧ d.n ≤ 1048576) := by
    have hz : Fit zd ∧ zd.n ≤ 1048576 := ⟨⟨by show (0 : Nat) ≤ _; omega, by show (0 : Nat) ≤ _; omega, by show (-9223372036854775808 : Int) ≤ 0; omega, by show (0 : Int) ≤ _; omega, fun i hi => absurd hi (Nat.not_lt_zero _), by show (0 : Nat) ≤ _; omega⟩, by show (0 : Nat) ≤ _; omega⟩
    rw [hd]
    unfold fnd
    split
    · cases hs : slotOf n D k m with
      | none => exact hz
      | some i =>
        have hi : i < n := by
          unfold slotOf at hs
          exact List.mem_range.1 (List.mem_of_find?_eq_some hs)
        exact ⟨HF0.out i hi, HG.out i hi⟩
    · exact hz
  have C10 : Hid (∀ V W, Below V.heap.size V W → Below w.heap.size w V → Calls Try.prog 10 #[.agg #[.slice ao n c]] W fun e w' => ∃ b' p', e = .returned (.agg #[.slice (some ⟨b', 0, none⟩) n n]) ∧ Hid (TabNew w' W.heap.size w'.heap.size (some ⟨b', 0, none⟩) b' n p' D) ∧ Hid (Below V.heap.size V w') ∧ Hid (Below W.heap.size W w')) := fun V W hW hV =>
    (u8 ao b o n c p D W (HB.out W (hV.trans (hW.mono hV.size))) hn HG.out).mono fun e w' ⟨b', p', he, hT, hb⟩ => ⟨b', p', he, hT, hW.trans (hb.mono hW.size), hb⟩
  have C17 : Hid (∀ V W, Below V.heap.size V W → Calls Try.prog 17 #[.agg #[.int .i64 k, .string m]] W fun e w' => e = .returned (.agg #[.int .i64 k, .string m]) ∧ Hid (Below V.heap.size V w') ∧ Hid (Below W.heap.size W w')) := fun V W hW =>
    (c15 k m W).mono fun e w' ⟨he, hb⟩ => ⟨he, hW.trans (hb.mono hW.size), hb⟩
  have CS : Hid (∀ V W b' p' lo hi, Hid (TabNew V lo hi (some ⟨b', 0, none⟩) b' n p' D) → Below V.heap.size V W → Calls Try.prog 16 #[.agg #[.slice (some ⟨b', 0, none⟩) n n], .agg #[.int .i64 k, .string m]] W fun e w' => ∃ (oa : Option Addr) (cap kb : Nat), e = .returned (sdl d oa cap) ∧ Hid (KeysNew w' W.heap.size w'.heap.size oa kb d.n d.dk d.dm) ∧ Hid (Below V.heap.size V w') ∧ Hid (Below W.heap.size W w')) := fun V W b' p' lo hi hT hW => by
    rw [hd]
    exact (s_Find _ b' 0 n n p' D k m W ((hT.out.below hW).slots HF0.out (by omega)) hn HG.out).mono fun e w' ⟨oa, cap, he, hO, hb⟩ => by
      obtain ⟨kb, hk⟩ := keys_own hO
      exact ⟨oa, cap, kb, he, hk, hW.trans (hb.mono hW.size), hb⟩
  have CI : Hid (∀ V W b' p' lo hi, Hid (TabNew V lo hi (some ⟨b', 0, none⟩) b' n p' D) → Below V.heap.size V W → Calls Try.prog 18 #[.agg #[.slice (some ⟨b', 0, none⟩) n n], .agg #[.int .i64 k, .string m]] W fun e w' => ∃ (oa : Option Addr) (cap kb : Nat), e = .returned (sdl d oa cap) ∧ Hid (KeysNew w' W.heap.size w'.heap.size oa kb d.n d.dk d.dm) ∧ Hid (Below V.heap.size V w') ∧ Hid (Below W.heap.size W w')) := fun V W b' p' lo hi hT hW => by
    rw [hd]
    exact (t_Find _ b' 0 n n p' D k m W ((hT.out.below hW).slots HF0.out (by omega)) HS.out).mono fun e w' ⟨oa, cap, he, hO, hb⟩ => by
      obtain ⟨kb, hk⟩ := keys_own hO
      exact ⟨oa, cap, kb, he, hk, hW.trans (hb.mono hW.size), hb⟩
  clear hd
  go_wp2_with fail
  have HZ : Hid (∀ W, Below wA.heap.size wA W → W.cell? ⟨w.heap.size, 0, none⟩ = some (.slice ao n c) ∧ W.cell? ⟨w.heap.size + 1, 0, none⟩ = some (.int .i64 k) ∧ W.cell? ⟨w.heap.size + 1, 1, none⟩ = some (.string m)) := fun W hW => (XA.out.below hW).cells
  have CT : Hid (∀ W, Below wA.heap.size wA W → Calls Try.prog 10 #[.agg #[.slice ao n c]] W fun e w' => ∃ b' p', e = .returned (.agg #[.slice (some ⟨b', 0, none⟩) n n]) ∧ Hid (TabNew w' W.heap.size w'.heap.size (some ⟨b', 0, none⟩) b' n p' D) ∧ Hid (Below wA.heap.size wA w') ∧ Hid (Below W.heap.size W w')) := fun W hW => C10.out wA W hW XA.out.b
  go_cut [6] (fun s6 wc => ∃ xb : Nat, s6 = .pointer (some ⟨xb, 0, none⟩) ∧ Hid (Below wA.heap.size wA wc) ∧ Hid (∃ lo hi oa kb cap, SV wc wA.heap.size wc.heap.size xb lo hi oa kb cap d))
  case first =>
    refine wp_region_held_drew (S := (fun w' => w'.cell? ⟨w.heap.size, 0, none⟩ = some (.slice ao n c) ∧ w'.cell? ⟨w.heap.size + 1, 0, none⟩ = some (.int .i64 k) ∧ w'.cell? ⟨w.heap.size + 1, 1, none⟩ = some (.string m))) (by kernel_rfl) ?_ (fun hHeld => ?_)
    · exact HZ.out _ (Below.refl _ _).drew
    refine wpAnyH_take (i := 0) (oi := ⟨some 23, _, _, _, _, _⟩) (v := ?_) rfl (by kernel_rfl) (by kernel_rfl) (by kernel_rfl) (fun _ _ _ h => h) (Or.inl ⟨by kernel_rfl, ?_⟩) (by assumption) ?_
    rotate_left
    · (intro wS hSw; (try dsimp only at hSw); (go_simp <;> with_reducible rfl))
    (try simp only [Act.put]); (try simp only [List.setIfInBounds_toArray]); (try simp only [List.set_cons_succ]); (try simp only [List.set_cons_zero])
    refine wpAnyH_take (i := 2) (oi := ⟨some 25, _, _, _, _, _⟩) (v := ?_) rfl (by kernel_rfl) (by kernel_rfl) (by kernel_rfl) (fun _ _ _ h => h) (Or.inl ⟨by kernel_rfl, ?_⟩) (by assumption) ?_
    rotate_left
    · (intro wS hSw; (try dsimp only at hSw); (go_simp <;> with_reducible rfl))
    (try simp only [Act.put]); (try simp only [List.setIfInBounds_toArray]); (try simp only [List.set_cons_succ]); (try simp only [List.set_cons_zero])
    refine wpAnyH_ready (rs := [1, 5]) (by kernel_rfl) (by simp) ?_
    refine AllReadyH.cons rfl (fun K hK => ?_) (AllReadyH.cons rfl (fun K hK => ?_) AllReadyH.nil)
    · go_simp
      go_wp2_with (go_at_call 10; refine (CT.out _ (Below.refl _ _).drew).mono ?_; rintro e w4 ⟨b4, p4, rfl, T4, Jw4, Kw4⟩)
      have Hw4 : Hid (Below wA.heap.size wA w4) := Jw4.out
      refine hK.out _ _ ?_ (fun hHeld2 => ?_)
      · exact HZ.out _ Hw4.out
      clear hK K hHeld
      have hHeld := hHeld2
      clear hHeld2
      refine wpAnyH_ready (rs := [3, 5]) (by kernel_rfl) (by simp) ?_
      refine AllReadyH.cons rfl (fun K hK => ?_) (AllReadyH.cons rfl (fun K hK => ?_) AllReadyH.nil)
      · go_simp
        go_wp2_with (go_at_call 17; refine (C17.out w4 _ (Below.refl _ _)).mono ?_; rintro e w5 ⟨rfl, Jw5, Kw5⟩; have T5 : Hid (TabNew w5 _ _ (some ⟨b4, 0, none⟩) b4 n p4 D) := T4.out.below Jw5.out)
        have Hw5 : Hid (Below wA.heap.size wA w5) := Hw4.out.trans (Jw5.out.mono Hw4.out.size)
        refine hK.out _ _ ?_ (fun hHeld2 => ?_)
        · exact HZ.out _ Hw5.out
        clear hK K hHeld
        have hHeld := hHeld2
        clear hHeld2
        refine wpAnyH_ready (rs := [4, 5]) (by kernel_rfl) (by simp) ?_
        refine AllReadyH.cons rfl (fun K hK => ?_) (AllReadyH.cons rfl (fun K hK => ?_) AllReadyH.nil)
        · go_simp
          go_wp2_with (go_at_call 16; refine (CS.out w5 _ b4 p4 _ _ T5 (Below.refl _ _)).mono ?_; rintro e w6 ⟨oa, cap, kb, rfl, T6, Jw6, Kw6⟩; unfold sdl)
          have Hw6 : Hid (Below wA.heap.size wA w6) := Hw5.out.trans (Jw6.out.mono Hw5.out.size)
          refine hK.out _ _ ?_ (fun hHeld2 => ?_)
          · exact HZ.out _ Hw6.out
          clear hK K hHeld
          have hHeld := hHeld2
          clear hHeld2
          refine wpAnyH_ready (rs := [5]) (by kernel_rfl) (by simp) ?_
          refine AllReadyH.cons rfl (fun K hK => ?_) AllReadyH.nil
          go_simp
          refine hK.out _ _ ?_ (fun hHeld2 => ?_)
          · exact HZ.out _ (Hw6.out.alloc Hw6.out.size _)
          clear hK K hHeld
          have hHeld := hHeld2
          clear hHeld2
          refine wpAnyH_ready (rs := [6]) (by kernel_rfl) (by simp) ?_
          refine AllReadyH.cons rfl (fun K hK => ?_) AllReadyH.nil
          go_simp
          refine hK.out _ _ ?_ (fun hHeld2 => ?_)
          · exact HZ.out _ (Hw6.out.alloc Hw6.out.size _)
          clear hK K hHeld
          have hHeld := hHeld2
          clear hHeld2
          refine wpAnyH_done (by kernel_rfl) ?_ _
          have FV : Hid (Below wA.heap.size wA (w6.alloc (.cells #[.int .i64 d.k, .string d.m, .bool d.has, .string d.v, .slice oa d.n cap, .int .i64 d.ver, .int .i64 d.chg, .int .i64 d.own, .int .i64 d.sin] 40)) ∧ ∃ lo hi oa' kb cap', SV (w6.alloc (.cells #[.int .i64 d.k, .string d.m, .bool d.has, .string d.v, .slice oa d.n cap, .int .i64 d.ver, .int .i64 d.chg, .int .i64 d.own, .int .i64 d.sin] 40)) wA.heap.size (w6.alloc (.cells #[.int .i64 d.k, .string d.m, .bool d.has, .string d.v, .slice oa d.n cap, .int .i64 d.ver, .int .i64 d.chg, .int .i64 d.own, .int .i64 d.sin] 40)).heap.size w6.heap.size lo hi oa' kb cap' d) := ⟨Hw6.out.alloc Hw6.out.size _, _, _, oa, kb, cap, sv_late T6.out (by exact Hw5.out.size) Hw6.out.size⟩
          go_wp2
          go_meet
          case rel => exact ⟨w6.heap.size, rfl, FV.out.1, FV.out.2⟩
        · go_simp
          refine hK.out _ _ ?_ (fun hHeld2 => ?_)
          · exact HZ.out _ (Hw5.out.alloc Hw5.out.size _)
          clear hK K hHeld
          have hHeld := hHeld2
          clear hHeld2
          refine wpAnyH_ready (rs := [4]) (by kernel_rfl) (by simp) ?_
          refine AllReadyH.cons rfl (fun K hK => ?_) AllReadyH.nil
          go_simp
          go_wp2_with (go_at_call 16; refine (CS.out w5 _ b4 p4 _ _ T5 (bel1 _ _)).mono ?_; rintro e w6 ⟨oa, cap, kb, rfl, T6, Jw6, Kw6⟩; unfold sdl)
          have Hw6 : Hid (Below wA.heap.size wA w6) := Hw5.out.trans (Jw6.out.mono Hw5.out.size)
          have Qw6 : Hid (w6.rowIs w5.heap.size 40 9 (v9 (.int .i64 0) (.string ⟨#[]⟩) (.bool false) (.string ⟨#[]⟩) (.slice none 0 0) (.int .i64 0) (.int .i64 0) (.int .i64 0) (.int .i64 0))) := (row9 w5 (.int .i64 0) (.string ⟨#[]⟩) (.bool false) (.string ⟨#[]⟩) (.slice none 0 0) (.int .i64 0) (.int .i64 0) (.int .i64 0) (.int .i64 0) 40).of_block (Kw6.out.block _ (by simp))
          refine hK.out _ _ ?_ (fun hHeld2 => ?_)
          · exact HZ.out _ Hw6.out
          clear hK K hHeld
          have hHeld := hHeld2
          clear hHeld2
          obtain ⟨m0, m1, m2, m3, m4, m5, m6, m7, m8⟩ := nine_cells Qw6.out
          obtain ⟨l0, l1, l2, l3, l4, l5, l6, l7, l8⟩ := nine_frozen Qw6.out
          refine wpAnyH_ready (rs := [6]) (by kernel_rfl) (by simp) ?_
          refine AllReadyH.cons rfl (fun K hK => ?_) AllReadyH.nil
          go_simp
          clear m0 m1 m2 m3 m4 m5 m6 m7 m8 l0 l1 l2 l3 l4 l5 l6 l7 l8
          refine hK.out _ _ ?_ (fun hHeld2 => ?_)
          · exact HZ.out _ (((((((((Hw6.out.setCell (by exact Hw5.out.size) _).setCell (by exact Hw5.out.size) _).setCell (by exact Hw5.out.size) _).setCell (by exact Hw5.out.size) _).setCell (by exact Hw5.out.size) _).setCell (by exact Hw5.out.size) _).setCell (by exact Hw5.out.size) _).setCell (by exact Hw5.out.size) _).setCell (by exact Hw5.out.size) _)
          clear hK K hHeld
          have hHeld := hHeld2
          clear hHeld2
          refine wpAnyH_done (by kernel_rfl) ?_ _
          have FV : Hid (Below wA.heap.size wA (putSlot w6 w5.heap.size 0 ⟨oa, kb, 0, cap⟩ d) ∧ ∃ lo hi oa' kb cap', SV (putSlot w6 w5.heap.size 0 ⟨oa, kb, 0, cap⟩ d) wA.heap.size (putSlot w6 w5.heap.size 0 ⟨oa, kb, 0, cap⟩ d).heap.size w5.heap.size lo hi oa' kb cap' d) := ⟨putSlot_below Hw6.out (by exact Hw5.out.size), _, _, oa, kb, cap, sv_early Qw6.out T6.out (by exact Hw5.out.size) (by simp)⟩
          unfold putSlot at FV
          go_wp2
          go_meet
          case rel => exact ⟨w5.heap.size, rfl, FV.out.1, FV.out.2⟩
      · go_simp
        refine hK.out _ _ ?_ (fun hHeld2 => ?_)
        · exact HZ.out _ (Hw4.out.alloc Hw4.out.size _)
        clear hK K hHeld
        have hHeld := hHeld2
        clear hHeld2
        refine wpAnyH_ready (rs := [3]) (by kernel_rfl) (by simp) ?_
        refine AllReadyH.cons rfl (fun K hK => ?_) AllReadyH.nil
        go_simp
        go_wp2_with (go_at_call 17; refine (C17.out w4 _ (bel1 _ _)).mono ?_; rintro e w5 ⟨rfl, Jw5, Kw5⟩; have T5 : Hid (TabNew w5 _ _ (some ⟨b4, 0, none⟩) b4 n p4 D) := T4.out.below Jw5.out)
        have Hw5 : Hid (Below wA.heap.size wA w5) := Hw4.out.trans (Jw5.out.mono Hw4.out.size)
        have Qw5 : Hid (w5.rowIs w4.heap.size 40 9 (v9 (.int .i64 0) (.string ⟨#[]⟩) (.bool false) (.string ⟨#[]⟩) (.slice none 0 0) (.int .i64 0) (.int .i64 0) (.int .i64 0) (.int .i64 0))) := (row9 w4 (.int .i64 0) (.string ⟨#[]⟩) (.bool false) (.string ⟨#[]⟩) (.slice none 0 0) (.int .i64 0) (.int .i64 0) (.int .i64 0) (.int .i64 0) 40).of_block (Kw5.out.block _ (by simp))
        refine hK.out _ _ ?_ (fun hHeld2 => ?_)
        · exact HZ.out _ Hw5.out
        clear hK K hHeld
        have hHeld := hHeld2
        clear hHeld2
        refine wpAnyH_ready (rs := [4]) (by kernel_rfl) (by simp) ?_
        refine AllReadyH.cons rfl (fun K hK => ?_) AllReadyH.nil
        go_simp
        go_wp2_with (go_at_call 16; refine (CS.out w5 _ b4 p4 _ _ T5 (Below.refl _ _)).mono ?_; rintro e w6 ⟨oa, cap, kb, rfl, T6, Jw6, Kw6⟩; unfold sdl)
        have Hw6 : Hid (Below wA.heap.size wA w6) := Hw5.out.trans (Jw6.out.mono Hw5.out.size)
        have Qw6 : Hid (w6.rowIs w4.heap.size 40 9 (v9 (.int .i64 0) (.string ⟨#[]⟩) (.bool false) (.string ⟨#[]⟩) (.slice none 0 0) (.int .i64 0) (.int .i64 0) (.int .i64 0) (.int .i64 0))) := Qw5.out.of_block (Kw6.out.block _ Qw5.out.lt)
        refine hK.out _ _ ?_ (fun hHeld2 => ?_)
        · exact HZ.out _ Hw6.out
        clear hK K hHeld
        have hHeld := hHeld2
        clear hHeld2
        obtain ⟨m0, m1, m2, m3, m4, m5, m6, m7, m8⟩ := nine_cells Qw6.out
        obtain ⟨l0, l1, l2, l3, l4, l5, l6, l7, l8⟩ := nine_frozen Qw6.out
        refine wpAnyH_ready (rs := [6]) (by kernel_rfl) (by simp) ?_
        refine AllReadyH.cons rfl (fun K hK => ?_) AllReadyH.nil
        go_simp
        clear m0 m1 m2 m3 m4 m5 m6 m7 m8 l0 l1 l2 l3 l4 l5 l6 l7 l8
        refine hK.out _ _ ?_ (fun hHeld2 => ?_)
        · exact HZ.out _ (((((((((Hw6.out.setCell (by exact Hw4.out.size) _).setCell (by exact Hw4.out.size) _).setCell (by exact Hw4.out.size) _).setCell (by exact Hw4.out.size) _).setCell (by exact Hw4.out.size) _).setCell (by exact Hw4.out.size) _).setCell (by exact Hw4.out.size) _).setCell (by exact Hw4.out.size) _).setCell (by exact Hw4.out.size) _)
        clear hK K hHeld
        have hHeld := hHeld2
        clear hHeld2
        refine wpAnyH_done (by kernel_rfl) ?_ _
        have FV : Hid (Below wA.heap.size wA (putSlot w6 w4.heap.size 0 ⟨oa, kb, 0, cap⟩ d) ∧ ∃ lo hi oa' kb cap', SV (putSlot w6 w4.heap.size 0 ⟨oa, kb, 0, cap⟩ d) wA.heap.size (putSlot w6 w4.heap.size 0 ⟨oa, kb, 0, cap⟩ d).heap.size w4.heap.size lo hi oa' kb cap' d) := ⟨putSlot_below Hw6.out (by exact Hw4.out.size), _, _, oa, kb, cap, sv_early Qw6.out T6.out (by exact Hw4.out.size) (Qw5.out.lt)⟩
        unfold putSlot at FV
        go_wp2
        go_meet
        case rel => exact ⟨w4.heap.size, rfl, FV.out.1, FV.out.2⟩
    · go_simp
      refine hK.out _ _ ?_ (fun hHeld2 => ?_)
      · exact HZ.out _ ((bel1 _ _).drew)
      clear hK K hHeld
      have hHeld := hHeld2
      clear hHeld2
      refine wpAnyH_ready (rs := [1]) (by kernel_rfl) (by simp) ?_
      refine AllReadyH.cons rfl (fun K hK => ?_) AllReadyH.nil
      go_simp
      go_wp2_with (go_at_call 10; refine (CT.out _ (bel1 _ _).drew).mono ?_; rintro e w4 ⟨b4, p4, rfl, T4, Jw4, Kw4⟩)
      have Hw4 : Hid (Below wA.heap.size wA w4) := Jw4.out
      have Qw4 : Hid (w4.rowIs wA.heap.size 40 9 (v9 (.int .i64 0) (.string ⟨#[]⟩) (.bool false) (.string ⟨#[]⟩) (.slice none 0 0) (.int .i64 0) (.int .i64 0) (.int .i64 0) (.int .i64 0))) := (row9 wA (.int .i64 0) (.string ⟨#[]⟩) (.bool false) (.string ⟨#[]⟩) (.slice none 0 0) (.int .i64 0) (.int .i64 0) (.int .i64 0) (.int .i64 0) 40).of_block (Kw4.out.block _ (by simp))
      refine hK.out _ _ ?_ (fun hHeld2 => ?_)
      · exact HZ.out _ Hw4.out
      clear hK K hHeld
      have hHeld := hHeld2
      clear hHeld2
      refine wpAnyH_ready (rs := [3]) (by kernel_rfl) (by simp) ?_
      refine AllReadyH.cons rfl (fun K hK => ?_) AllReadyH.nil
      go_simp
      go_wp2_with (go_at_call 17; refine (C17.out w4 _ (Below.refl _ _)).mono ?_; rintro e w5 ⟨rfl, Jw5, Kw5⟩; have T5 : Hid (TabNew w5 _ _ (some ⟨b4, 0, none⟩) b4 n p4 D) := T4.out.below Jw5.out)
      have Hw5 : Hid (Below wA.heap.size wA w5) := Hw4.out.trans (Jw5.out.mono Hw4.out.size)
      have Qw5 : Hid (w5.rowIs wA.heap.size 40 9 (v9 (.int .i64 0) (.string ⟨#[]⟩) (.bool false) (.string ⟨#[]⟩) (.slice none 0 0) (.int .i64 0) (.int .i64 0) (.int .i64 0) (.int .i64 0))) := Qw4.out.of_block (Kw5.out.block _ Qw4.out.lt)
      refine hK.out _ _ ?_ (fun hHeld2 => ?_)
      · exact HZ.out _ Hw5.out
      clear hK K hHeld
      have hHeld := hHeld2
      clear hHeld2
      refine wpAnyH_ready (rs := [4]) (by kernel_rfl) (by simp) ?_
      refine AllReadyH.cons rfl (fun K hK => ?_) AllReadyH.nil
      go_simp
      go_wp2_with (go_at_call 16; refine (CS.out w5 _ b4 p4 _ _ T5 (Below.refl _ _)).mono ?_; rintro e w6 ⟨oa, cap, kb, rfl, T6, Jw6, Kw6⟩; unfold sdl)
      have Hw6 : Hid (Below wA.heap.size wA w6) := Hw5.out.trans (Jw6.out.mono Hw5.out.size)
      have Qw6 : Hid (w6.rowIs wA.heap.size 40 9 (v9 (.int .i64 0) (.string ⟨#[]⟩) (.bool false) (.string ⟨#[]⟩) (.slice none 0 0) (.int .i64 0) (.int .i64 0) (.int .i64 0) (.int .i64 0))) := Qw5.out.of_block (Kw6.out.block _ Qw5.out.lt)
      refine hK.out _ _ ?_ (fun hHeld2 => ?_)
      · exact HZ.out _ Hw6.out
      clear hK K hHeld
      have hHeld := hHeld2
      clear hHeld2
      obtain ⟨m0, m1, m2, m3, m4, m5, m6, m7, m8⟩ := nine_cells Qw6.out
      obtain ⟨l0, l1, l2, l3, l4, l5, l6, l7, l8⟩ := nine_frozen Qw6.out
      refine wpAnyH_ready (rs := [6]) (by kernel_rfl) (by simp) ?_
      refine AllReadyH.cons rfl (fun K hK => ?_) AllReadyH.nil
      go_simp
      clear m0 m1 m2 m3 m4 m5 m6 m7 m8 l0 l1 l2 l3 l4 l5 l6 l7 l8
      refine hK.out _ _ ?_ (fun hHeld2 => ?_)
      · exact HZ.out _ (((((((((Hw6.out.setCell (by exact Nat.le_refl _) _).setCell (by exact Nat.le_refl _) _).setCell (by exact Nat.le_refl _) _).setCell (by exact Nat.le_refl _) _).setCell (by exact Nat.le_refl _) _).setCell (by exact Nat.le_refl _) _).setCell (by exact Nat.le_refl _) _).setCell (by exact Nat.le_refl _) _).setCell (by exact Nat.le_refl _) _)
      clear hK K hHeld
      have hHeld := hHeld2
      clear hHeld2
      refine wpAnyH_done (by kernel_rfl) ?_ _
      have FV : Hid (Below wA.heap.size wA (putSlot w6 wA.heap.size 0 ⟨oa, kb, 0, cap⟩ d) ∧ ∃ lo hi oa' kb cap', SV (putSlot w6 wA.heap.size 0 ⟨oa, kb, 0, cap⟩ d) wA.heap.size (putSlot w6 wA.heap.size 0 ⟨oa, kb, 0, cap⟩ d).heap.size wA.heap.size lo hi oa' kb cap' d) := ⟨putSlot_below Hw6.out (by exact Nat.le_refl _), _, _, oa, kb, cap, sv_early Qw6.out T6.out (by exact Nat.le_refl _) (Qw5.out.lt)⟩
      unfold putSlot at FV
      go_wp2
      go_meet
      case rel => exact ⟨wA.heap.size, rfl, FV.out.1, FV.out.2⟩
  case rest =>
    obtain ⟨x1, rfl, HC1, HV1⟩ := hcut
    have XC : Hid (LB w wc ao n c k m) := XA.out.below HC1.out
    obtain ⟨lo1, hi1, oa1, kb1, ca1, V1'⟩ := HV1.out
    have V1 : Hid (SV wc wA.heap.size wc.heap.size x1 lo1 hi1 oa1 kb1 ca1 d) := V1'
    obtain ⟨top1, htop1⟩ : ∃ top1, top1 = wc.heap.size := ⟨_, rfl⟩
    have htA : w.heap.size + 1 < wA.heap.size := XA.out.k.lt
    have htC := HC1.out.size
    rw [← htop1] at V1
    clear V1' HV1 HC1 HZ CT
    obtain ⟨t1, u1, v1⟩ := XC.out.cells
    go_wp2_with fail
    refine (C10.out wc _ (Below.refl _ _) XC.out.b).mono ?_
    rintro e w7 ⟨b7, p7, rfl, T7, J7, -⟩
    obtain ⟨wB, hwB⟩ : ∃ wB, wB = w7.alloc (.cells #[.slice (some ⟨b7, 0, none⟩) n n] 28) := ⟨_, rfl⟩
    obtain ⟨x2, hx2⟩ : ∃ x2, x2 = w7.heap.size := ⟨_, rfl⟩
    have JB : Hid (Below wc.heap.size wc wB) := by rw [hwB]; exact J7.out.alloc J7.out.size _
    have V2 : Hid (∃ lo2 hi2, TV wB wc.heap.size wB.heap.size x2 lo2 hi2 (some ⟨b7, 0, none⟩) b7 n n p7 D) := by
      rw [hwB, hx2]; exact ⟨_, _, tv_late (w0 := wc) T7.out (Nat.le_refl _) J7.out.size⟩
    have XB : Hid (LB w wB ao n c k m) := XC.out.below JB.out
    obtain ⟨lo2, hi2, V2'⟩ := V2.out
    have V2 : Hid (TV wB wc.heap.size wB.heap.size x2 lo2 hi2 (some ⟨b7, 0, none⟩) b7 n n p7 D) := V2'
    have TX : Hid (TabNew wB lo2 hi2 (some ⟨b7, 0, none⟩) b7 n p7 D) := V2'.tab
    have V1B : Hid (SV wB wA.heap.size top1 x1 lo1 hi1 oa1 kb1 ca1 d) := V1.out.below JB.out
    have htB := JB.out.size
    clear t1 u1 v1 V2' T7 J7 V1
    go_wp2_with fail
    rw [← hwB, ← hx2]
    clear hwB hx2
    have HZ : Hid (∀ W, Below wB.heap.size wB W → W.cell? ⟨x2, 0, none⟩ = some (.slice (some ⟨b7, 0, none⟩) n n) ∧ W.cell? ⟨w.heap.size, 0, none⟩ = some (.slice ao n c) ∧ W.cell? ⟨w.heap.size + 1, 0, none⟩ = some (.int .i64 k) ∧ W.cell? ⟨w.heap.size + 1, 1, none⟩ = some (.string m)) := fun W hW => ⟨(V2.out.below hW).row.cell (i := 0) (by omega), (XB.out.below hW).cells⟩
    obtain ⟨wD, hwD⟩ : ∃ wD, wD = wc := ⟨_, rfl⟩
    rw [← hwD] at V2 JB XC htC htB
    have htop1' : top1 = wD.heap.size := by rw [htop1, hwD]
    clear htop1 hwD
    go_cut [8] (fun s6 wc => ∃ xb : Nat, s6 = .pointer (some ⟨xb, 0, none⟩) ∧ Hid (Below wB.heap.size wB wc) ∧ Hid (∃ lo hi oa kb cap, SV wc wB.heap.size wc.heap.size xb lo hi oa kb cap d))
    case first =>
      refine wp_region_held_drew (S := (fun w' => w'.cell? ⟨x2, 0, none⟩ = some (.slice (some ⟨b7, 0, none⟩) n n) ∧ w'.cell? ⟨w.heap.size, 0, none⟩ = some (.slice ao n c) ∧ w'.cell? ⟨w.heap.size + 1, 0, none⟩ = some (.int .i64 k) ∧ w'.cell? ⟨w.heap.size + 1, 1, none⟩ = some (.string m))) (by kernel_rfl) ?_ (fun hHeld => ?_)
      · exact HZ.out _ (Below.refl _ _).drew
      refine wpAnyH_take (i := 0) (oi := ⟨some 30, _, _, _, _, _⟩) (v := ?_) rfl (by kernel_rfl) (by kernel_rfl) (by kernel_rfl) (fun _ _ _ h => h) (Or.inl ⟨by kernel_rfl, ?_⟩) (by assumption) ?_
      rotate_left
      · (intro wS hSw; (try dsimp only at hSw); (go_simp <;> with_reducible rfl))
      (try simp only [Act.put]); (try simp only [List.setIfInBounds_toArray]); (try simp only [List.set_cons_succ]); (try simp only [List.set_cons_zero])
      refine wpAnyH_take (i := 1) (oi := ⟨some 31, _, _, _, _, _⟩) (v := ?_) rfl (by kernel_rfl) (by kernel_rfl) (by kernel_rfl) (fun _ _ _ h => h) (Or.inl ⟨by kernel_rfl, ?_⟩) (by assumption) ?_
      rotate_left
      · (intro wS hSw; (try dsimp only at hSw); (go_simp <;> with_reducible rfl))
      (try simp only [Act.put]); (try simp only [List.setIfInBounds_toArray]); (try simp only [List.set_cons_succ]); (try simp only [List.set_cons_zero])
      refine wpAnyH_ready (rs := [2, 4]) (by kernel_rfl) (by simp) ?_
      refine AllReadyH.cons rfl (fun K hK => ?_) (AllReadyH.cons rfl (fun K hK => ?_) AllReadyH.nil)
      · go_simp
        go_wp2_with (go_at_call 17; refine (C17.out wB _ (Below.refl _ _).drew).mono ?_; rintro e w8 ⟨rfl, Jw8, Kw8⟩; have T5 : Hid (TabNew w8 _ _ (some ⟨b7, 0, none⟩) b7 n p7 D) := TX.out.below Jw8.out)
        have Hw8 : Hid (Below wB.heap.size wB w8) := Jw8.out
        refine hK.out _ _ ?_ (fun hHeld2 => ?_)
        · exact HZ.out _ Hw8.out
        clear hK K hHeld
        have hHeld := hHeld2
        clear hHeld2
        refine wpAnyH_ready (rs := [3, 4]) (by kernel_rfl) (by simp) ?_
        refine AllReadyH.cons rfl (fun K hK => ?_) (AllReadyH.cons rfl (fun K hK => ?_) AllReadyH.nil)
        · go_simp
          go_wp2_with (go_at_call 18; refine (CI.out w8 _ b7 p7 _ _ T5 (Below.refl _ _)).mono ?_; rintro e w9 ⟨oa, cap, kb, rfl, T6, Jw9, Kw9⟩; unfold sdl)
          have Hw9 : Hid (Below wB.heap.size wB w9) := Hw8.out.trans (Jw9.out.mono Hw8.out.size)
          refine hK.out _ _ ?_ (fun hHeld2 => ?_)
          · exact HZ.out _ Hw9.out
          clear hK K hHeld
          have hHeld := hHeld2
          clear hHeld2
          refine wpAnyH_ready (rs := [4]) (by kernel_rfl) (by simp) ?_
          refine AllReadyH.cons rfl (fun K hK => ?_) AllReadyH.nil
          go_simp
          refine hK.out _ _ ?_ (fun hHeld2 => ?_)
          · exact HZ.out _ (Hw9.out.alloc Hw9.out.size _)
          clear hK K hHeld
          have hHeld := hHeld2
          clear hHeld2
          refine wpAnyH_ready (rs := [5]) (by kernel_rfl) (by simp) ?_
          refine AllReadyH.cons rfl (fun K hK => ?_) AllReadyH.nil
          go_simp
          refine hK.out _ _ ?_ (fun hHeld2 => ?_)
          · exact HZ.out _ (Hw9.out.alloc Hw9.out.size _)
          clear hK K hHeld
          have hHeld := hHeld2
          clear hHeld2
          refine wpAnyH_done (by kernel_rfl) ?_ _
          have FV : Hid (Below wB.heap.size wB (w9.alloc (.cells #[.int .i64 d.k, .string d.m, .bool d.has, .string d.v, .slice oa d.n cap, .int .i64 d.ver, .int .i64 d.chg, .int .i64 d.own, .int .i64 d.sin] 40)) ∧ ∃ lo hi oa' kb cap', SV (w9.alloc (.cells #[.int .i64 d.k, .string d.m, .bool d.has, .string d.v, .slice oa d.n cap, .int .i64 d.ver, .int .i64 d.chg, .int .i64 d.own, .int .i64 d.sin] 40)) wB.heap.size (w9.alloc (.cells #[.int .i64 d.k, .string d.m, .bool d.has, .string d.v, .slice oa d.n cap, .int .i64 d.ver, .int .i64 d.chg, .int .i64 d.own, .int .i64 d.sin] 40)).heap.size w9.heap.size lo hi oa' kb cap' d) := ⟨Hw9.out.alloc Hw9.out.size _, _, _, oa, kb, cap, sv_late T6.out (by exact Hw8.out.size) Hw9.out.size⟩
          go_wp2
          go_meet
          case rel => exact ⟨w9.heap.size, rfl, FV.out.1, FV.out.2⟩
        · go_simp
          refine hK.out _ _ ?_ (fun hHeld2 => ?_)
          · exact HZ.out _ (Hw8.out.alloc Hw8.out.size _)
          clear hK K hHeld
          have hHeld := hHeld2
          clear hHeld2
          refine wpAnyH_ready (rs := [3]) (by kernel_rfl) (by simp) ?_
          refine AllReadyH.cons rfl (fun K hK => ?_) AllReadyH.nil
          go_simp
          go_wp2_with (go_at_call 18; refine (CI.out w8 _ b7 p7 _ _ T5 (bel1 _ _)).mono ?_; rintro e w9 ⟨oa, cap, kb, rfl, T6, Jw9, Kw9⟩; unfold sdl)
          have Hw9 : Hid (Below wB.heap.size wB w9) := Hw8.out.trans (Jw9.out.mono Hw8.out.size)
          have Qw9 : Hid (w9.rowIs w8.heap.size 40 9 (v9 (.int .i64 0) (.string ⟨#[]⟩) (.bool false) (.string ⟨#[]⟩) (.slice none 0 0) (.int .i64 0) (.int .i64 0) (.int .i64 0) (.int .i64 0))) := (row9 w8 (.int .i64 0) (.string ⟨#[]⟩) (.bool false) (.string ⟨#[]⟩) (.slice none 0 0) (.int .i64 0) (.int .i64 0) (.int .i64 0) (.int .i64 0) 40).of_block (Kw9.out.block _ (by simp))
          refine hK.out _ _ ?_ (fun hHeld2 => ?_)
          · exact HZ.out _ Hw9.out
          clear hK K hHeld
          have hHeld := hHeld2
          clear hHeld2
          obtain ⟨m0, m1, m2, m3, m4, m5, m6, m7, m8⟩ := nine_cells Qw9.out
          obtain ⟨l0, l1, l2, l3, l4, l5, l6, l7, l8⟩ := nine_frozen Qw9.out
          refine wpAnyH_ready (rs := [5]) (by kernel_rfl) (by simp) ?_
          refine AllReadyH.cons rfl (fun K hK => ?_) AllReadyH.nil
          go_simp
          clear m0 m1 m2 m3 m4 m5 m6 m7 m8 l0 l1 l2 l3 l4 l5 l6 l7 l8
          refine hK.out _ _ ?_ (fun hHeld2 => ?_)
          · exact HZ.out _ (((((((((Hw9.out.setCell (by exact Hw8.out.size) _).setCell (by exact Hw8.out.size) _).setCell (by exact Hw8.out.size) _).setCell (by exact Hw8.out.size) _).setCell (by exact Hw8.out.size) _).setCell (by exact Hw8.out.size) _).setCell (by exact Hw8.out.size) _).setCell (by exact Hw8.out.size) _).setCell (by exact Hw8.out.size) _)
          clear hK K hHeld
          have hHeld := hHeld2
          clear hHeld2
          refine wpAnyH_done (by kernel_rfl) ?_ _
          have FV : Hid (Below wB.heap.size wB (putSlot w9 w8.heap.size 0 ⟨oa, kb, 0, cap⟩ d) ∧ ∃ lo hi oa' kb cap', SV (putSlot w9 w8.heap.size 0 ⟨oa, kb, 0, cap⟩ d) wB.heap.size (putSlot w9 w8.heap.size 0 ⟨oa, kb, 0, cap⟩ d).heap.size w8.heap.size lo hi oa' kb cap' d) := ⟨putSlot_below Hw9.out (by exact Hw8.out.size), _, _, oa, kb, cap, sv_early Qw9.out T6.out (by exact Hw8.out.size) (by simp)⟩
          unfold putSlot at FV
          go_wp2
          go_meet
          case rel => exact ⟨w8.heap.size, rfl, FV.out.1, FV.out.2⟩
      · go_simp
        refine hK.out _ _ ?_ (fun hHeld2 => ?_)
        · exact HZ.out _ ((bel1 _ _).drew)
        clear hK K hHeld
        have hHeld := hHeld2
        clear hHeld2
        refine wpAnyH_ready (rs := [2]) (by kernel_rfl) (by simp) ?_
        refine AllReadyH.cons rfl (fun K hK => ?_) AllReadyH.nil
        go_simp
        go_wp2_with (go_at_call 17; refine (C17.out wB _ (bel1 _ _).drew).mono ?_; rintro e w8 ⟨rfl, Jw8, Kw8⟩; have T5 : Hid (TabNew w8 _ _ (some ⟨b7, 0, none⟩) b7 n p7 D) := TX.out.below Jw8.out)
        have Hw8 : Hid (Below wB.heap.size wB w8) := Jw8.out
        have Qw8 : Hid (w8.rowIs wB.heap.size 40 9 (v9 (.int .i64 0) (.string ⟨#[]⟩) (.bool false) (.string ⟨#[]⟩) (.slice none 0 0) (.int .i64 0) (.int .i64 0) (.int .i64 0) (.int .i64 0))) := (row9 wB (.int .i64 0) (.string ⟨#[]⟩) (.bool false) (.string ⟨#[]⟩) (.slice none 0 0) (.int .i64 0) (.int .i64 0) (.int .i64 0) (.int .i64 0) 40).of_block (Kw8.out.block _ (by simp))
        refine hK.out _ _ ?_ (fun hHeld2 => ?_)
        · exact HZ.out _ Hw8.out
        clear hK K hHeld
        have hHeld := hHeld2
        clear hHeld2
        refine wpAnyH_ready (rs := [3]) (by kernel_rfl) (by simp) ?_
        refine AllReadyH.cons rfl (fun K hK => ?_) AllReadyH.nil
        go_simp
        go_wp2_with (go_at_call 18; refine (CI.out w8 _ b7 p7 _ _ T5 (Below.refl _ _)).mono ?_; rintro e w9 ⟨oa, cap, kb, rfl, T6, Jw9, Kw9⟩; unfold sdl)
        have Hw9 : Hid (Below wB.heap.size wB w9) := Hw8.out.trans (Jw9.out.mono Hw8.out.size)
        have Qw9 : Hid (w9.rowIs wB.heap.size 40 9 (v9 (.int .i64 0) (.string ⟨#[]⟩) (.bool false) (.string ⟨#[]⟩) (.slice none 0 0) (.int .i64 0) (.int .i64 0) (.int .i64 0) (.int .i64 0))) := Qw8.out.of_block (Kw9.out.block _ Qw8.out.lt)
        refine hK.out _ _ ?_ (fun hHeld2 => ?_)
        · exact HZ.out _ Hw9.out
        clear hK K hHeld
        have hHeld := hHeld2
        clear hHeld2
        obtain ⟨m0, m1, m2, m3, m4, m5, m6, m7, m8⟩ := nine_cells Qw9.out
        obtain ⟨l0, l1, l2, l3, l4, l5, l6, l7, l8⟩ := nine_frozen Qw9.out
        refine wpAnyH_ready (rs := [5]) (by kernel_rfl) (by simp) ?_
        refine AllReadyH.cons rfl (fun K hK => ?_) AllReadyH.nil
        go_simp
        clear m0 m1 m2 m3 m4 m5 m6 m7 m8 l0 l1 l2 l3 l4 l5 l6 l7 l8
        refine hK.out _ _ ?_ (fun hHeld2 => ?_)
        · exact HZ.out _ (((((((((Hw9.out.setCell (by exact Nat.le_refl _) _).setCell (by exact Nat.le_refl _) _).setCell (by exact Nat.le_refl _) _).setCell (by exact Nat.le_refl _) _).setCell (by exact Nat.le_refl _) _).setCell (by exact Nat.le_refl _) _).setCell (by exact Nat.le_refl _) _).setCell (by exact Nat.le_refl _) _).setCell (by exact Nat.le_refl _) _)
        clear hK K hHeld
        have hHeld := hHeld2
        clear hHeld2
        refine wpAnyH_done (by kernel_rfl) ?_ _
        have FV : Hid (Below wB.heap.size wB (putSlot w9 wB.heap.size 0 ⟨oa, kb, 0, cap⟩ d) ∧ ∃ lo hi oa' kb cap', SV (putSlot w9 wB.heap.size 0 ⟨oa, kb, 0, cap⟩ d) wB.heap.size (putSlot w9 wB.heap.size 0 ⟨oa, kb, 0, cap⟩ d).heap.size wB.heap.size lo hi oa' kb cap' d) := ⟨putSlot_below Hw9.out (by exact Nat.le_refl _), _, _, oa, kb, cap, sv_early Qw9.out T6.out (by exact Nat.le_refl _) (Qw8.out.lt)⟩
        unfold putSlot at FV
        go_wp2
        go_meet
        case rel => exact ⟨wB.heap.size, rfl, FV.out.1, FV.out.2⟩
    case rest =>
      obtain ⟨x3, rfl, HC3, HV3⟩ := hcut
      have XE : Hid (LB w wc ao n c k m) := XB.out.below HC3.out
      obtain ⟨lo3, hi3, oa3, kb3, ca3, V3'⟩ := HV3.out
      have V3 : Hid (SV wc wB.heap.size wc.heap.size x3 lo3 hi3 oa3 kb3 ca3 d) := V3'
      have V2E : Hid (TV wc wD.heap.size wB.heap.size x2 lo2 hi2 (some ⟨b7, 0, none⟩) b7 n n p7 D) := V2.out.below HC3.out
      have V1E : Hid (SV wc wA.heap.size top1 x1 lo1 hi1 oa1 kb1 ca1 d) := V1B.out.below HC3.out
      obtain ⟨top3, htop3⟩ : ∃ top3, top3 = wc.heap.size := ⟨_, rfl⟩
      have htE := HC3.out.size
      rw [← htop3] at V3
      clear V3' HV3 HC3 HZ TX V2 V1B XB JB
      obtain ⟨a0, a1, a2, a3, a4, a5, a6, a7, a8⟩ := nine_sc V3.out.row
      obtain ⟨e0, e1, e2, e3, e4, e5, e6, e7, e8⟩ := nine_sc V1E.out.row
      go_wp2_with fail
      refine (t_eqSlot V3.out V1E.out HDX.out.1).mono ?_
      rintro e wF ⟨rfl, hbF⟩
      have XF : Hid (LB w wF ao n c k m) := XE.out.below hbF
      have V1F : Hid (SV wF wA.heap.size top1 x1 lo1 hi1 oa1 kb1 ca1 d) := V1E.out.below hbF
      have V2F : Hid (TV wF wD.heap.size wB.heap.size x2 lo2 hi2 (some ⟨b7, 0, none⟩) b7 n n p7 D) := V2E.out.below hbF
      have V3F : Hid (SV wF wB.heap.size top3 x3 lo3 hi3 oa3 kb3 ca3 d) := V3.out.below hbF
      clear hbF a0 a1 a2 a3 a4 a5 a6 a7 a8 e0 e1 e2 e3 e4 e5 e6 e7 e8 XE V1E V2E V3
      obtain ⟨t1, u1, v1⟩ := XF.out.cells
      have z2 := V2F.out.row.cell (i := 0) (by omega)
      go_wp2_with fail
      have CTF : Hid (∀ W, Below wF.heap.size wF W → Calls Try.prog 10 #[.agg #[.slice ao n c]] W fun e w' => ∃ b' p', e = .returned (.agg #[.slice (some ⟨b', 0, none⟩) n n]) ∧ Hid (TabNew w' W.heap.size w'.heap.size (some ⟨b', 0, none⟩) b' n p' D) ∧ Hid (Below wF.heap.size wF w')) := fun W hW => (C10.out wF W hW XF.out.b).mono fun e w' ⟨b', p', he, hT, hb, _⟩ => ⟨b', p', he, hT, hb⟩
      have CEF : Hid (∀ W b' p' lo hi, Hid (TabNew W lo hi (some ⟨b', 0, none⟩) b' n p' D) → Hid (Below wF.heap.size wF W) → Calls Try.prog 12 #[.agg #[.slice (some ⟨b7, 0, none⟩) n n], .agg #[.slice (some ⟨b', 0, none⟩) n n]] W fun e w' => e = .returned (.bool true) ∧ Hid (Below wF.heap.size wF w')) := fun W b' p' lo hi hT hW => (t_eqTable (some ⟨b7, 0, none⟩) (some ⟨b', 0, none⟩) b7 n b' n n lo2 hi2 lo hi p7 p' D W (V2F.out.below hW.out).tab hT.out HF0.out (by omega)).mono fun e w' ⟨he, hb⟩ => ⟨he, hW.out.trans (hb.mono hW.out.size)⟩
      have HZ : Hid (∀ W, Below wF.heap.size wF W → W.cell? ⟨x2, 0, none⟩ = some (.slice (some ⟨b7, 0, none⟩) n n) ∧ W.cell? ⟨w.heap.size, 0, none⟩ = some (.slice ao n c)) := fun W hW => ⟨(V2F.out.below hW).row.cell (i := 0) (by omega), (XF.out.below hW).cells.1⟩
      go_region_held3 (fun w' => w'.cell? ⟨x2, 0, none⟩ = some (.slice (some ⟨b7, 0, none⟩) n n) ∧ w'.cell? ⟨w.heap.size, 0, none⟩ = some (.slice ao n c)) (go_keep)
        (first
          | (go_at_call 10; (with_reducible refine (CTF.out _ (Below.refl _ _).drew).mono ?_); rintro e wG ⟨bG, pG, rfl, TG, HG1⟩; obtain ⟨y0, y1⟩ := HZ.out wG HG1.out)
          | (go_at_call 12; (with_reducible refine (CEF.out _ bG pG _ _ TG HG1).mono ?_); rintro e wH ⟨rfl, HH1⟩; obtain ⟨y2, y3⟩ := HZ.out wH HH1.out))
      have XH : Hid (LB w wH ao n c k m) := XF.out.below HH1.out
      have V1H : Hid (SV wH wA.heap.size top1 x1 lo1 hi1 oa1 kb1 ca1 d) := V1F.out.below HH1.out
      have V2H : Hid (TV wH wD.heap.size wB.heap.size x2 lo2 hi2 (some ⟨b7, 0, none⟩) b7 n n p7 D) := V2F.out.below HH1.out
      have V3H : Hid (SV wH wB.heap.size top3 x3 lo3 hi3 oa3 kb3 ca3 d) := V3F.out.below HH1.out
      clear y0 y1 y2 y3 t1 u1 v1 z2 HZ CTF CEF TG HG1 HH1 XF V1F V2F V3F
      have z2 := V2H.out.row.cell (i := 0) (by omega)
      go_wp2_with fail
      refine (t_markTable lo2 hi2 _ b7 n n p7 D 1 _ V2H.out.tab (by omega) (by omega) hn HG.out).mono ?_
      rintro e wI ⟨rfl, -, SI⟩
      have hl2 := V2H.out.l1
      have hh2 := V2H.out.h1
      have hl3 := V3H.out.l1
      have hh3 := V3H.out.h1
      have XI : Hid (LB w wI ao n c k m) := XH.out.span SI (by omega)
      have V1I : Hid (SV wI wA.heap.size top1 x1 lo1 hi1 oa1 kb1 ca1 d) := V1H.out.span SI (Or.inl (by omega))
      have V3I : Hid (SV wI wB.heap.size top3 x3 lo3 hi3 oa3 kb3 ca3 d) := V3H.out.span SI (Or.inr (by omega))
      clear SI XH V1H V2H V3H z2
      obtain ⟨a0, a1, a2, a3, a4, a5, a6, a7, a8⟩ := nine_sc V3I.out.row
      obtain ⟨e0, e1, e2, e3, e4, e5, e6, e7, e8⟩ := nine_sc V1I.out.row
      obtain ⟨q1, hq1⟩ : ∃ q : Nat, q = cnt 1 D n := ⟨_, rfl⟩
      rw [← hq1]
      have hq1n : ¬ (q1 : Int) < 0 := by omega
      clear hq1
      go_wp2_with fail
      refine (t_eqSlot V3I.out V1I.out HDX.out.1).mono ?_
      rintro e wJ ⟨rfl, hbJ⟩
      have XJ : Hid (LB w wJ ao n c k m) := XI.out.below hbJ
      have V1J : Hid (SV wJ wA.heap.size top1 x1 lo1 hi1 oa1 kb1 ca1 d) := V1I.out.below hbJ
      have V3J : Hid (SV wJ wB.heap.size top3 x3 lo3 hi3 oa3 kb3 ca3 d) := V3I.out.below hbJ
      clear hbJ XI V1I V3I a0 a1 a2 a3 a4 a5 a6 a7 a8 e0 e1 e2 e3 e4 e5 e6 e7 e8
      obtain ⟨a0, a1, a2, a3, a4, a5, a6, a7, a8⟩ := nine_sc V3J.out.row
      go_wp2_with fail
      refine (t_markSlot lo3 hi3 kb3 d oa3 ca3 1 _ V3J.out.keys (by omega) (by omega) HDX.out.2).mono ?_
      rintro e wK ⟨rfl, TK, SK⟩
      have XK : Hid (LB w wK ao n c k m) := XJ.out.span SK (by omega)
      have V1K : Hid (SV wK wA.heap.size top1 x1 lo1 hi1 oa1 kb1 ca1 d) := V1J.out.span SK (Or.inl (by omega))
      have RK : Hid (wK.rowIs x3 40 9 (sc ⟨oa3, kb3, 0, ca3⟩ d) ∧ KeysNew wK lo3 hi3 oa3 kb3 d.n (mkK 1) (mkM 1)) := ⟨V3J.out.row.of_block (SK.block _ V3J.out.row.lt V3J.out.apart), TK⟩
      clear SK TK XJ V1J V3J a0 a1 a2 a3 a4 a5 a6 a7 a8
      obtain ⟨a0, a1, a2, a3, a4, a5, a6, a7, a8⟩ := nine_sc RK.out.1
      obtain ⟨q2, hq2⟩ : ∃ q : Nat, q = 1 + 2 * d.n := ⟨_, rfl⟩
      rw [← hq2]
      have HQ2 : Hid (q2 = 1 + 2 * d.n) := hq2
      clear hq2
      go_wp2_with fail
      refine (t_heldSlot lo3 hi3 kb3 d oa3 ca3 1 _ RK.out.2 (by omega) (by omega) HDX.out.2).mono ?_
      rintro e wL ⟨rfl, hbL⟩
      rw [← HQ2.out]
      have hq2n : ¬ (q2 : Int) < 0 := by omega
      have XL : Hid (LB w wL ao n c k m) := XK.out.below hbL
      have V1L : Hid (SV wL wA.heap.size top1 x1 lo1 hi1 oa1 kb1 ca1 d) := V1K.out.below hbL
      clear hbL XK V1K RK a0 a1 a2 a3 a4 a5 a6 a7 a8
      obtain ⟨t1, u1, v1⟩ := XL.out.cells
      go_wp2_with fail
      have HZ : Hid (∀ W, Below wL.heap.size wL W → W.cell? ⟨w.heap.size, 0, none⟩ = some (.slice ao n c) ∧ W.cell? ⟨w.heap.size + 1, 0, none⟩ = some (.int .i64 k) ∧ W.cell? ⟨w.heap.size + 1, 1, none⟩ = some (.string m)) := fun W hW => (XL.out.below hW).cells
      have CT : Hid (∀ W, Below wL.heap.size wL W → Calls Try.prog 10 #[.agg #[.slice ao n c]] W fun e w' => ∃ b' p', e = .returned (.agg #[.slice (some ⟨b', 0, none⟩) n n]) ∧ Hid (TabNew w' W.heap.size w'.heap.size (some ⟨b', 0, none⟩) b' n p' D) ∧ Hid (Below wL.heap.size wL w') ∧ Hid (Below W.heap.size W w')) := fun W hW => C10.out wL W hW XL.out.b
      clear t1 u1 v1
      go_cut [12] (fun s6 wc => ∃ xb : Nat, s6 = .pointer (some ⟨xb, 0, none⟩) ∧ Hid (Below wL.heap.size wL wc) ∧ Hid (∃ lo hi oa kb cap, SV wc wL.heap.size wc.heap.size xb lo hi oa kb cap d))
      case first =>
        refine wp_region_held_drew (S := (fun w' => w'.cell? ⟨w.heap.size, 0, none⟩ = some (.slice ao n c) ∧ w'.cell? ⟨w.heap.size + 1, 0, none⟩ = some (.int .i64 k) ∧ w'.cell? ⟨w.heap.size + 1, 1, none⟩ = some (.string m))) (by kernel_rfl) ?_ (fun hHeld => ?_)
        · exact HZ.out _ (Below.refl _ _).drew
        refine wpAnyH_take (i := 0) (oi := ⟨some 65, _, _, _, _, _⟩) (v := ?_) rfl (by kernel_rfl) (by kernel_rfl) (by kernel_rfl) (fun _ _ _ h => h) (Or.inl ⟨by kernel_rfl, ?_⟩) (by assumption) ?_
        rotate_left
        · (intro wS hSw; (try dsimp only at hSw); (go_simp <;> with_reducible rfl))
        (try simp only [Act.put]); (try simp only [List.setIfInBounds_toArray]); (try simp only [List.set_cons_succ]); (try simp only [List.set_cons_zero])
        refine wpAnyH_take (i := 2) (oi := ⟨some 67, _, _, _, _, _⟩) (v := ?_) rfl (by kernel_rfl) (by kernel_rfl) (by kernel_rfl) (fun _ _ _ h => h) (Or.inl ⟨by kernel_rfl, ?_⟩) (by assumption) ?_
        rotate_left
        · (intro wS hSw; (try dsimp only at hSw); (go_simp <;> with_reducible rfl))
        (try simp only [Act.put]); (try simp only [List.setIfInBounds_toArray]); (try simp only [List.set_cons_succ]); (try simp only [List.set_cons_zero])
        refine wpAnyH_ready (rs := [1, 5]) (by kernel_rfl) (by simp) ?_
        refine AllReadyH.cons rfl (fun K hK => ?_) (AllReadyH.cons rfl (fun K hK => ?_) AllReadyH.nil)
        · go_simp
          go_wp2_with (go_at_call 10; refine (CT.out _ (Below.refl _ _).drew).mono ?_; rintro e wM ⟨b4, p4, rfl, T4, JwM, KwM⟩)
          have HwM : Hid (Below wL.heap.size wL wM) := JwM.out
          refine hK.out _ _ ?_ (fun hHeld2 => ?_)
          · exact HZ.out _ HwM.out
          clear hK K hHeld
          have hHeld := hHeld2
          clear hHeld2
          refine wpAnyH_ready (rs := [3, 5]) (by kernel_rfl) (by simp) ?_
          refine AllReadyH.cons rfl (fun K hK => ?_) (AllReadyH.cons rfl (fun K hK => ?_) AllReadyH.nil)
          · go_simp
            go_wp2_with (go_at_call 17; refine (C17.out wM _ (Below.refl _ _)).mono ?_; rintro e wN ⟨rfl, JwN, KwN⟩; have T5 : Hid (TabNew wN _ _ (some ⟨b4, 0, none⟩) b4 n p4 D) := T4.out.below JwN.out)
            have HwN : Hid (Below wL.heap.size wL wN) := HwM.out.trans (JwN.out.mono HwM.out.size)
            refine hK.out _ _ ?_ (fun hHeld2 => ?_)
            · exact HZ.out _ HwN.out
            clear hK K hHeld
            have hHeld := hHeld2
            clear hHeld2
            refine wpAnyH_ready (rs := [4, 5]) (by kernel_rfl) (by simp) ?_
            refine AllReadyH.cons rfl (fun K hK => ?_) (AllReadyH.cons rfl (fun K hK => ?_) AllReadyH.nil)
            · go_simp
              go_wp2_with (go_at_call 18; refine (CI.out wN _ b4 p4 _ _ T5 (Below.refl _ _)).mono ?_; rintro e wO ⟨oa, cap, kb, rfl, T6, JwO, KwO⟩; unfold sdl)
              have HwO : Hid (Below wL.heap.size wL wO) := HwN.out.trans (JwO.out.mono HwN.out.size)
              refine hK.out _ _ ?_ (fun hHeld2 => ?_)
              · exact HZ.out _ HwO.out
              clear hK K hHeld
              have hHeld := hHeld2
              clear hHeld2
              refine wpAnyH_ready (rs := [5]) (by kernel_rfl) (by simp) ?_
              refine AllReadyH.cons rfl (fun K hK => ?_) AllReadyH.nil
              go_simp
              refine hK.out _ _ ?_ (fun hHeld2 => ?_)
              · exact HZ.out _ (HwO.out.alloc HwO.out.size _)
              clear hK K hHeld
              have hHeld := hHeld2
              clear hHeld2
              refine wpAnyH_ready (rs := [6]) (by kernel_rfl) (by simp) ?_
              refine AllReadyH.cons rfl (fun K hK => ?_) AllReadyH.nil
              go_simp
              refine hK.out _ _ ?_ (fun hHeld2 => ?_)
              · exact HZ.out _ (HwO.out.alloc HwO.out.size _)
              clear hK K hHeld
              have hHeld := hHeld2
              clear hHeld2
              refine wpAnyH_done (by kernel_rfl) ?_ _
              have FV : Hid (Below wL.heap.size wL (wO.alloc (.cells #[.int .i64 d.k, .string d.m, .bool d.has, .string d.v, .slice oa d.n cap, .int .i64 d.ver, .int .i64 d.chg, .int .i64 d.own, .int .i64 d.sin] 40)) ∧ ∃ lo hi oa' kb cap', SV (wO.alloc (.cells #[.int .i64 d.k, .string d.m, .bool d.has, .string d.v, .slice oa d.n cap, .int .i64 d.ver, .int .i64 d.chg, .int .i64 d.own, .int .i64 d.sin] 40)) wL.heap.size (wO.alloc (.cells #[.int .i64 d.k, .string d.m, .bool d.has, .string d.v, .slice oa d.n cap, .int .i64 d.ver, .int .i64 d.chg, .int .i64 d.own, .int .i64 d.sin] 40)).heap.size wO.heap.size lo hi oa' kb cap' d) := ⟨HwO.out.alloc HwO.out.size _, _, _, oa, kb, cap, sv_late T6.out (by exact HwN.out.size) HwO.out.size⟩
              go_wp2
              go_meet
              case rel => exact ⟨wO.heap.size, rfl, FV.out.1, FV.out.2⟩
            · go_simp
              refine hK.out _ _ ?_ (fun hHeld2 => ?_)
              · exact HZ.out _ (HwN.out.alloc HwN.out.size _)
              clear hK K hHeld
              have hHeld := hHeld2
              clear hHeld2
              refine wpAnyH_ready (rs := [4]) (by kernel_rfl) (by simp) ?_
              refine AllReadyH.cons rfl (fun K hK => ?_) AllReadyH.nil
              go_simp
              go_wp2_with (go_at_call 18; refine (CI.out wN _ b4 p4 _ _ T5 (bel1 _ _)).mono ?_; rintro e wO ⟨oa, cap, kb, rfl, T6, JwO, KwO⟩; unfold sdl)
              have HwO : Hid (Below wL.heap.size wL wO) := HwN.out.trans (JwO.out.mono HwN.out.size)
              have QwO : Hid (wO.rowIs wN.heap.size 40 9 (v9 (.int .i64 0) (.string ⟨#[]⟩) (.bool false) (.string ⟨#[]⟩) (.slice none 0 0) (.int .i64 0) (.int .i64 0) (.int .i64 0) (.int .i64 0))) := (row9 wN (.int .i64 0) (.string ⟨#[]⟩) (.bool false) (.string ⟨#[]⟩) (.slice none 0 0) (.int .i64 0) (.int .i64 0) (.int .i64 0) (.int .i64 0) 40).of_block (KwO.out.block _ (by simp))
              refine hK.out _ _ ?_ (fun hHeld2 => ?_)
              · exact HZ.out _ HwO.out
              clear hK K hHeld
              have hHeld := hHeld2
              clear hHeld2
              obtain ⟨m0, m1, m2, m3, m4, m5, m6, m7, m8⟩ := nine_cells QwO.out
              obtain ⟨l0, l1, l2, l3, l4, l5, l6, l7, l8⟩ := nine_frozen QwO.out
              refine wpAnyH_ready (rs := [6]) (by kernel_rfl) (by simp) ?_
              refine AllReadyH.cons rfl (fun K hK => ?_) AllReadyH.nil
              go_simp
              clear m0 m1 m2 m3 m4 m5 m6 m7 m8 l0 l1 l2 l3 l4 l5 l6 l7 l8
              refine hK.out _ _ ?_ (fun hHeld2 => ?_)
              · exact HZ.out _ (((((((((HwO.out.setCell (by exact HwN.out.size) _).setCell (by exact HwN.out.size) _).setCell (by exact HwN.out.size) _).setCell (by exact HwN.out.size) _).setCell (by exact HwN.out.size) _).setCell (by exact HwN.out.size) _).setCell (by exact HwN.out.size) _).setCell (by exact HwN.out.size) _).setCell (by exact HwN.out.size) _)
              clear hK K hHeld
              have hHeld := hHeld2
              clear hHeld2
              refine wpAnyH_done (by kernel_rfl) ?_ _
              have FV : Hid (Below wL.heap.size wL (putSlot wO wN.heap.size 0 ⟨oa, kb, 0, cap⟩ d) ∧ ∃ lo hi oa' kb cap', SV (putSlot wO wN.heap.size 0 ⟨oa, kb, 0, cap⟩ d) wL.heap.size (putSlot wO wN.heap.size 0 ⟨oa, kb, 0, cap⟩ d).heap.size wN.heap.size lo hi oa' kb cap' d) := ⟨putSlot_below HwO.out (by exact HwN.out.size), _, _, oa, kb, cap, sv_early QwO.out T6.out (by exact HwN.out.size) (by simp)⟩
              unfold putSlot at FV
              go_wp2
              go_meet
              case rel => exact ⟨wN.heap.size, rfl, FV.out.1, FV.out.2⟩
          · go_simp
            refine hK.out _ _ ?_ (fun hHeld2 => ?_)
            · exact HZ.out _ (HwM.out.alloc HwM.out.size _)
            clear hK K hHeld
            have hHeld := hHeld2
            clear hHeld2
            refine wpAnyH_ready (rs := [3]) (by kernel_rfl) (by simp) ?_
            refine AllReadyH.cons rfl (fun K hK => ?_) AllReadyH.nil
            go_simp
            go_wp2_with (go_at_call 17; refine (C17.out wM _ (bel1 _ _)).mono ?_; rintro e wN ⟨rfl, JwN, KwN⟩; have T5 : Hid (TabNew wN _ _ (some ⟨b4, 0, none⟩) b4 n p4 D) := T4.out.below JwN.out)
            have HwN : Hid (Below wL.heap.size wL wN) := HwM.out.trans (JwN.out.mono HwM.out.size)
            have QwN : Hid (wN.rowIs wM.heap.size 40 9 (v9 (.int .i64 0) (.string ⟨#[]⟩) (.bool false) (.string ⟨#[]⟩) (.slice none 0 0) (.int .i64 0) (.int .i64 0) (.int .i64 0) (.int .i64 0))) := (row9 wM (.int .i64 0) (.string ⟨#[]⟩) (.bool false) (.string ⟨#[]⟩) (.slice none 0 0) (.int .i64 0) (.int .i64 0) (.int .i64 0) (.int .i64 0) 40).of_block (KwN.out.block _ (by simp))
            refine hK.out _ _ ?_ (fun hHeld2 => ?_)
            · exact HZ.out _ HwN.out
            clear hK K hHeld
            have hHeld := hHeld2
            clear hHeld2
            refine wpAnyH_ready (rs := [4]) (by kernel_rfl) (by simp) ?_
            refine AllReadyH.cons rfl (fun K hK => ?_) AllReadyH.nil
            go_simp
            go_wp2_with (go_at_call 18; refine (CI.out wN _ b4 p4 _ _ T5 (Below.refl _ _)).mono ?_; rintro e wO ⟨oa, cap, kb, rfl, T6, JwO, KwO⟩; unfold sdl)
            have HwO : Hid (Below wL.heap.size wL wO) := HwN.out.trans (JwO.out.mono HwN.out.size)
            have QwO : Hid (wO.rowIs wM.heap.size 40 9 (v9 (.int .i64 0) (.string ⟨#[]⟩) (.bool false) (.string ⟨#[]⟩) (.slice none 0 0) (.int .i64 0) (.int .i64 0) (.int .i64 0) (.int .i64 0))) := QwN.out.of_block (KwO.out.block _ QwN.out.lt)
            refine hK.out _ _ ?_ (fun hHeld2 => ?_)
            · exact HZ.out _ HwO.out
            clear hK K hHeld
            have hHeld := hHeld2
            clear hHeld2
            obtain ⟨m0, m1, m2, m3, m4, m5, m6, m7, m8⟩ := nine_cells QwO.out
            obtain ⟨l0, l1, l2, l3, l4, l5, l6, l7, l8⟩ := nine_frozen QwO.out
            refine wpAnyH_ready (rs := [6]) (by kernel_rfl) (by simp) ?_
            refine AllReadyH.cons rfl (fun K hK => ?_) AllReadyH.nil
            go_simp
            clear m0 m1 m2 m3 m4 m5 m6 m7 m8 l0 l1 l2 l3 l4 l5 l6 l7 l8
            refine hK.out _ _ ?_ (fun hHeld2 => ?_)
            · exact HZ.out _ (((((((((HwO.out.setCell (by exact HwM.out.size) _).setCell (by exact HwM.out.size) _).setCell (by exact HwM.out.size) _).setCell (by exact HwM.out.size) _).setCell (by exact HwM.out.size) _).setCell (by exact HwM.out.size) _).setCell (by exact HwM.out.size) _).setCell (by exact HwM.out.size) _).setCell (by exact HwM.out.size) _)
            clear hK K hHeld
            have hHeld := hHeld2
            clear hHeld2
            refine wpAnyH_done (by kernel_rfl) ?_ _
            have FV : Hid (Below wL.heap.size wL (putSlot wO wM.heap.size 0 ⟨oa, kb, 0, cap⟩ d) ∧ ∃ lo hi oa' kb cap', SV (putSlot wO wM.heap.size 0 ⟨oa, kb, 0, cap⟩ d) wL.heap.size (putSlot wO wM.heap.size 0 ⟨oa, kb, 0, cap⟩ d).heap.size wM.heap.size lo hi oa' kb cap' d) := ⟨putSlot_below HwO.out (by exact HwM.out.size), _, _, oa, kb, cap, sv_early QwO.out T6.out (by exact HwM.out.size) (QwN.out.lt)⟩
            unfold putSlot at FV
            go_wp2
            go_meet
            case rel => exact ⟨wM.heap.size, rfl, FV.out.1, FV.out.2⟩
        · go_simp
          refine hK.out _ _ ?_ (fun hHeld2 => ?_)
          · exact HZ.out _ ((bel1 _ _).drew)
          clear hK K hHeld
          have hHeld := hHeld2
          clear hHeld2
          refine wpAnyH_ready (rs := [1]) (by kernel_rfl) (by simp) ?_
          refine AllReadyH.cons rfl (fun K hK => ?_) AllReadyH.nil
          go_simp
          go_wp2_with (go_at_call 10; refine (CT.out _ (bel1 _ _).drew).mono ?_; rintro e wM ⟨b4, p4, rfl, T4, JwM, KwM⟩)
          have HwM : Hid (Below wL.heap.size wL wM) := JwM.out
          have QwM : Hid (wM.rowIs wL.heap.size 40 9 (v9 (.int .i64 0) (.string ⟨#[]⟩) (.bool false) (.string ⟨#[]⟩) (.slice none 0 0) (.int .i64 0) (.int .i64 0) (.int .i64 0) (.int .i64 0))) := (row9 wL (.int .i64 0) (.string ⟨#[]⟩) (.bool false) (.string ⟨#[]⟩) (.slice none 0 0) (.int .i64 0) (.int .i64 0) (.int .i64 0) (.int .i64 0) 40).of_block (KwM.out.block _ (by simp))
          refine hK.out _ _ ?_ (fun hHeld2 => ?_)
          · exact HZ.out _ HwM.out
          clear hK K hHeld
          have hHeld := hHeld2
          clear hHeld2
          refine wpAnyH_ready (rs := [3]) (by kernel_rfl) (by simp) ?_
          refine AllReadyH.cons rfl (fun K hK => ?_) AllReadyH.nil
          go_simp
          go_wp2_with (go_at_call 17; refine (C17.out wM _ (Below.refl _ _)).mono ?_; rintro e wN ⟨rfl, JwN, KwN⟩; have T5 : Hid (TabNew wN _ _ (some ⟨b4, 0, none⟩) b4 n p4 D) := T4.out.below JwN.out)
          have HwN : Hid (Below wL.heap.size wL wN) := HwM.out.trans (JwN.out.mono HwM.out.size)
          have QwN : Hid (wN.rowIs wL.heap.size 40 9 (v9 (.int .i64 0) (.string ⟨#[]⟩) (.bool false) (.string ⟨#[]⟩) (.slice none 0 0) (.int .i64 0) (.int .i64 0) (.int .i64 0) (.int .i64 0))) := QwM.out.of_block (KwN.out.block _ QwM.out.lt)
          refine hK.out _ _ ?_ (fun hHeld2 => ?_)
          · exact HZ.out _ HwN.out
          clear hK K hHeld
          have hHeld := hHeld2
          clear hHeld2
          refine wpAnyH_ready (rs := [4]) (by kernel_rfl) (by simp) ?_
          refine AllReadyH.cons rfl (fun K hK => ?_) AllReadyH.nil
          go_simp
          go_wp2_with (go_at_call 18; refine (CI.out wN _ b4 p4 _ _ T5 (Below.refl _ _)).mono ?_; rintro e wO ⟨oa, cap, kb, rfl, T6, JwO, KwO⟩; unfold sdl)
          have HwO : Hid (Below wL.heap.size wL wO) := HwN.out.trans (JwO.out.mono HwN.out.size)
          have QwO : Hid (wO.rowIs wL.heap.size 40 9 (v9 (.int .i64 0) (.string ⟨#[]⟩) (.bool false) (.string ⟨#[]⟩) (.slice none 0 0) (.int .i64 0) (.int .i64 0) (.int .i64 0) (.int .i64 0))) := QwN.out.of_block (KwO.out.block _ QwN.out.lt)
          refine hK.out _ _ ?_ (fun hHeld2 => ?_)
          · exact HZ.out _ HwO.out
          clear hK K hHeld
          have hHeld := hHeld2
          clear hHeld2
          obtain ⟨m0, m1, m2, m3, m4, m5, m6, m7, m8⟩ := nine_cells QwO.out
          obtain ⟨l0, l1, l2, l3, l4, l5, l6, l7, l8⟩ := nine_frozen QwO.out
          refine wpAnyH_ready (rs := [6]) (by kernel_rfl) (by simp) ?_
          refine AllReadyH.cons rfl (fun K hK => ?_) AllReadyH.nil
          go_simp
          clear m0 m1 m2 m3 m4 m5 m6 m7 m8 l0 l1 l2 l3 l4 l5 l6 l7 l8
          refine hK.out _ _ ?_ (fun hHeld2 => ?_)
          · exact HZ.out _ (((((((((HwO.out.setCell (by exact Nat.le_refl _) _).setCell (by exact Nat.le_refl _) _).setCell (by exact Nat.le_refl _) _).setCell (by exact Nat.le_refl _) _).setCell (by exact Nat.le_refl _) _).setCell (by exact Nat.le_refl _) _).setCell (by exact Nat.le_refl _) _).setCell (by exact Nat.le_refl _) _).setCell (by exact Nat.le_refl _) _)
          clear hK K hHeld
          have hHeld := hHeld2
          clear hHeld2
          refine wpAnyH_done (by kernel_rfl) ?_ _
          have FV : Hid (Below wL.heap.size wL (putSlot wO wL.heap.size 0 ⟨oa, kb, 0, cap⟩ d) ∧ ∃ lo hi oa' kb cap', SV (putSlot wO wL.heap.size 0 ⟨oa, kb, 0, cap⟩ d) wL.heap.size (putSlot wO wL.heap.size 0 ⟨oa, kb, 0, cap⟩ d).heap.size wL.heap.size lo hi oa' kb cap' d) := ⟨putSlot_below HwO.out (by exact Nat.le_refl _), _, _, oa, kb, cap, sv_early QwO.out T6.out (by exact Nat.le_refl _) (QwN.out.lt)⟩
          unfold putSlot at FV
          go_wp2
          go_meet
          case rel => exact ⟨wL.heap.size, rfl, FV.out.1, FV.out.2⟩
      case rest =>
        obtain ⟨x4, rfl, HC4, HV4⟩ := hcut
        have XP : Hid (LB w wc ao n c k m) := XL.out.below HC4.out
        obtain ⟨lo4, hi4, oa4, kb4, ca4, V4'⟩ := HV4.out
        have V4 : Hid (SV wc wL.heap.size wc.heap.size x4 lo4 hi4 oa4 kb4 ca4 d) := V4'
        have V1P : Hid (SV wc wA.heap.size top1 x1 lo1 hi1 oa1 kb1 ca1 d) := V1L.out.below HC4.out
        clear V4' HV4 HC4 HZ CT
        obtain ⟨a0, a1, a2, a3, a4, a5, a6, a7, a8⟩ := nine_sc V4.out.row
        obtain ⟨e0, e1, e2, e3, e4, e5, e6, e7, e8⟩ := nine_sc V1P.out.row
        go_wp2_with fail
        refine (t_eqSlot V4.out V1P.out HDX.out.1).mono ?_
        rintro e wQ ⟨rfl, hbQ⟩
        have XQ : Hid (Below w.heap.size w wQ) := (XP.out.below hbQ).b
        clear hbQ
        go_wp2
        go_ret
        exact ⟨rfl, XQ.out⟩

end Go.Proofs.Ytijgiingfgaakaa
