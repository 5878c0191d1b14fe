/-
  Merged for the claim: ReN ReO RcA.
-/
import Derived.Test.YtmcbmcjbgjnbhaaGreatDoorM27
import Derived.Test.YtmcbmcjbgjnbhaaGreatDoorM14
import Derived.Test.YtmcbmcjbgjnbhaaGreatDoorM05
namespace Go.Proofs.YtmcbmcjbgjnbhaaGreatDoor
open Go.RowKit Go.Maps Go.Sort

/-- The cells of the program's own variables. -/
def GV (w : World) : Prop := (∃ m, w.cell? ⟨1, 0, none⟩ = some (.int .i64 m)) ∧ ∃ eT eV, w.cell? ⟨0, 0, none⟩ = some (.iface eT eV)
theorem GV.on {w w' : World} (h : GV w) (hb : Below w.heap.size w w') : GV w' := by
  obtain ⟨⟨m, hm⟩, eT, eV, he⟩ := h
  exact ⟨⟨m, (hb.cell (p := ⟨1, 0, none⟩) (World.block_lt_of_cell? _ _ hm)).trans hm⟩, eT, eV, (hb.cell (p := ⟨0, 0, none⟩) (World.block_lt_of_cell? _ _ he)).trans he⟩

theorem bel_src {wr w2 : World} {o : Obj} (hb : Below ((wr.alloc o).drew).heap.size ((wr.alloc o).drew) w2) : Below wr.heap.size wr w2 := by
  have hs : (wr.alloc o).heap.size ≤ w2.heap.size := hb.size
  simp only [World.size_alloc] at hs
  refine ⟨hb.os, hb.tape, hb.output, by omega, fun k hk => (hb.block k ?_).trans (Below.heap_alloc _ _ _ hk)⟩
  show k < (wr.alloc o).heap.size
  simp only [World.size_alloc]; omega

set_option maxRecDepth 100000 in
set_option maxHeartbeats 8000000 in
theorem p_readAll {ao : Option Addr} {b o n c : Nat} {S T : Nat → ByteArray} (w : World) (h1 : SrcsAt w ao b o n S T) (hn8 : n ≤ 8) (hS : ∀ i, i < n → (S i).size ≤ 1048576) (hd : ∀ k, k < n → ∀ j, j < k → (S k).toList ≠ (S j).toList) (hgv : GV w) :
    Calls Tryz.prog 19 #[.slice ao n c] w fun e w' => e = .returned (.pointer (some ⟨w.heap.size + 2, 0, none⟩)) ∧ ∃ U, RL2 w w' S T n n U := by
  have hlen := h1.len
  have A1 := h1.at_
  have HB : Hid (∀ w', Below w.heap.size w w' → SrcsAt w' ao b o n S T ∧ GV w') := fun w' hb => ⟨h1.below hb, hgv.on hb⟩
  have HS : Hid (∀ i, i < n → (S i).size ≤ 1048576) := hS
  have HDI : Hid (∀ k, k < n → ∀ j, j < k → (S k).toList ≠ (S j).toList) := hd
  clear h1 hS hd hgv
  obtain ⟨w0, hw0⟩ : ∃ w0, w0 = ((w.alloc (.map #[] 0)).alloc (.map #[] 0)).alloc (.cells #[.map (some w.heap.size), .map (some (w.heap.size + 1))] 47) := ⟨_, rfl⟩
  have ST : Hid (RL1 w w0 S T 0 (fun _ => u0)) := RL1.start S T hw0
  have hmm := @run_makeMap Tryz.prog
  go_enter Tryz.func19, Tryz.ntmps19
  go_wp2
  rw [← hw0]
  clear hw0
  go_loopw [15] (fun i wr => ∃ (k : Nat) (U : List UInt8 → Value), k ≤ n ∧ i = .int .i64 k ∧ Hid (RL1 w wr S T k U)) (fun i _ => n - (intOf i).toNat)
  case atStart => exact ⟨0, _, Nat.zero_le _, rfl, ST⟩
  case round =>
    clear ST hmm
    obtain ⟨k, U, hk, rfl, HI⟩ := hrel
    by_cases hlt : k < n
    · have e1 := A1 (by omega)
      have q1 := (HB.out wr HI.out.below).1
      have g0 := q1.c0 k hlt
      have g1 := q1.c1 k hlt
      have z0 := HS.out k hlt
      have z1 := q1.sizeT k hlt
      have hpl := HI.out.pa.lt
      have k0'' := HI.out.pa.row.alloc (.cells #[.string (S k), .string (T k)] 38)
      have k0' := k0''.cell (i := 0) (by omega)
      have rs := row2 wr (.string (S k)) (.string (T k)) 38
      have k1' := rs.cell (i := 0) (by omega)
      have k2' := rs.cell (i := 1) (by omega)
      simp only [v2] at k0' k1' k2'
      have HBW : Hid (∀ w2, Below ((wr.alloc (.cells #[.string (S k), .string (T k)] 38)).drew).heap.size ((wr.alloc (.cells #[.string (S k), .string (T k)] 38)).drew) w2 → Below wr.heap.size wr w2) := fun w2 hb => bel_src hb
      have HG : GV ((wr.alloc (.cells #[.string (S k), .string (T k)] 38)).drew) := (HB.out wr HI.out.below).2.on (bel_src (Below.refl _ _))
      obtain ⟨⟨mm, hmm⟩, eT, eV, hev⟩ := HG
      have CU : Hid (Calls Tryz.prog 29 #[.string (T k)] ((wr.alloc (.cells #[.string (S k), .string (T k)] 38)).drew) (UnR ((wr.alloc (.cells #[.string (S k), .string (T k)] 38)).drew) (dsT (T k)))) := p_newUnit (T k) mm _ (by omega) hmm hev
      clear q1 hmm hev rs k0''
      subst e1
      go_wp2
      refine wp_region_held_drew (S := fun W => W.cell? ⟨w.heap.size + 2, 0, none⟩ = some (.map (some w.heap.size)) ∧ W.cell? ⟨wr.heap.size, 0, none⟩ = some (.string (S k)) ∧ W.cell? ⟨wr.heap.size, 1, none⟩ = some (.string (T k))) (by kernel_rfl) ⟨k0', k1', k2'⟩ (fun hHeld => ?_)
      refine wpAnyH_take (i := 0) (oi := ⟨some 19, _, _, _, _, _⟩) (v := ?_) rfl (by kernel_rfl) (by kernel_rfl) (by kernel_rfl) (fun _ _ _ h => h) (Or.inl ⟨by kernel_rfl, ?_⟩) (by assumption) ?_
      rotate_left
      · (intro wS hSw; (try dsimp only at hSw); (go_simp <;> with_reducible rfl))
      (try simp only [Act.put]); (try simp only [List.setIfInBounds_toArray]); (try simp only [List.set_cons_succ]); (try simp only [List.set_cons_zero])
      refine wpAnyH_take (i := 1) (oi := ⟨some 20, _, _, _, _, _⟩) (v := ?_) rfl (by kernel_rfl) (by kernel_rfl) (by kernel_rfl) (fun _ _ _ h => h) (Or.inl ⟨by kernel_rfl, ?_⟩) (by assumption) ?_
      rotate_left
      · (intro wS hSw; (try dsimp only at hSw); (go_simp <;> with_reducible rfl))
      (try simp only [Act.put]); (try simp only [List.setIfInBounds_toArray]); (try simp only [List.set_cons_succ]); (try simp only [List.set_cons_zero])
      refine wpAnyH_take (i := 2) (oi := ⟨some 21, _, _, _, _, _⟩) (v := ?_) rfl (by kernel_rfl) (by kernel_rfl) (by kernel_rfl) (fun _ _ _ h => h) (Or.inl ⟨by kernel_rfl, ?_⟩) (by assumption) ?_
      rotate_left
      · (intro wS hSw; (try dsimp only at hSw); (go_simp <;> with_reducible rfl))
      (try simp only [Act.put]); (try simp only [List.setIfInBounds_toArray]); (try simp only [List.set_cons_succ]); (try simp only [List.set_cons_zero])
      refine wpAnyH_take (i := 3) (oi := ⟨some 22, _, _, _, _, _⟩) (v := ?_) rfl (by kernel_rfl) (by kernel_rfl) (by kernel_rfl) (fun _ _ _ h => h) (Or.inl ⟨by kernel_rfl, ?_⟩) (by assumption) ?_
      rotate_left
      · (intro wS hSw; (try dsimp only at hSw); (go_simp <;> with_reducible rfl))
      (try simp only [Act.put]); (try simp only [List.setIfInBounds_toArray]); (try simp only [List.set_cons_succ]); (try simp only [List.set_cons_zero])
      refine wpAnyH_take (i := 4) (oi := ⟨some 23, _, _, _, _, _⟩) (v := ?_) rfl (by kernel_rfl) (by kernel_rfl) (by kernel_rfl) (fun _ _ _ h => h) (Or.inl ⟨by kernel_rfl, ?_⟩) (by assumption) ?_
      rotate_left
      · (intro wS hSw; (try dsimp only at hSw); (go_simp <;> with_reducible rfl))
      (try simp only [Act.put]); (try simp only [List.setIfInBounds_toArray]); (try simp only [List.set_cons_succ]); (try simp only [List.set_cons_zero])
      refine wpAnyH_take (i := 5) (oi := ⟨some 24, _, _, _, _, _⟩) (v := ?_) rfl (by kernel_rfl) (by kernel_rfl) (by kernel_rfl) (fun _ _ _ h => h) (Or.inl ⟨by kernel_rfl, ?_⟩) (by assumption) ?_
      rotate_left
      · (intro wS hSw; (try dsimp only at hSw); (go_simp <;> with_reducible rfl))
      (try simp only [Act.put]); (try simp only [List.setIfInBounds_toArray]); (try simp only [List.set_cons_succ]); (try simp only [List.set_cons_zero])
      refine wpAnyH_take (i := 6) (oi := ⟨some 25, _, _, _, _, _⟩) (v := ?_) rfl (by kernel_rfl) (by kernel_rfl) (by kernel_rfl) (fun _ _ _ h => h) (Or.inl ⟨by kernel_rfl, ?_⟩) (by assumption) ?_
      rotate_left
      · (intro wS hSw; (try dsimp only at hSw); (go_simp <;> with_reducible rfl))
      (try simp only [Act.put]); (try simp only [List.setIfInBounds_toArray]); (try simp only [List.set_cons_succ]); (try simp only [List.set_cons_zero])
      refine wpAnyH_take (i := 7) (oi := ⟨some 26, _, _, _, _, _⟩) (v := ?_) rfl (by kernel_rfl) (by kernel_rfl) (by kernel_rfl) (fun _ _ _ h => h) (Or.inl ⟨by kernel_rfl, ?_⟩) (by assumption) ?_
      rotate_left
      · (intro wS hSw; (try dsimp only at hSw); (go_simp <;> with_reducible rfl))
      (try simp only [Act.put]); (try simp only [List.setIfInBounds_toArray]); (try simp only [List.set_cons_succ]); (try simp only [List.set_cons_zero])
      refine wpAnyH_ready (rs := [8]) (by kernel_rfl) (by simp) ?_
      refine AllReadyH.cons rfl (fun K hK => ?_) AllReadyH.nil
      go_simp
      go_wp2_with (first | (go_at_call 29; refine CU.out.mono ?_; rintro e w2 ⟨hb, dv, fv, xs, rfl, hu⟩))
      obtain ⟨da, dc, hdv⟩ := own_form hu.od.own
      obtain ⟨fa, fc, hfv⟩ := own_form hu.fl
      subst hdv
      subst hfv
      obtain ⟨w3, hrun, hm3, hg3⟩ := (HI.out.pa.on (HBW.out w2 hb)).map.put (a := tl (S k)) (by show (S k).size ≤ maxLen; unfold maxLen; omega) (by unfold maxLen; omega) (.agg #[.slice da xs.length dc, .slice fa (dsT (T k)).length fc, .slice none 0 0])
      have HNX : Hid (RL1 w w3 S T (k + 1) _) := HI.out.next (HDI.out k hlt) (HBW.out w2 hb) ⟨hu.od.mono (by simp), hu.is, own_mono hu.fl (by simp)⟩ hm3 hg3
      have j0 : w2.cell? ⟨w.heap.size + 2, 0, none⟩ = some (.map (some w.heap.size)) := (hb.cell (p := ⟨w.heap.size + 2, 0, none⟩) (by simp; omega)).trans k0'
      have j1 : w2.cell? ⟨wr.heap.size, 0, none⟩ = some (.string (S k)) := (hb.cell (p := ⟨wr.heap.size, 0, none⟩) (by simp)).trans k1'
      have j2 : w2.cell? ⟨wr.heap.size, 1, none⟩ = some (.string (T k)) := (hb.cell (p := ⟨wr.heap.size, 1, none⟩) (by simp)).trans k2'
      have hrun' : (Instr.mapUpdate 44 (.map (some w.heap.size)) (.string (S k)) (.agg #[.slice da xs.length dc, .slice fa (dsT (T k)).length fc, .slice none 0 0])).run Tryz.prog w2 = .ok () w3 := hrun
      have hsw : (wr.alloc (.cells #[.string (S k), .string (T k)] 38)).heap.size ≤ w2.heap.size := hb.size
      simp only [World.size_alloc] at hsw
      have i0 : w3.cell? ⟨w.heap.size + 2, 0, none⟩ = some (.map (some w.heap.size)) := (hg3.cell_far ⟨w.heap.size + 2, 0, none⟩ (by show w.heap.size + 2 < _; omega) (by simp)).trans j0
      have i1 : w3.cell? ⟨wr.heap.size, 0, none⟩ = some (.string (S k)) := (hg3.cell_far ⟨wr.heap.size, 0, none⟩ (by show wr.heap.size < _; omega) (by simp; omega)).trans j1
      have i2 : w3.cell? ⟨wr.heap.size, 1, none⟩ = some (.string (T k)) := (hg3.cell_far ⟨wr.heap.size, 1, none⟩ (by show wr.heap.size < _; omega) (by simp; omega)).trans j2
      clear hm3 hg3 hb hu hrun
      refine hK.out _ _ ⟨j0, j1, j2⟩ (fun hHeld2 => ?_)
      clear hK K
      refine wpAnyH_ready (rs := [9]) (by kernel_rfl) (by simp) ?_
      refine AllReadyH.cons rfl (fun K hK => ?_) AllReadyH.nil
      go_simp
      refine hK.out _ _ ⟨i0, i1, i2⟩ (fun hHeld2 => ?_)
      clear hK K
      refine wpAnyH_done (by kernel_rfl) ?_ _
      clear j0 j1 j2 i0 i1 i2 hrun' hHeld
      go_wp2
      exact ⟨⟨k + 1, _, by omega, by go_num, HNX⟩, by simp [intOf]; omega⟩
    · have hkn : k = n := by omega
      subst hkn
      have ST2 : Hid (RL2 w wr S T k 0 U) := RL2.start HI.out
      clear HI
      go_wp2
      go_loopw [31] (fun i wr => ∃ (q : Nat) (U : List UInt8 → Value), q ≤ k ∧ i = .int .i64 q ∧ Hid (RL2 w wr S T k q U)) (fun i _ => k - (intOf i).toNat)
      case atStart => exact ⟨0, _, Nat.zero_le _, rfl, ST2⟩
      case round =>
        clear ST2
        obtain ⟨q, U, hq, rfl, HI⟩ := hrel
        by_cases hlt : q < k
        · have e1 := A1 (by omega)
          have q1 := (HB.out wr HI.out.below).1
          have g0 := q1.c0 q hlt
          have g1 := q1.c1 q hlt
          have z0 := HS.out q hlt
          have hpl := HI.out.pa.lt
          obtain ⟨dv, fv, ra, rn, rc, xs, hu, hU⟩ := HI.out.pa.un (tl (S q))
          obtain ⟨da, dc, hdv⟩ := own_form hU.od.own
          obtain ⟨fa, fc, hfv⟩ := own_form hU.fl
          subst hdv
          subst hfv
          obtain ⟨dn, hdn⟩ : ∃ dn, dn = xs.length := ⟨_, rfl⟩
          obtain ⟨fn, hfn⟩ : ∃ fn, fn = (dsOf S T k ⟨(tl (S q)).toArray⟩).length := ⟨_, rfl⟩
          rw [← hdn, ← hfn] at hu
          clear hdn hfn hU q1
          have HUE : Hid (U (tl (S q)) = .agg #[.slice da dn dc, .slice fa fn fc, .slice ra rn rc]) := hu
          have rs := row2 wr (.string (S q)) (.string (T q)) 38
          have HT : Hid (∀ W', Below wr.heap.size wr W' → W'.heap[wr.heap.size]? = (wr.alloc (.cells #[.string (S q), .string (T q)] 38)).heap[wr.heap.size]? → (fun W => W.cell? ⟨w.heap.size + 2, 0, none⟩ = some (.map (some w.heap.size)) ∧ W.cell? ⟨wr.heap.size, 0, none⟩ = some (.string (S q)) ∧ (Instr.lookup 44 (.map (some w.heap.size)) (.string (S q)) false).run Tryz.prog W = .ok (.agg #[.slice da dn dc, .slice fa fn fc, .slice ra rn rc]) W) W') := fun W' hb hs => by
            have hp := HI.out.pa.on hb
            have LK := hp.map.look (a := tl (S q)) (by show (S q).size ≤ maxLen; unfold maxLen; omega) 0
            rw [World.drewN_zero, hu] at LK
            exact ⟨hp.row.cell (i := 0) (by omega), (rs.of_block hs).cell (i := 0) (by omega), LK⟩
          clear hu rs
          subst e1
          go_wp2
          refine wp_region_held_drew (S := fun W => W.cell? ⟨w.heap.size + 2, 0, none⟩ = some (.map (some w.heap.size)) ∧ W.cell? ⟨wr.heap.size, 0, none⟩ = some (.string (S q)) ∧ (Instr.lookup 44 (.map (some w.heap.size)) (.string (S q)) false).run Tryz.prog W = .ok (.agg #[.slice da dn dc, .slice fa fn fc, .slice ra rn rc]) W) (by kernel_rfl) (HT.out _ (bel_src (Below.refl _ _)) rfl) (fun hHeld => ?_)
          refine wpAnyH_take (i := 0) (oi := ⟨some 35, _, _, _, _, _⟩) (v := ?_) rfl (by kernel_rfl) (by kernel_rfl) (by kernel_rfl) (fun _ _ _ h => h) (Or.inl ⟨by kernel_rfl, ?_⟩) (by assumption) ?_
          rotate_left
          · (intro wS hSw; (try dsimp only at hSw); (go_simp <;> with_reducible rfl))
          (try simp only [Act.put]); (try simp only [List.setIfInBounds_toArray]); (try simp only [List.set_cons_succ]); (try simp only [List.set_cons_zero])
          refine wpAnyH_take (i := 1) (oi := ⟨some 36, _, _, _, _, _⟩) (v := ?_) rfl (by kernel_rfl) (by kernel_rfl) (by kernel_rfl) (fun _ _ _ h => h) (Or.inl ⟨by kernel_rfl, ?_⟩) (by assumption) ?_
          rotate_left
          · (intro wS hSw; (try dsimp only at hSw); (go_simp <;> with_reducible rfl))
          (try simp only [Act.put]); (try simp only [List.setIfInBounds_toArray]); (try simp only [List.set_cons_succ]); (try simp only [List.set_cons_zero])
          refine wpAnyH_take (i := 2) (oi := ⟨some 37, _, _, _, _, _⟩) (v := ?_) rfl (by kernel_rfl) (by kernel_rfl) (by kernel_rfl) (fun _ _ _ h => h) (Or.inl ⟨by kernel_rfl, ?_⟩) (by assumption) ?_
          rotate_left
          · (intro wS hSw; (try dsimp only at hSw); (go_simp <;> with_reducible rfl))
          (try simp only [Act.put]); (try simp only [List.setIfInBounds_toArray]); (try simp only [List.set_cons_succ]); (try simp only [List.set_cons_zero])
          refine wpAnyH_take (i := 3) (oi := ⟨some 38, _, _, _, _, _⟩) (v := ?_) rfl (by kernel_rfl) (by kernel_rfl) (by kernel_rfl) (fun _ _ _ h => h) (Or.inl ⟨by kernel_rfl, ?_⟩) (by assumption) ?_
          rotate_left
          · (intro wS hSw; (try dsimp only at hSw); (go_simp <;> with_reducible rfl))
          (try simp only [Act.put]); (try simp only [List.setIfInBounds_toArray]); (try simp only [List.set_cons_succ]); (try simp only [List.set_cons_zero])
          refine wpAnyH_take (i := 4) (oi := ⟨some 39, _, _, _, _, _⟩) (v := ?_) rfl (by kernel_rfl) (by kernel_rfl) (by kernel_rfl) (fun _ _ _ h => h) (Or.inl ⟨by kernel_rfl, ?_⟩) (by assumption) ?_
          rotate_left
          · (intro wS hSw; (try dsimp only at hSw); (go_simp <;> with_reducible rfl))
          (try simp only [Act.put]); (try simp only [List.setIfInBounds_toArray]); (try simp only [List.set_cons_succ]); (try simp only [List.set_cons_zero])
          refine wpAnyH_take (i := 5) (oi := ⟨some 40, _, _, _, _, _⟩) (v := ?_) rfl (by kernel_rfl) (by kernel_rfl) (by kernel_rfl) (fun _ _ _ h => h) (Or.inl ⟨by kernel_rfl, ?_⟩) (by assumption) ?_
          rotate_left
          · (intro wS hSw; (try dsimp only at hSw); (go_simp <;> with_reducible rfl))
          (try simp only [Act.put]); (try simp only [List.setIfInBounds_toArray]); (try simp only [List.set_cons_succ]); (try simp only [List.set_cons_zero])
          refine wpAnyH_take (i := 6) (oi := ⟨some 41, _, _, _, _, _⟩) (v := ?_) rfl (by kernel_rfl) (by kernel_rfl) (by kernel_rfl) (fun _ _ _ h => h) (Or.inl ⟨by kernel_rfl, ?_⟩) (by assumption) ?_
          rotate_left
          · (intro wS hSw; (try dsimp only at hSw); (go_simp <;> with_reducible rfl))
          (try simp only [Act.put]); (try simp only [List.setIfInBounds_toArray]); (try simp only [List.set_cons_succ]); (try simp only [List.set_cons_zero])
          refine wpAnyH_ready (rs := [7]) (by kernel_rfl) (by simp) ?_
          refine AllReadyH.cons rfl (fun K hK => ?_) AllReadyH.nil
          go_simp
          refine hK.out _ _ (HT.out _ (bel_src (bel1 _ _)) (Below.heap_alloc _ _ _ (by simp))) (fun hHeld2 => ?_)
          clear hK K
          refine wpAnyH_ready (rs := [8]) (by kernel_rfl) (by simp) ?_
          refine AllReadyH.cons rfl (fun K hK => ?_) AllReadyH.nil
          go_simp
          refine hK.out _ _ (HT.out _ (bel_src (bel1 _ _)) (Below.heap_alloc _ _ _ (by simp))) (fun hHeld2 => ?_)
          clear hK K
          refine wpAnyH_done (by kernel_rfl) ?_ _
          clear hHeld hHeld2 HT
          obtain ⟨W2, hW2⟩ : ∃ W2, W2 = ((wr.alloc (.cells #[.string (S q), .string (T q)] 38)).alloc (.cells #[.slice da dn dc, .slice fa fn fc, .slice ra rn rc] 43)).drew := ⟨_, rfl⟩
          rw [← hW2]
          have B2 : Below wr.heap.size wr W2 := by
            rw [hW2]
            exact bel_src (o := (.cells #[.string (S q), .string (T q)] 38)) ⟨rfl, rfl, rfl, by show (wr.alloc (.cells #[.string (S q), .string (T q)] 38)).heap.size ≤ ((wr.alloc (.cells #[.string (S q), .string (T q)] 38)).alloc (.cells #[.slice da dn dc, .slice fa fn fc, .slice ra rn rc] 43)).heap.size; simp, fun i hi => Below.heap_alloc _ _ _ hi⟩
          have s2 : W2.heap.size = wr.heap.size + 2 := by
            rw [hW2]
            show ((wr.alloc (.cells #[.string (S q), .string (T q)] 38)).alloc (.cells #[.slice da dn dc, .slice fa fn fc, .slice ra rn rc] 43)).heap.size = _
            simp
          have rS : W2.rowIs wr.heap.size 38 2 (v2 (.string (S q)) (.string (T q))) := by
            rw [hW2]; exact (row2 wr _ _ _).alloc _
          have rU : W2.rowIs (wr.heap.size + 1) 43 3 (v3 (.slice da dn dc) (.slice fa fn fc) (.slice ra rn rc)) := by
            have := row3 (wr.alloc (.cells #[.string (S q), .string (T q)] 38)) (.slice da dn dc) (.slice fa fn fc) (.slice ra rn rc) 43
            simp only [World.size_alloc] at this
            rw [hW2]; exact this
          have cN : W2.cell? ⟨wr.heap.size, 0, none⟩ = some (.string (S q)) := rS.cell (i := 0) (by omega)
          have HB2 : Hid (Below wr.heap.size wr W2) := B2
          have HRS : Hid (W2.rowIs wr.heap.size 38 2 (v2 (.string (S q)) (.string (T q)))) := rS
          have HRU : Hid (W2.rowIs (wr.heap.size + 1) 43 3 (v3 (.slice da dn dc) (.slice fa fn fc) (.slice ra rn rc))) := rU
          have HS2 : Hid (W2.heap.size = wr.heap.size + 2) := s2
          have CA : Hid (Calls Tryz.prog 30 #[.pointer (some ⟨w.heap.size + 2, 0, none⟩), .string (S q)] W2 (ImpR W2 (srtN (rchO S T k (S q))))) := p_allFrom W2 (HI.out.pa.on B2) hn8 (S q) (by omega)
          clear hW2 B2 s2 rS rU
          go_wp2_with fail
          refine CA.out.mono ?_
          rintro e w3 ⟨hb3, v, rfl, hO3⟩
          obtain ⟨va, vc, rfl⟩ := own_form hO3
          obtain ⟨vn, hvn⟩ : ∃ vn, vn = (srtN (rchO S T k (S q))).length := ⟨_, rfl⟩
          rw [← hvn] at hO3 ⊢
          have HVN : Hid (vn = (srtN (rchO S T k (S q))).length) := hvn
          clear hvn
          have s2 := HS2.out
          have s3 := hb3.size
          have rU3 := HRU.out.of_block (hb3.block _ (by omega))
          have rS3 := HRS.out.of_block (hb3.block _ (by omega))
          have x2 : w3.cell? ⟨wr.heap.size + 1, 2, none⟩ = some (.slice ra rn rc) := rU3.cell (i := 2) (by omega)
          have y2 := rU3.frozen 2
          have hbt : But [wr.heap.size + 1] w3 (w3.setCell ⟨wr.heap.size + 1, 2, none⟩ (.slice va vn vc)) := (But.refl _ w3).set (fun _ => by simp) 2 _
          have B3 : Below wr.heap.size wr w3 := HB2.out.trans (hb3.mono (by omega))
          have B4 : Below wr.heap.size wr (w3.setCell ⟨wr.heap.size + 1, 2, none⟩ (.slice va vn vc)) := below_but B3 hbt (fun b hb => by have := List.mem_singleton.1 hb; omega)
          have rU4 : (w3.setCell ⟨wr.heap.size + 1, 2, none⟩ (.slice va vn vc)).rowIs (wr.heap.size + 1) 43 3 (v3 (.slice da dn dc) (.slice fa fn fc) (.slice va vn vc)) := (rU3.set 2 _).congr (fun i hi => by
            match i, hi with
            | 0, _ => rfl
            | 1, _ => rfl
            | 2, _ => rfl)
          have rS4 := rS3.of_block (hbt.block _ rS3.lt (by simp))
          have ho4 : (w3.setCell ⟨wr.heap.size + 1, 2, none⟩ (.slice va vn vc)).ownsRow wr.heap.size 9 1 (.slice va vn vc) vn (sts (srtN (rchO S T k (S q)))) := own_mono (own_block hO3 (fun b e => hbt.block b (hO3.lt b e.symm).2 (fun hm => by have := (hO3.lt b e.symm).1; have := List.mem_singleton.1 hm; omega))) (by omega)
          obtain ⟨w4, hw4⟩ : ∃ w4, w4 = w3.setCell ⟨wr.heap.size + 1, 2, none⟩ (.slice va vn vc) := ⟨_, rfl⟩
          rw [← hw4] at B4 rU4 rS4 ho4
          have s4 := B4.size
          have hwl4 : wr.heap.size + 1 < w4.heap.size := rU4.lt
          have m0 : w4.cell? ⟨w.heap.size + 2, 0, none⟩ = some (.map (some w.heap.size)) := (HI.out.pa.on B4).row.cell (i := 0) (by omega)
          have m1 : w4.cell? ⟨wr.heap.size, 0, none⟩ = some (.string (S q)) := rS4.cell (i := 0) (by omega)
          have m2 : w4.cell? ⟨wr.heap.size + 1, 0, none⟩ = some (.slice da dn dc) := rU4.cell (i := 0) (by omega)
          have m3 : w4.cell? ⟨wr.heap.size + 1, 1, none⟩ = some (.slice fa fn fc) := rU4.cell (i := 1) (by omega)
          have m4 : w4.cell? ⟨wr.heap.size + 1, 2, none⟩ = some (.slice va vn vc) := rU4.cell (i := 2) (by omega)
          have B4' : Below wr.heap.size wr w4.drew := ⟨B4.os, B4.tape, B4.output, B4.size, B4.block⟩
          obtain ⟨w5, hrun, hm5, hg5⟩ := (HI.out.pa.on B4').map.put (a := tl (S q)) (by show (S q).size ≤ maxLen; unfold maxLen; omega) (by unfold maxLen; omega) (.agg #[.slice da dn dc, .slice fa fn fc, .slice va vn vc])
          have hrun' : (Instr.mapUpdate 44 (.map (some w.heap.size)) (.string (S q)) (.agg #[.slice da dn dc, .slice fa fn fc, .slice va vn vc])).run Tryz.prog w4.drew = .ok () w5 := hrun
          have HNX : Hid (RL2 w w5 S T k (q + 1) _) := HI.out.next B4' ⟨_, HUE.out⟩ (by show w4.ownsRow wr.heap.size 9 1 (.slice va vn vc) (srtN (rchO S T k (S q))).length (sts (srtN (rchO S T k (S q)))); rw [← HVN.out]; exact ho4) hm5 hg5
          have i0 : w5.cell? ⟨w.heap.size + 2, 0, none⟩ = some (.map (some w.heap.size)) := (hg5.cell_far ⟨w.heap.size + 2, 0, none⟩ (by show w.heap.size + 2 < w4.heap.size; omega) (by simp)).trans m0
          have i1 : w5.cell? ⟨wr.heap.size, 0, none⟩ = some (.string (S q)) := (hg5.cell_far ⟨wr.heap.size, 0, none⟩ (by show wr.heap.size < w4.heap.size; omega) (by simp; omega)).trans m1
          have i2 : w5.cell? ⟨wr.heap.size + 1, 0, none⟩ = some (.slice da dn dc) := (hg5.cell_far ⟨wr.heap.size + 1, 0, none⟩ (by show wr.heap.size + 1 < w4.heap.size; omega) (by simp; omega)).trans m2
          have i3 : w5.cell? ⟨wr.heap.size + 1, 1, none⟩ = some (.slice fa fn fc) := (hg5.cell_far ⟨wr.heap.size + 1, 1, none⟩ (by show wr.heap.size + 1 < w4.heap.size; omega) (by simp; omega)).trans m3
          have i4 : w5.cell? ⟨wr.heap.size + 1, 2, none⟩ = some (.slice va vn vc) := (hg5.cell_far ⟨wr.heap.size + 1, 2, none⟩ (by show wr.heap.size + 1 < w4.heap.size; omega) (by simp; omega)).trans m4
          clear hm5 hg5 hrun B4 B4' rU4 rS4 ho4 hbt B3 rU3 rS3 hb3 hO3 CA
          go_wp2
          rw [← hw4]
          clear hw4 x2 y2
          refine wp_region_held_drew (S := fun W => W.cell? ⟨w.heap.size + 2, 0, none⟩ = some (.map (some w.heap.size)) ∧ W.cell? ⟨wr.heap.size, 0, none⟩ = some (.string (S q)) ∧ W.cell? ⟨wr.heap.size + 1, 0, none⟩ = some (.slice da dn dc) ∧ W.cell? ⟨wr.heap.size + 1, 1, none⟩ = some (.slice fa fn fc) ∧ W.cell? ⟨wr.heap.size + 1, 2, none⟩ = some (.slice va vn vc)) (by kernel_rfl) ⟨m0, m1, m2, m3, m4⟩ (fun hHeld => ?_)
          refine wpAnyH_take (i := 0) (oi := ⟨some 47, _, _, _, _, _⟩) (v := ?_) rfl (by kernel_rfl) (by kernel_rfl) (by kernel_rfl) (fun _ _ _ h => h) (Or.inl ⟨by kernel_rfl, ?_⟩) (by assumption) ?_
          rotate_left
          · (intro wS hSw; (try dsimp only at hSw); (go_simp <;> with_reducible rfl))
          (try simp only [Act.put]); (try simp only [List.setIfInBounds_toArray]); (try simp only [List.set_cons_succ]); (try simp only [List.set_cons_zero])
          refine wpAnyH_take (i := 1) (oi := ⟨some 48, _, _, _, _, _⟩) (v := ?_) rfl (by kernel_rfl) (by kernel_rfl) (by kernel_rfl) (fun _ _ _ h => h) (Or.inl ⟨by kernel_rfl, ?_⟩) (by assumption) ?_
          rotate_left
          · (intro wS hSw; (try dsimp only at hSw); (go_simp <;> with_reducible rfl))
          (try simp only [Act.put]); (try simp only [List.setIfInBounds_toArray]); (try simp only [List.set_cons_succ]); (try simp only [List.set_cons_zero])
          refine wpAnyH_take (i := 2) (oi := ⟨some 49, _, _, _, _, _⟩) (v := ?_) rfl (by kernel_rfl) (by kernel_rfl) (by kernel_rfl) (fun _ _ _ h => h) (Or.inl ⟨by kernel_rfl, ?_⟩) (by assumption) ?_
          rotate_left
          · (intro wS hSw; (try dsimp only at hSw); (go_simp <;> with_reducible rfl))
          (try simp only [Act.put]); (try simp only [List.setIfInBounds_toArray]); (try simp only [List.set_cons_succ]); (try simp only [List.set_cons_zero])
          refine wpAnyH_take (i := 3) (oi := ⟨some 50, _, _, _, _, _⟩) (v := ?_) rfl (by kernel_rfl) (by kernel_rfl) (by kernel_rfl) (fun _ _ _ h => h) (Or.inl ⟨by kernel_rfl, ?_⟩) (by assumption) ?_
          rotate_left
          · (intro wS hSw; (try dsimp only at hSw); (go_simp <;> with_reducible rfl))
          (try simp only [Act.put]); (try simp only [List.setIfInBounds_toArray]); (try simp only [List.set_cons_succ]); (try simp only [List.set_cons_zero])
          refine wpAnyH_take (i := 4) (oi := ⟨some 51, _, _, _, _, _⟩) (v := ?_) rfl (by kernel_rfl) (by kernel_rfl) (by kernel_rfl) (fun _ _ _ h => h) (Or.inl ⟨by kernel_rfl, ?_⟩) (by assumption) ?_
          rotate_left
          · (intro wS hSw; (try dsimp only at hSw); (go_simp <;> with_reducible rfl))
          (try simp only [Act.put]); (try simp only [List.setIfInBounds_toArray]); (try simp only [List.set_cons_succ]); (try simp only [List.set_cons_zero])
          refine wpAnyH_take (i := 5) (oi := ⟨some 52, _, _, _, _, _⟩) (v := ?_) rfl (by kernel_rfl) (by kernel_rfl) (by kernel_rfl) (fun _ _ _ h => h) (Or.inl ⟨by kernel_rfl, ?_⟩) (by assumption) ?_
          rotate_left
          · (intro wS hSw; (try dsimp only at hSw); (go_simp <;> with_reducible rfl))
          (try simp only [Act.put]); (try simp only [List.setIfInBounds_toArray]); (try simp only [List.set_cons_succ]); (try simp only [List.set_cons_zero])
          refine wpAnyH_take (i := 6) (oi := ⟨some 53, _, _, _, _, _⟩) (v := ?_) rfl (by kernel_rfl) (by kernel_rfl) (by kernel_rfl) (fun _ _ _ h => h) (Or.inl ⟨by kernel_rfl, ?_⟩) (by assumption) ?_
          rotate_left
          · (intro wS hSw; (try dsimp only at hSw); (go_simp <;> with_reducible rfl))
          (try simp only [Act.put]); (try simp only [List.setIfInBounds_toArray]); (try simp only [List.set_cons_succ]); (try simp only [List.set_cons_zero])
          refine wpAnyH_ready (rs := [7]) (by kernel_rfl) (by simp) ?_
          refine AllReadyH.cons rfl (fun K hK => ?_) AllReadyH.nil
          go_simp
          refine hK.out _ _ ⟨i0, i1, i2, i3, i4⟩ (fun hHeld2 => ?_)
          clear hK K
          refine wpAnyH_done (by kernel_rfl) ?_ _
          clear hHeld hHeld2
          go_wp2
          exact ⟨⟨q + 1, _, by omega, by go_num, HNX⟩, by simp [intOf]; omega⟩
        · have hqk : q = k := by omega
          subst hqk
          go_wp2
          go_ret
          exact ⟨rfl, _, HI.out⟩

end Go.Proofs.YtmcbmcjbgjnbhaaGreatDoor

namespace Go.Proofs.YtmcbmcjbgjnbhaaGreatDoor
open Go.RowKit Go.Maps Go.Sort

theorem vsr_apart {n : Nat} {S T : Nat → ByteArray} (h : vsr n S T = true) : ∀ k, k < n → ∀ j, j < k → (S k).toList ≠ (S j).toList := fun k hk j hj e => by
  rw [vsr_no k hk (sok_twice j hj e)] at h
  cases h
theorem srcI_not {S : Nat → ByteArray} {n : Nat} {s : ByteArray} (h : ∀ j, j < n → tl (S j) ≠ tl s) : srcI S n s = none := srcI_no (fun j hj => beq_eq_false_iff_ne.2 (fun e => h j hj (by rw [ByteArray.toList_eq, ByteArray.toList_eq] at e; exact e)))
theorem rchO_not {S T : Nat → ByteArray} {n : Nat} {s : ByteArray} (h : srcI S n s = none) : rchO S T n s = [] := by
  have e : impO S T n s = [] := by
    unfold impO dsOf
    rw [h]
    rfl
  unfold rchO
  rw [e]
  rfl
theorem un_reach (a b c : Value) (w : World) : Sem.run Tryz.prog (Instr.field 43 (.agg #[a, b, c]) 2) w = .ok c w := by
  kernel_rfl

set_option maxRecDepth 100000 in
set_option maxHeartbeats 4000000 in
theorem p_Reach {ao : Option Addr} {b o n c : Nat} {S T : Nat → ByteArray} (w : World) (h1 : SrcsAt w ao b o n S T) (hS : ∀ i, i < n → (S i).size ≤ 1048576) (s : ByteArray) (hs : s.size ≤ 9223372036854775807) (hgv : GV w) :
    Calls Tryz.prog 7 #[.slice ao n c, .string s] w (ImpR w (reachA S T n s)) := by
  have CV : Hid (Calls Tryz.prog 18 #[.slice ao n c] w fun e w' => e = .returned (.bool (vsr n S T)) ∧ Below w.heap.size w w') := sc7 ao b o n c S T w h1 hS
  have HB : Hid (∀ W, Below w.heap.size w W → SrcsAt W ao b o n S T ∧ GV W) := fun W hb => ⟨h1.below hb, hgv.on hb⟩
  have HS : Hid (∀ i, i < n → (S i).size ≤ 1048576) := hS
  clear h1 hS hgv
  cases hv : vsr n S T
  · rw [hv] at CV
    have HA : Hid (reachA S T n s = []) := by show _ = _; unfold reachA; rw [hv]; rfl
    go_enter Tryz.func7, Tryz.ntmps7
    go_wp2_with fail
    refine CV.out.mono ?_
    rintro e w' ⟨rfl, hb⟩
    go_wp2
    go_ret
    exact ⟨hb, _, rfl, by rw [HA.out]; exact World.ownsRow_nil _ _ _ _⟩
  · have hn8 := vsr_le hv
    have HAP : Hid (∀ k, k < n → ∀ j, j < k → (S k).toList ≠ (S j).toList) := vsr_apart hv
    rw [hv] at CV
    have HA : Hid (reachA S T n s = srtN (rchO S T n s)) := by show _ = _; unfold reachA; rw [hv]; rfl
    clear hv
    go_enter Tryz.func7, Tryz.ntmps7
    go_wp2_with fail
    refine CV.out.mono ?_
    rintro e w1 ⟨rfl, hb⟩
    have CR : Hid (Calls Tryz.prog 19 #[.slice ao n c] w1 fun e w' => e = .returned (.pointer (some ⟨w1.heap.size + 2, 0, none⟩)) ∧ ∃ U, RL2 w1 w' S T n n U) := p_readAll w1 (HB.out w1 hb).1 hn8 HS.out HAP.out (HB.out w1 hb).2
    have HB1 : Hid (Below w.heap.size w w1) := hb
    clear hb CV
    go_wp2_with fail
    refine CR.out.mono ?_
    rintro e w2 ⟨rfl, U, hR⟩
    obtain ⟨dv, fv, rv, hu, h2, h3⟩ := hR.re (tl s)
    have ho : w2.ownsRow (w1.heap.size + 3) 9 1 rv (srtN (rchO S T n s)).length (sts (srtN (rchO S T n s))) := by
      by_cases hp : ∃ j, j < n ∧ tl (S j) = tl s
      · exact h2 hp
      · have hn : ∀ j, j < n → tl (S j) ≠ tl s := fun j hj e => hp ⟨j, hj, e⟩
        rw [h3 hn, rchO_not (srcI_not hn), srtN_nil]
        exact World.ownsRow_nil _ _ _ _
    obtain ⟨ra, rc, hrv⟩ := own_form ho
    have LK : (Instr.lookup 44 (.map (some w1.heap.size)) (.string s) false).run Tryz.prog w2 = .ok (.agg #[dv, fv, rv]) w2 := by
      have LK := hR.pa.map.look (a := tl s) (by show s.size ≤ maxLen; unfold maxLen; omega) 0
      rw [World.drewN_zero, hu] at LK
      exact LK
    have c0 : w2.cell? ⟨w1.heap.size + 2, 0, none⟩ = some (.map (some w1.heap.size)) := hR.pa.row.cell (i := 0) (by omega)
    have HF : Hid (Below w.heap.size w w2) := HB1.out.trans (hR.below.mono HB1.out.size)
    have HO : Hid (w2.ownsRow (w1.heap.size + 3) 9 1 rv (srtN (rchO S T n s)).length (sts (srtN (rchO S T n s)))) := ho
    rw [hrv] at LK HO
    have hsz := HB1.out.size
    clear hR hu h2 h3 ho hrv CR
    go_wp2
    rw [un_reach]
    go_wp2
    go_ret
    exact ⟨HF.out, _, rfl, by rw [HA.out]; exact own_mono HO.out (by omega)⟩

end Go.Proofs.YtmcbmcjbgjnbhaaGreatDoor

namespace Go.Proofs.YtmcbmcjbgjnbhaaGreatDoor
open Go.RowKit

theorem NmOK.drew {B : Nat} {w : World} {ns : List ByteArray} {p : NPl} (h : NmOK B w ns p) : NmOK B w.drew ns p := h
theorem map_get {α β : Type} {f : α → β} {xs ys : List α} (h : xs.map f = ys.map f) {k : Nat} (h1 : k < xs.length) (h2 : k < ys.length) : f xs[k] = f ys[k] := by
  have e1 : (xs.map f)[k]? = some (f xs[k]) := by rw [List.getElem?_map, List.getElem?_eq_getElem h1]; rfl
  have e2 : (ys.map f)[k]? = some (f ys[k]) := by rw [List.getElem?_map, List.getElem?_eq_getElem h2]; rfl
  rw [h, e2] at e1
  exact (Option.some.inj e1).symm

set_option maxRecDepth 100000 in
set_option maxHeartbeats 1000000 in
theorem e_names (w : World) {B1 B2 : Nat} {ns : List ByteArray} {p q : NPl} (h1 : NmOK B1 w ns p) (h2 : NmOK B2 w ns q) {n : Nat} (hn : n = ns.length) (hl : n ≤ 1000000) :
    Calls Tryz.prog 8 #[.slice p.a n p.c, .slice q.a n q.c] w fun e w' => e = .returned (.bool true) ∧ ∃ k, w' = w.drewN k := by
  have HC : Hid (∀ k, k < n → (p.a = some ⟨p.b, 0, none⟩ ∧ w.cell? ⟨p.b, k, none⟩ = some (.string (ns.getD k e0))) ∧ (q.a = some ⟨q.b, 0, none⟩ ∧ w.cell? ⟨q.b, k, none⟩ = some (.string (ns.getD k e0)))) := fun k hk => by
    have hne : ns ≠ [] := by rintro rfl; simp at hn; omega
    obtain ⟨e1, _, N1, f1, r1, l1, g1⟩ := h1 hne
    obtain ⟨e2, _, N2, f2, r2, l2, g2⟩ := h2 hne
    refine ⟨⟨e1, ?_⟩, e2, ?_⟩
    · rw [r1.cell (by omega), g1 k (by omega)]
    · rw [r2.cell (by omega), g2 k (by omega)]
  clear h1 h2 hn
  go_enter Tryz.func8, Tryz.ntmps8
  go_wp2
  go_loopw [5] (fun i wr => ∃ k : Nat, k ≤ n ∧ i = .int .i64 k ∧ ∃ m, wr = w.drewN m) (fun i _ => n - (intOf i).toNat)
  case atStart => exact ⟨0, Nat.zero_le _, rfl, 0, rfl⟩
  case round =>
    obtain ⟨k, hk, rfl, m, rfl⟩ := hrel
    by_cases hlt : k < n
    · obtain ⟨⟨e1, g1⟩, e2, g2⟩ := HC.out k hlt
      obtain ⟨s, hs⟩ : ∃ s, s = ns.getD k e0 := ⟨_, rfl⟩
      rw [← hs] at g1 g2
      rw [e1, e2]
      clear e1 e2 hs
      go_wp2
      go_quiet (fail)
      go_wp2
      go_roundw
      case rel => exact ⟨k + 1, by omega, by go_num, _, rfl⟩
      case measure => simp [intOf]; omega
    · go_wp2
      go_ret
      exact ⟨rfl, _, rfl⟩

end Go.Proofs.YtmcbmcjbgjnbhaaGreatDoor

