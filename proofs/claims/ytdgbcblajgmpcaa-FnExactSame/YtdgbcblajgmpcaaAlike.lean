/-
  The model's test whether two nodes are alike.
-/
import Derived.Test.YtdgbcblajgmpcaaValid2
import Derived.Test.YtdgbcblajgmpcaaMath
namespace Go.Proofs.Ytdgbcblajgmpcaa
open Go.RowKit

theorem beld {w w' : World} (h : Below w.heap.size w w') (n : Nat) : Below w.heap.size w (w'.drewN n) := below_drewN h n

theorem iff_no {q : Prop} (h : ¬ q) : (false = true ↔ q) := by
  constructor
  · intro x; cases x
  · intro x; exact absurd x h

theorem two_rows (w : World) (A : Obj) (x0 x1 x2 y0 y1 y2 : Value) (t t' : TypeId) :
    (((w.alloc A).alloc (.cells #[x0, x1, x2] t)).alloc (.cells #[y0, y1, y2] t')).rowIs (w.heap.size + 1) t 3 (v3 x0 x1 x2) ∧
    (((w.alloc A).alloc (.cells #[x0, x1, x2] t)).alloc (.cells #[y0, y1, y2] t')).rowIs (w.heap.size + 1 + 1) t' 3 (v3 y0 y1 y2) := by
  have r1 := row3 (w.alloc A) x0 x1 x2 t
  have r2 := row3 ((w.alloc A).alloc (.cells #[x0, x1, x2] t)) y0 y1 y2 t'
  simp only [World.size_alloc] at r1 r2
  exact ⟨r1.alloc _, r2⟩

set_option maxHeartbeats 4000000 in
theorem c22 (ao : Option Addr) (gb go N gc : Nat) (p : Nat → NP) (G : Nat → ND) (co : Option Addr) (cb cf cc : Nat) (cl : Nat → Nat) (a b : Nat) (w : World)
    (h1 : NodesAt w ao gb go N p G) (h2 : IntsAt w co cb cf N (fun i => (cl i : Int))) (hK : Kids N G) (ha : a < N) (hb : b < N) :
    Calls Try.prog 22 #[.agg #[.slice ao N gc], .slice co N cc, .int .i64 a, .int .i64 b] w fun e w' => ∃ r, e = .returned (.bool r) ∧ (r = true ↔ Alike G cl a b) ∧ Below w.heap.size w w' := by
  have e1 := h1.at_ (by omega)
  have e2 := h2.at_ (by omega)
  subst e1 e2
  have hlen := h1.len
  have HB : Hid (∀ w', Below w.heap.size w w' → NodesAt w' (some ⟨gb, go, none⟩) gb go N p G) := fun w' hb => h1.below hb
  have HC : Hid (∀ w', Below w.heap.size w w' → IntsAt w' (some ⟨cb, cf, none⟩) cb cf N (fun i => (cl i : Int))) := fun w' hb => h2.below hb
  have HA : Hid (Kids N G) := hK
  have x0 := (HB.out _ (bel1 w (.cells #[.slice (some ⟨gb, go, none⟩) N gc] 29))).c0 a ha
  have x1 := (HB.out _ (bel1 w (.cells #[.slice (some ⟨gb, go, none⟩) N gc] 29))).c1 a ha
  have x2 := (HB.out _ (bel1 w (.cells #[.slice (some ⟨gb, go, none⟩) N gc] 29))).c2 a ha
  have y0 := fun v0 v1 v2 => (HB.out _ (bel2 w (.cells #[.slice (some ⟨gb, go, none⟩) N gc] 29) (.cells #[v0, v1, v2] 53))).c0 b hb
  have y1 := fun v0 v1 v2 => (HB.out _ (bel2 w (.cells #[.slice (some ⟨gb, go, none⟩) N gc] 29) (.cells #[v0, v1, v2] 53))).c1 b hb
  have y2 := fun v0 v1 v2 => (HB.out _ (bel2 w (.cells #[.slice (some ⟨gb, go, none⟩) N gc] 29) (.cells #[v0, v1, v2] 53))).c2 b hb
  clear h1 h2 hK
  have haz : (a : Int) < (N : Int) := by omega
  have hbz : (b : Int) < (N : Int) := by omega
  obtain ⟨W, hW⟩ : ∃ W, W = ((w.alloc (.cells #[.slice (some ⟨gb, go, none⟩) N gc] 29)).alloc (.cells #[.int .i64 (G a).kind, .slice (p a).a1 (G a).nn (p a).c1, .slice (p a).a2 (G a).nk (p a).c2] 53)).alloc (.cells #[.int .i64 (G b).kind, .slice (p b).a1 (G b).nn (p b).c1, .slice (p b).a2 (G b).nk (p b).c2] 53) := ⟨_, rfl⟩
  have BW : Below w.heap.size w W := by rw [hW]; exact bel3 _ _ _ _
  have HW : Hid (W = _) := hW
  clear hW
  by_cases q1 : (G a).kind = (G b).kind
  case neg =>
    have b1 : ((G a).kind != (G b).kind) = true := by rw [bne_iff_ne]; exact q1
    have HF : Hid (¬ Alike G cl a b) := fun h => q1 h.lab.kind
    clear q1
    go_enter Try.func22, Try.ntmps22
    go_wp2
    go_ret
    exact ⟨false, rfl, iff_no HF.out, bel3 _ _ _ _⟩
  have b1 : ((G a).kind != (G b).kind) = false := by rw [bne_eq_false_iff_eq]; exact q1
  by_cases q2 : (G a).nn = (G b).nn
  case neg =>
    have b2 : (((G a).nn : Int) != ((G b).nn : Int)) = true := by rw [bne_iff_ne]; omega
    have HF : Hid (¬ Alike G cl a b) := fun h => q2 h.lab.nn
    clear q1 q2
    go_enter Try.func22, Try.ntmps22
    go_wp2
    go_ret
    exact ⟨false, rfl, iff_no HF.out, bel3 _ _ _ _⟩
  have b2 : (((G a).nn : Int) != ((G b).nn : Int)) = false := by rw [bne_eq_false_iff_eq]; omega
  by_cases q3 : (G a).nk = (G b).nk
  case neg =>
    have b3 : (((G a).nk : Int) != ((G b).nk : Int)) = true := by rw [bne_iff_ne]; omega
    have HF : Hid (¬ Alike G cl a b) := fun h => q3 h.lab.nk
    clear q1 q2 q3
    go_enter Try.func22, Try.ntmps22
    go_wp2
    go_ret
    exact ⟨false, rfl, iff_no HF.out, bel3 _ _ _ _⟩
  have b3 : (((G a).nk : Int) != ((G b).nk : Int)) = false := by rw [bne_eq_false_iff_eq]; omega
  have Q1 : Hid ((G a).kind = (G b).kind) := q1
  have Q2 : Hid ((G a).nn = (G b).nn) := q2
  have Q3 : Hid ((G a).nk = (G b).nk) := q3
  clear q1 q2 q3
  have NX := (HB.out _ BW).node a ha
  have NY := (HB.out _ BW).node b hb
  have CW := HC.out _ BW
  have hnl := NX.names.len
  have hkl := NX.kids.len
  rw [HW.out] at NX NY CW
  clear HB HC
  go_enter Try.func22, Try.ntmps22
  go_wp2
  clear x0 x1 x2 y0 y1 y2
  rw [← HW.out]
  rw [← HW.out] at NX NY CW
  have R := two_rows w (.cells #[.slice (some ⟨gb, go, none⟩) N gc] 29) (.int .i64 (G a).kind) (.slice (p a).a1 (G a).nn (p a).c1) (.slice (p a).a2 (G a).nk (p a).c2) (.int .i64 (G b).kind) (.slice (p b).a1 (G b).nn (p b).c1) (.slice (p b).a2 (G b).nk (p b).c2) 53 53
  rw [← HW.out] at R
  have k1 : W.cell? ⟨w.heap.size + 1, 1, none⟩ = some (.slice (p a).a1 (G a).nn (p a).c1) := R.1.cell (i := 1) (by omega)
  have k2 : W.cell? ⟨w.heap.size + 1, 2, none⟩ = some (.slice (p a).a2 (G a).nk (p a).c2) := R.1.cell (i := 2) (by omega)
  have k3 : W.cell? ⟨w.heap.size + 1 + 1, 1, none⟩ = some (.slice (p b).a1 (G b).nn (p b).c1) := R.2.cell (i := 1) (by omega)
  have k4 : W.cell? ⟨w.heap.size + 1 + 1, 2, none⟩ = some (.slice (p b).a2 (G b).nk (p b).c2) := R.2.cell (i := 2) (by omega)
  clear HW R
  go_loopw [11] (fun i wr => ∃ k : Nat, k ≤ (G a).nn ∧ i = .int .i64 k ∧ Hid (∀ j, j < k → (G a).nm j = (G b).nm j) ∧ ∃ m, wr = W.drewN m) (fun i _ => (G a).nn - (intOf i).toNat)
  case atStart => exact ⟨0, Nat.zero_le _, rfl, fun j h => absurd h (Nat.not_lt_zero _), 0, rfl⟩
  case round =>
    obtain ⟨k, hk, rfl, HN, m, rfl⟩ := hrel
    by_cases hlt : k < (G a).nn
    · have t1 := NX.names.at_ (by omega)
      have t2 := NY.names.at_ (by rw [← Q2.out]; omega)
      have g1 := NX.names.cell k hlt
      have g2 := NY.names.cell k (by rw [← Q2.out]; exact hlt)
      have l2 : (k : Int) < ((G b).nn : Int) := by rw [← Q2.out]; omega
      rw [t1] at k1
      rw [t2] at k3
      by_cases hs : (G a).nm k = (G b).nm k
      · have HS : Hid ((G a).nm k = (G b).nm k) := hs
        have bs : (((G a).nm k).toList == ((G b).nm k).toList) = true := by rw [hs]; simp
        clear hs t1 t2
        go_wp2
        go_quiet (fail)
        go_wp2
        go_roundw
        case rel => exact ⟨k + 1, by omega, by go_num, fun j hj => by
          by_cases e : j = k
          · subst e; exact HS.out
          · exact HN.out j (by omega), _, rfl⟩
        case measure => simp [intOf]; omega
      · have HF : Hid (¬ Alike G cl a b) := fun h => hs (h.lab.nm k hlt)
        have bs : (((G a).nm k).toList == ((G b).nm k).toList) = false := by
          rw [beq_eq_false_iff_ne, ByteArray.toList_eq, ByteArray.toList_eq]
          exact fun e => hs (Go.WideShapes.bytes_inj e)
        clear hs t1 t2
        go_wp2
        go_quiet (fail)
        go_wp2
        go_ret
        exact ⟨false, rfl, iff_no HF.out, beld (beld BW _) _⟩
    · have HL : Hid (Lab (G a) (G b)) := ⟨Q1.out, Q2.out, fun j hj => HN.out j (by omega), Q3.out⟩
      clear HN
      go_wp2
      go_loopw [12] (fun i wr => ∃ k : Nat, k ≤ (G a).nk ∧ i = .int .i64 k ∧ Hid (∀ j, j < k → cl (kid (G a) j) = cl (kid (G b) j)) ∧ ∃ m, wr = W.drewN m) (fun i _ => (G a).nk - (intOf i).toNat)
      case atStart => exact ⟨0, Nat.zero_le _, rfl, fun j h => absurd h (Nat.not_lt_zero _), _, rfl⟩
      case round =>
        obtain ⟨k', hk', rfl, HN, m', rfl⟩ := hrel
        by_cases hlt' : k' < (G a).nk
        · have t1 := NX.kids.at_ (by omega)
          have t2 := NY.kids.at_ (by rw [← Q3.out]; omega)
          have g1 := NX.kids.cell k' hlt'
          have g2 := NY.kids.cell k' (by rw [← Q3.out]; exact hlt')
          have l2 : (k' : Int) < ((G b).nk : Int) := by rw [← Q3.out]; omega
          have d1 := HA.out a ha k' hlt'
          have d2 := HA.out b hb k' (by rw [← Q3.out]; exact hlt')
          have f1 := CW.cell (kid (G a) k') (HA.out.lt ha hlt')
          have f2 := CW.cell (kid (G b) k') (HA.out.lt hb (by rw [← Q3.out]; exact hlt'))
          obtain ⟨d1a, d1b⟩ := d1
          obtain ⟨d2a, d2b⟩ := d2
          unfold kid at f1 f2
          rw [t1] at k2
          rw [t2] at k4
          by_cases hs : cl (kid (G a) k') = cl (kid (G b) k')
          · have HS : Hid (cl (kid (G a) k') = cl (kid (G b) k')) := hs
            have bs : ((cl ((G a).kd k').toNat : Int) != (cl ((G b).kd k').toNat : Int)) = false := by unfold kid at hs; rw [hs]; simp
            clear hs t1 t2
            go_wp2
            go_quiet (fail)
            go_wp2
            go_roundw
            case rel => exact ⟨k' + 1, by omega, by go_num, fun j hj => by
              by_cases e : j = k'
              · subst e; exact HS.out
              · exact HN.out j (by omega), _, rfl⟩
            case measure => simp [intOf]; omega
          · have HF : Hid (¬ Alike G cl a b) := fun h => hs (h.kids k' hlt')
            have bs : ((cl ((G a).kd k').toNat : Int) != (cl ((G b).kd k').toNat : Int)) = true := by unfold kid at hs; rw [bne_iff_ne]; omega
            clear hs t1 t2
            go_wp2
            go_quiet (fail)
            go_wp2
            go_ret
            exact ⟨false, rfl, iff_no HF.out, beld (beld BW _) _⟩
        · have HT : Hid (Alike G cl a b) := ⟨HL.out, fun j hj => HN.out j (by omega)⟩
          go_wp2
          go_ret
          exact ⟨true, rfl, ⟨fun _ => HT.out, fun _ => rfl⟩, beld BW _⟩

end Go.Proofs.Ytdgbcblajgmpcaa
