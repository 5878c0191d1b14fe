/-
  The model's look for a field.
-/
import Derived.Test.YtifmaglbglelbaaGreatDoorSubFields
namespace Go.Proofs.YtifmaglbglelbaaGreatDoor
open Go.RowKit Go.Maps

def kidBy (d : ND) (s : ByteArray) : Int := if posOf d s < d.nn then d.kd (posOf d s) else -1

theorem kidBy_here {d : ND} {s : ByteArray} {i : Nat} (hi : i < d.nn) (he : d.nm i = s) (hb : ∀ k, k < i → d.nm k ≠ s) : kidBy d s = d.kd i := by
  unfold kidBy
  rw [posOf_eq hi he hb, if_pos hi]

theorem kidBy_none {d : ND} {s : ByteArray} (hb : ∀ k, k < d.nn → d.nm k ≠ s) : kidBy d s = -1 := by
  unfold kidBy
  rw [if_neg (fun h => by obtain ⟨k, hk, e⟩ := posOf_lt.1 h; exact hb k hk e)]

set_option maxRecDepth 100000 in
set_option maxHeartbeats 4000000 in
theorem m62 (p : NP) (d : ND) (s : ByteArray) (w : World) (h : NodeAt w p d) (hnk : d.nn ≤ d.nk) :
    Calls Tryz.prog 35 #[ndv p d, .string s] w fun e w' => e = .returned (.int .i64 (kidBy d s)) ∧ Below w.heap.size w w' := by
  obtain ⟨xa, xb, xo, xc, xa2, xb2, xo2, xc2⟩ := p
  have HN : Hid (∀ w', Below w.heap.size w w' → NodeAt w' ⟨xa, xb, xo, xc, xa2, xb2, xo2, xc2⟩ d) := fun w' hb => h.below hb
  have RX := row3 w (.int .i64 d.kind) (.slice xa d.nn xc) (.slice xa2 d.nk xc2) 47
  have B0 : Hid (Below w.heap.size w (w.alloc (.cells #[.int .i64 d.kind, .slice xa d.nn xc, .slice xa2 d.nk xc2] 47))) := bel1 w _
  have HR : Hid (∀ q, ((w.alloc (.cells #[.int .i64 d.kind, .slice xa d.nn xc, .slice xa2 d.nk xc2] 47)).drewN q).cell? ⟨w.heap.size, 1, none⟩ = some (.slice xa d.nn xc) ∧ ((w.alloc (.cells #[.int .i64 d.kind, .slice xa d.nn xc, .slice xa2 d.nk xc2] 47)).drewN q).cell? ⟨w.heap.size, 2, none⟩ = some (.slice xa2 d.nk xc2)) := fun q => ⟨RX.cell (i := 1) (by omega), RX.cell (i := 2) (by omega)⟩
  have l1 : d.nn ≤ 9223372036854775807 := h.names.len
  have l2 : d.nk ≤ 9223372036854775807 := h.kids.len
  obtain ⟨W0, hW0⟩ : ∃ W0, W0 = w.alloc (.cells #[.int .i64 d.kind, .slice xa d.nn xc, .slice xa2 d.nk xc2] 47) := ⟨_, rfl⟩
  clear h RX
  unfold ndv
  go_enter Tryz.func35, Tryz.ntmps35
  go_wp2_with fail
  rw [← hW0] at B0 HR ⊢
  clear hW0
  go_loopw [5] (fun s5 wx => ∃ (i m : Nat), i ≤ d.nn ∧ s5 = .int .i64 i ∧ wx = W0.drewN m ∧ Hid (∀ k, k < i → d.nm k ≠ s)) (fun s5 _ => d.nn - (intOf s5).toNat)
  case atStart => exact ⟨0, 0, by omega, rfl, rfl, (fun k hk => absurd hk (Nat.not_lt_zero _))⟩
  case round =>
    obtain ⟨i, m, hi, rfl, hwx, HE⟩ := hrel
    subst hwx
    obtain ⟨c1, c2⟩ := HR.out m
    have FB : Hid (∀ q, Below w.heap.size w (W0.drewN q)) := fun q => below_drewN B0.out q
    by_cases hlt : i < d.nn
    · have NX := HN.out _ (FB.out m)
      have ex : xa = some ⟨xb, xo, none⟩ := NX.names.at_ (by omega)
      have ex2 : xa2 = some ⟨xb2, xo2, none⟩ := NX.kids.at_ (by omega)
      have xn : (W0.drewN m).cell? ⟨xb, xo + i, none⟩ = some (.string (d.nm i)) := NX.names.cell i hlt
      have xk : (W0.drewN m).cell? ⟨xb2, xo2 + i, none⟩ = some (.int .i64 (d.kd i)) := NX.kids.cell i (by omega)
      subst ex
      subst ex2
      have lti : (i : Int) < (d.nn : Int) := by omega
      have lti2 : (i : Int) < (d.nk : Int) := by omega
      clear NX
      by_cases he : d.nm i = s
      · have FE : Hid (kidBy d s = d.kd i) := kidBy_here hlt he HE.out
        have be : ((d.nm i).toList == s.toList) = true := by rw [he]; simp
        clear he
        go_wp2
        go_ret
        rw [FE.out]
        exact ⟨rfl, by first | exact FB.out _ | exact (FB.out _).drew⟩
      · have be : ((d.nm i).toList == s.toList) = false := by
          rw [beq_eq_false_iff_ne, ByteArray.toList_eq, ByteArray.toList_eq]
          exact fun e => he (Go.WideShapes.bytes_inj e)
        have HE2 : Hid (∀ k, k < i + 1 → d.nm k ≠ s) := fun k hk => by
          by_cases e : k = i
          · subst e; exact he
          · exact HE.out k (by omega)
        clear he
        go_wp2
        go_roundw
        case rel => exact ⟨i + 1, _, by omega, by go_num, rfl, HE2⟩
        case measure => simp [intOf]; omega
    · have lti : ¬ (i : Int) < (d.nn : Int) := by omega
      have FE : Hid (kidBy d s = -1) := kidBy_none (fun k hk => HE.out k (by omega))
      go_wp2
      go_ret
      rw [FE.out]
      exact ⟨rfl, by first | exact FB.out _ | exact (FB.out _).drew⟩

end Go.Proofs.YtifmaglbglelbaaGreatDoor
