/-
  The model's list of questions in memory, and a question's place in it.
-/
import Derived.Test.YtpbpbppimkeodaaGreatDoorJoA
import Derived.Test.YtpbpbppimkeodaaGreatDoorMB
import Derived.BigQuiet
namespace Go.Proofs.YtpbpbppimkeodaaGreatDoor
open Go.RowKit Go.Maps

/-- The cells of kids as the model has them. -/
def kcell : Kq → List Value
  | .ty a => [.int .i64 (a : Int), .int .i64 (-1), .bool false]
  | .qn q => [.int .i64 (q.a : Int), .int .i64 (q.b : Int), .bool q.up]
def kcells (ks : List Kq) : List Value := ks.flatMap kcell
/-- A list of kids as the model has it. -/
structure BlAt (w : World) (ao : Option Addr) (g n : Nat) (K : Nat → Kq) : Prop where
  at_ : 0 < n → ao = some ⟨g, 0, none⟩
  c : ∀ i, i < n → ∀ j, j < 3 → w.cell? ⟨g, i * 3 + j, none⟩ = (kcell (K i))[j]?
  len : n ≤ 9223372036854775807

theorem BlAt.below {w w' : World} {ao : Option Addr} {g n : Nat} {K : Nat → Kq} (h : BlAt w ao g n K) (hb : Below w.heap.size w w') : BlAt w' ao g n K :=
  ⟨h.at_, fun i hi j hj => by
    have h1 := h.c i hi j hj
    have h2 : ∃ v, (kcell (K i))[j]? = some v := by
      cases K i <;> (match j, hj with
        | 0, _ => exact ⟨_, rfl⟩
        | 1, _ => exact ⟨_, rfl⟩
        | 2, _ => exact ⟨_, rfl⟩)
    obtain ⟨v, hv⟩ := h2
    rw [hv] at h1 ⊢
    exact (hb.cell (p := ⟨g, i * 3 + j, none⟩) (World.block_lt_of_cell? _ _ h1)).trans h1, h.len⟩

theorem BlAt.qn {w : World} {ao : Option Addr} {g n : Nat} {K : Nat → Kq} (h : BlAt w ao g n K) {i : Nat} (hi : i < n) {q : Qn} (e : K i = .qn q) : w.cell? ⟨g, i * 3, none⟩ = some (.int .i64 (q.a : Int)) ∧ w.cell? ⟨g, i * 3 + 1, none⟩ = some (.int .i64 (q.b : Int)) ∧ w.cell? ⟨g, i * 3 + 2, none⟩ = some (.bool q.up) := by
  have h0 := h.c i hi 0 (by omega)
  have h1 := h.c i hi 1 (by omega)
  have h2 := h.c i hi 2 (by omega)
  rw [e] at h0 h1 h2
  exact ⟨h0, h1, h2⟩
theorem BlAt.ty {w : World} {ao : Option Addr} {g n : Nat} {K : Nat → Kq} (h : BlAt w ao g n K) {i : Nat} (hi : i < n) {a : Nat} (e : K i = .ty a) : w.cell? ⟨g, i * 3, none⟩ = some (.int .i64 (a : Int)) ∧ w.cell? ⟨g, i * 3 + 1, none⟩ = some (.int .i64 (-1)) ∧ w.cell? ⟨g, i * 3 + 2, none⟩ = some (.bool false) := by
  have h0 := h.c i hi 0 (by omega)
  have h1 := h.c i hi 1 (by omega)
  have h2 := h.c i hi 2 (by omega)
  rw [e] at h0 h1 h2
  exact ⟨h0, h1, h2⟩

/-- The place of a question, or -1. -/
def plQ (L : List Qn) (q : Qn) : Int := if q ∈ L then (L.idxOf q : Int) else -1

theorem plQ_at {L : List Qn} {q : Qn} {k : Nat} (hk : k < L.length) (e : L[k] = q) (hb : ∀ j (h : j < k), L[j] ≠ q) : plQ L q = (k : Int) := by
  unfold plQ
  rw [if_pos (by rw [← e]; exact List.getElem_mem _)]
  congr 1
  have h1 : L.idxOf q < L.length := List.idxOf_lt_length_of_mem (by rw [← e]; exact List.getElem_mem _)
  rcases Nat.lt_trichotomy (L.idxOf q) k with h | h | h
  · exact absurd (List.getElem_idxOf h1) (hb _ h)
  · exact h
  · have := List.not_of_lt_findIdx (p := fun x => x == q) (xs := L) (i := k) h
    simp [e] at this

theorem plQ_no {L : List Qn} {q : Qn} (hb : ∀ j (h : j < L.length), L[j] ≠ q) : plQ L q = -1 := by
  unfold plQ
  rw [if_neg (fun hm => by obtain ⟨j, h, e⟩ := List.mem_iff_getElem.1 hm; exact hb j h e)]

set_option maxRecDepth 100000 in
set_option maxHeartbeats 4000000 in
theorem m_blend (ao : Option Addr) (g n cap : Nat) (L : List Qn) (q : Qn) (w : World) (h1 : BlAt w ao g n (fun i => .qn (L.getD i q))) (hl : L.length = n) :
    Calls Tryz.prog 61 #[.slice ao n cap, .agg #[.int .i64 (q.a : Int), .int .i64 (q.b : Int), .bool q.up]] w fun e w' => e = .returned (.int .i64 (plQ L q)) ∧ Below w.heap.size w w' := by
  have HB : Hid (∀ w', Below w.heap.size w w' → BlAt w' ao g n (fun i => .qn (L.getD i q))) := fun w' hb => h1.below hb
  have A1 := h1.at_
  have hlen := h1.len
  have HL : Hid (L.length = n) := hl
  clear h1 hl
  have RO := row3 w (.int .i64 (q.a : Int)) (.int .i64 (q.b : Int)) (.bool q.up) 81
  have o0 := RO.cell (i := 0) (by omega)
  have o1 := RO.cell (i := 1) (by omega)
  have o2 := RO.cell (i := 2) (by omega)
  have HO : Hid (∀ W, Below (w.alloc (.cells #[.int .i64 (q.a : Int), .int .i64 (q.b : Int), .bool q.up] 81)).heap.size (w.alloc (.cells #[.int .i64 (q.a : Int), .int .i64 (q.b : Int), .bool q.up] 81)) W → W.cell? ⟨w.heap.size, 0, none⟩ = some (.int .i64 (q.a : Int)) ∧ W.cell? ⟨w.heap.size, 1, none⟩ = some (.int .i64 (q.b : Int)) ∧ W.cell? ⟨w.heap.size, 2, none⟩ = some (.bool q.up) ∧ Below w.heap.size w W) := fun W hW =>
    ⟨(hW.cell (p := ⟨w.heap.size, 0, none⟩) (by simp)).trans o0, (hW.cell (p := ⟨w.heap.size, 1, none⟩) (by simp)).trans o1, (hW.cell (p := ⟨w.heap.size, 2, none⟩) (by simp)).trans o2, (bel1 _ _).trans (hW.mono (by simp))⟩
  clear RO o0 o1 o2
  obtain ⟨W0, hW0⟩ : ∃ W0, W0 = w.alloc (.cells #[.int .i64 (q.a : Int), .int .i64 (q.b : Int), .bool q.up] 81) := ⟨_, rfl⟩
  go_enter Tryz.func61, Tryz.ntmps61
  go_wp2
  rw [← hW0] at HO ⊢
  clear hW0
  go_loopw [5] (fun i wr => ∃ k : Nat, k ≤ n ∧ i = .int .i64 k ∧ Hid (∀ j, j < k → L.getD j q ≠ q) ∧ Below W0.heap.size W0 wr) (fun i _ => n - (intOf i).toNat)
  case atStart => exact ⟨0, Nat.zero_le _, rfl, fun j hj => absurd hj (Nat.not_lt_zero _), Below.refl _ _⟩
  case round =>
    obtain ⟨k, hk, rfl, HJ, hb⟩ := hrel
    obtain ⟨o0, o1, o2, BW⟩ := HO.out wr hb
    by_cases hlt : k < n
    · have e1 := A1 (by omega)
      subst e1
      obtain ⟨c0, c1, c2⟩ := (HB.out wr BW).qn hlt rfl
      obtain ⟨z, hz⟩ : ∃ z, z = L.getD k q := ⟨_, rfl⟩
      have HZ : Hid (L.getD k q = z) := hz.symm
      rw [← hz] at c0 c1 c2
      clear hz
      have lk : (k : Int) < (n : Int) := by omega
      have HSTEP : Hid (z ≠ q → ∀ j, j < k + 1 → L.getD j q ≠ q) := fun hne j hj => by
        by_cases e : j = k
        · rw [e, HZ.out]; exact hne
        · exact HJ.out j (by omega)
      by_cases ha : z.a = q.a
      · by_cases hbb : z.b = q.b
        · by_cases hu : z.up = q.up
          · have HE : Hid (plQ L q = (k : Int)) := by
              have hkl : k < L.length := by rw [HL.out]; exact hlt
              have gd : ∀ j (h : j < L.length), L.getD j q = L[j] := fun j h => by simp [List.getD, List.getElem?_eq_getElem h]
              refine plQ_at hkl ?_ (fun j h => ?_)
              · rw [← gd k hkl, HZ.out]
                cases z; cases q; simp_all
              · rw [← gd j (by omega)]; exact HJ.out j h
            rw [ha] at c0
            rw [hbb] at c1
            rw [hu] at c2
            clear HSTEP
            go_wp2
            go_quiet (fail)
            go_wp2
            go_ret
            exact ⟨by rw [HE.out]; rfl, below_drewN BW _⟩
          · have HN : Hid (∀ j, j < k + 1 → L.getD j q ≠ q) := HSTEP.out (fun e => hu (by rw [e]))
            rw [ha] at c0
            rw [hbb] at c1
            have hu2 : (z.up == q.up) = false := by rw [beq_eq_false_iff_ne]; exact hu
            clear HSTEP HJ
            go_wp2
            go_quiet (fail)
            go_wp2
            go_roundw
            case rel => exact ⟨k + 1, by omega, by go_num, HN, below_drewN hb _⟩
            case measure => simp [intOf]; omega
        · have HN : Hid (∀ j, j < k + 1 → L.getD j q ≠ q) := HSTEP.out (fun e => hbb (by rw [e]))
          rw [ha] at c0
          have hb2 : ((z.b : Int) == (q.b : Int)) = false := by rw [beq_eq_false_iff_ne]; omega
          clear HSTEP HJ
          go_wp2
          go_quiet (fail)
          go_wp2
          go_roundw
          case rel => exact ⟨k + 1, by omega, by go_num, HN, below_drewN hb _⟩
          case measure => simp [intOf]; omega
      · have HN : Hid (∀ j, j < k + 1 → L.getD j q ≠ q) := HSTEP.out (fun e => ha (by rw [e]))
        have ha2 : ((z.a : Int) == (q.a : Int)) = false := by rw [beq_eq_false_iff_ne]; omega
        clear HSTEP HJ
        go_wp2
        go_quiet (fail)
        go_wp2
        go_roundw
        case rel => exact ⟨k + 1, by omega, by go_num, HN, below_drewN hb _⟩
        case measure => simp [intOf]; omega
    · have hkn : k = n := by omega
      subst hkn
      have HE : Hid (plQ L q = -1) := plQ_no (fun j h => by
        have := HJ.out j (by rw [← HL.out]; exact h)
        simpa [List.getD, List.getElem?_eq_getElem h] using this)
      go_wp2
      go_ret
      exact ⟨by rw [HE.out]; rfl, BW⟩

end Go.Proofs.YtpbpbppimkeodaaGreatDoor
