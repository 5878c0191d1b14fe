/-
  What the split's third loop needs: pairs in a row, a part that waits (already, or from now on), and the parts' lengths.
-/
import Derived.Test.YtifmaglbglelbaaGreatDoorMC
import Derived.Test.YtifmaglbglelbaaGreatDoorRefine
namespace Go.Proofs.YtifmaglbglelbaaGreatDoor
open Go.RowKit Go.Maps

theorem pcells_at {ord : List (Nat × Nat)} : ∀ {i : Nat} {q : Nat × Nat}, ord[i]? = some q → (pcells ord)[i * 2]? = some (.int .i64 (q.1 : Int)) ∧ (pcells ord)[i * 2 + 1]? = some (.int .i64 (q.2 : Int)) := by
  induction ord with
  | nil => intro i q h; simp at h
  | cons z t ih =>
    intro i q h
    cases i with
    | zero => simp at h; subst h; simp [pcells]
    | succ i =>
      have h' : t[i]? = some q := by simpa using h
      obtain ⟨h1, h2⟩ := ih h'
      have e : pcells (z :: t) = .int .i64 (z.1 : Int) :: .int .i64 (z.2 : Int) :: pcells t := by simp [pcells]
      rw [e]
      refine ⟨?_, ?_⟩
      · rw [show (i + 1) * 2 = i * 2 + 1 + 1 from by omega]; simpa using h1
      · rw [show (i + 1) * 2 + 1 = i * 2 + 1 + 1 + 1 from by omega]; simpa using h2

/-- The cells of a pair in its place. -/
theorem own_pair {w : World} {base : Nat} {e : TypeId} {ov : Value} {ord : List (Nat × Nat)} (h : w.ownsRow base e 2 ov ord.length (pcells ord)) {i : Nat} {q : Nat × Nat} (hq : ord[i]? = some q) :
    ∃ g cap, ov = .slice (some ⟨g, 0, none⟩) ord.length cap ∧ w.cell? ⟨g, i * 2, none⟩ = some (.int .i64 (q.1 : Int)) ∧ w.cell? ⟨g, i * 2 + 1, none⟩ = some (.int .i64 (q.2 : Int)) := by
  obtain ⟨hlt, _⟩ := List.getElem?_eq_some_iff.1 hq
  rcases h.2 with ⟨_, h0⟩ | ⟨g, cap, _, rfl, _⟩
  · omega
  · have hc := pcells_at hq
    exact ⟨g, cap, rfl, by rw [h.cellAt _ (by omega)]; exact hc.1, by rw [h.cellAt _ (by omega)]; exact hc.2⟩

/-- A part waits: already, or from now on. -/
theorem c96 (base pb bo ba N : Nat) (rv wv qv : Value) (rvs : Nat → Value) (s : PS) (part : Nat) (w : World) (h : Pt w base pb bo ba N rv wv qv rvs s) (hp : part < s.nr) (hr : s.nr ≤ 1048576) (hq : s.waiting.length ≤ 1048576) :
    Calls Tryz.prog 60 #[.pointer (some ⟨pb, 0, none⟩), .int .i64 (part : Int)] w fun e w' => e = .returned (.tuple #[]) ∧ ∃ qv', Pt w' base pb bo ba N rv wv qv' rvs (waitS s part) ∧ Fr base w w' (pblk pb bo ba rv wv qv rvs s.nr) (pblk pb bo ba rv wv qv' rvs (waitS s part).nr) := by
  cases hw : s.waits part
  · have e : waitS s part = { s with waits := upd s.waits part true, waiting := s.waiting ++ [part] } := by unfold waitS; rw [if_neg (by rw [hw]; exact Bool.false_ne_true)]
    rw [e]
    exact c96n base pb bo ba N rv wv qv rvs s part w h hp hr hq hw
  · have e : waitS s part = s := by unfold waitS; rw [if_pos hw]
    rw [e]
    refine (c96o base pb bo ba N rv wv qv rvs s part w h hp hr hw).mono ?_
    rintro e' w' ⟨rfl, k, rfl⟩
    have B : Below w.heap.size w (w.drewN k) := below_drewN (Below.refl _ _) k
    exact ⟨rfl, qv, h.below B, Fr.of_below _ h.big.2.2.2 B⟩

theorem waitAll_take {dv : List (Nat × Nat)} {k : Nat} {d : Nat × Nat} (h : dv[k]? = some d) (s : PS) : waitAll s (dv.take (k + 1)) = waitOne (waitAll s (dv.take k)) d := by
  have hk := (List.getElem?_eq_some_iff.1 h).1
  have e : dv.take (k + 1) = dv.take k ++ [d] := by
    rw [List.take_add_one, h]; rfl
  unfold waitAll
  rw [e, List.foldl_append]; rfl

theorem waitOne_yes {s : PS} {d : Nat × Nat} (h : s.waits d.1 = true ∨ (s.rows d.2).length ≤ (s.rows d.1).length) : waitOne s d = waitS s d.2 := by
  unfold waitOne
  rw [if_pos]
  rcases h with h | h <;> simp [h]
theorem waitOne_no {s : PS} {d : Nat × Nat} (h1 : s.waits d.1 = false) (h2 : ¬ (s.rows d.2).length ≤ (s.rows d.1).length) : waitOne s d = waitS s d.1 := by
  unfold waitOne
  rw [if_neg]
  simp [h1]; omega

theorem waitAll_take_len (dv : List (Nat × Nat)) (s : PS) (k : Nat) : (waitAll s (dv.take k)).waiting.length ≤ s.waiting.length + dv.length := by
  have h1 := waitAll_len (dv.take k) s
  have h2 : (dv.take k).length ≤ dv.length := by rw [List.length_take]; exact Nat.min_le_right _ _
  omega

end Go.Proofs.YtifmaglbglelbaaGreatDoor
