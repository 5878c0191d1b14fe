/-
  What the model makes of two nodes.
-/
import Derived.Test.YtpbpbppimkeodaaGreatDoorJoB
import Derived.Test.YtpbpbppimkeodaaGreatDoorMD
import Derived.Test.YtpbpbppimkeodaaGreatDoorMV
import Derived.BigQuiet
import Derived.BigRegion
import Derived.Deep.AppendLies
namespace Go.Proofs.YtpbpbppimkeodaaGreatDoor
open Go.RowKit Go.Maps

/-- Two nodes of a graph that keep their shapes. -/
structure ShQ (x : ND) : Prop where
  kids : ∀ j, j < x.nk → 0 ≤ x.kd j
  fn : x.kind = 4 → x.nk = 2
  rc : x.kind = 3 → x.nk = x.nn
  nn : x.nn ≤ 1048576

/-- What is made of two nodes lies in rows of its own. -/
def MixedPost (w : World) (x y : ND) (up : Bool) (e : Ending) (w' : World) : Prop :=
  ∃ (na : Option Addr) (nc : Nat) (ka : Option Addr) (kc : Nat), e = .returned (.tuple #[.int .i64 (mixK x y), .slice na (mixN x y up).length nc, .slice ka (mixQ x y up).length kc]) ∧
    w'.ownsRow w.heap.size 9 1 (.slice na (mixN x y up).length nc) (mixN x y up).length (tcells (mixN x y up)) ∧ w'.ownsRow w.heap.size 81 3 (.slice ka (mixQ x y up).length kc) (mixQ x y up).length (kcells (mixQ x y up)) ∧ Below w.heap.size w w'

theorem mixed_none {x y : ND} (up : Bool) (h : x.kind = 0 ∨ y.kind = 0 ∨ x.kind ≠ y.kind) : mixK x y = 0 ∧ mixN x y up = [] ∧ mixQ x y up = [] := by
  unfold mixK mixN mixQ
  by_cases e : x.kind = y.kind
  · have h0 : x.kind = 0 := by
      rcases h with h | h | h
      · exact h
      · rw [e]; exact h
      · exact absurd e h
    rw [if_pos e, if_pos e, if_neg (by omega), if_neg (by omega), if_neg (by omega)]
    exact ⟨h0, rfl, rfl⟩
  · rw [if_neg e, if_neg e, if_neg (by omega)]
    exact ⟨rfl, rfl, rfl⟩

theorem mixed_plain {x y : ND} (up : Bool) (e : x.kind = y.kind) (h4 : x.kind ≠ 4) (h3 : x.kind ≠ 3) : mixK x y = x.kind ∧ mixN x y up = [] ∧ mixQ x y up = [] := by
  unfold mixK mixN mixQ
  rw [if_pos e, if_pos e, if_neg (by omega), if_neg h4, if_neg h3]
  exact ⟨rfl, rfl, rfl⟩

theorem mixed_empty {w w2 : World} {x y : ND} {up : Bool} {k : Int} (h : mixK x y = k ∧ mixN x y up = [] ∧ mixQ x y up = []) (n1 : w2.ownsRow w.heap.size 9 1 (.slice (some ⟨w.heap.size + 4, 0, none⟩) 0 0) 0 (tcells [])) (hb : Below w.heap.size w w2) (hs : w.heap.size ≤ w2.heap.size) :
    MixedPost w x y up (.returned (.tuple #[.int .i64 k, .slice (some ⟨w.heap.size + 4, 0, none⟩) 0 0, .slice (some ⟨w2.heap.size, 0, none⟩) 0 0])) (w2.alloc (.cells #[] 81)) := by
  obtain ⟨h1, h2, h3⟩ := h
  refine ⟨_, 0, _, 0, by rw [h1, h2, h3]; rfl, ?_, ?_, hb.alloc hs _⟩
  · rw [h2]
    exact own_block n1 (fun j e => Below.heap_alloc _ _ _ (n1.lt j e.symm).2)
  · rw [h3]
    exact World.ownsRow_lit w2 #[] 0 hs (by unfold maxLen; omega) (by rfl)

theorem mixed_drew {w w' : World} {x y : ND} {up : Bool} {e : Ending} {m : Nat} (h : MixedPost w x y up e w') : MixedPost w x y up e (w'.drewN m) := by
  obtain ⟨na, nc, ka, kc, h1, h2, h3, h4⟩ := h
  exact ⟨na, nc, ka, kc, h1, own_block h2 (fun _ _ => rfl), own_block h3 (fun _ _ => rfl), below_drewN h4 _⟩

set_option maxRecDepth 100000 in
set_option maxHeartbeats 8000000 in
theorem m_mixed0 {n b o : Nat} {p : Nat → NP} {H : Nat → ND} (ao : Option Addr) (gc : Nat) (q : Qn) (w : World) (hG : NodesAt w ao b o n p H) (ha : q.a < n) (hb : q.b < n) (sx : ShQ (H q.a)) (sy : ShQ (H q.b)) (hex : (H q.a).kind ≠ (H q.b).kind ∨ ((H q.a).kind ≠ 3 ∧ (H q.a).kind ≠ 4)) :
    Calls Tryz.prog 60 #[.agg #[.slice ao n gc], .agg #[.int .i64 (q.a : Int), .int .i64 (q.b : Int), .bool q.up]] w (MixedPost w (H q.a) (H q.b) q.up) := by
  have A1 := hG.at_ (by omega)
  subst A1
  have HG : Hid (∀ w', Below w.heap.size w w' → NodesAt w' (some ⟨b, o, none⟩) b o n p H) := fun w' hb => hG.below hb
  clear hG
  obtain ⟨x, hx⟩ : ∃ x, x = H q.a := ⟨_, rfl⟩
  obtain ⟨y, hy⟩ : ∃ y, y = H q.b := ⟨_, rfl⟩
  obtain ⟨px, hpx⟩ : ∃ y, y = p q.a := ⟨_, rfl⟩
  obtain ⟨py, hpy⟩ : ∃ y, y = p q.b := ⟨_, rfl⟩
  have HC : Hid (∀ w', Below w.heap.size w w' → (w'.cell? ⟨b, o + q.a * 3, none⟩ = some (.int .i64 x.kind) ∧ w'.cell? ⟨b, o + q.a * 3 + 1, none⟩ = some (.slice px.a1 x.nn px.c1) ∧ w'.cell? ⟨b, o + q.a * 3 + 2, none⟩ = some (.slice px.a2 x.nk px.c2)) ∧ (w'.cell? ⟨b, o + q.b * 3, none⟩ = some (.int .i64 y.kind) ∧ w'.cell? ⟨b, o + q.b * 3 + 1, none⟩ = some (.slice py.a1 y.nn py.c1) ∧ w'.cell? ⟨b, o + q.b * 3 + 2, none⟩ = some (.slice py.a2 y.nk py.c2)) ∧ NodeAt w' px x ∧ NodeAt w' py y) := fun w' hw => by
    have N := HG.out w' hw
    rw [hx, hy, hpx, hpy]
    exact ⟨⟨N.c0 _ ha, N.c1 _ ha, N.c2 _ ha⟩, ⟨N.c0 _ hb, N.c1 _ hb, N.c2 _ hb⟩, N.node _ ha, N.node _ hb⟩
  rw [← hx, ← hy]
  rw [← hx, ← hy] at hex
  rw [← hx] at sx
  rw [← hy] at sy
  have SX : Hid (ShQ x) := sx
  have SY : Hid (ShQ y) := sy
  clear hx hy hpx hpy sx sy HG
  have la : (q.a : Int) < (n : Int) := by omega
  have lb : (q.b : Int) < (n : Int) := by omega
  obtain ⟨qa, hqa⟩ : ∃ z, z = q.a := ⟨_, rfl⟩
  obtain ⟨qb, hqb⟩ : ∃ z, z = q.b := ⟨_, rfl⟩
  obtain ⟨qu, hqu⟩ : ∃ z, z = q.up := ⟨_, rfl⟩
  rw [← hqa, ← hqb, ← hqu]
  rw [← hqa] at la HC
  rw [← hqb] at lb HC
  clear hqa hqb hqu ha hb
  obtain ⟨W2, hW2⟩ : ∃ W2, W2 = (w.alloc (.cells #[.slice (some ⟨b, o, none⟩) n gc] 29)).alloc (.cells #[.int .i64 (qa : Int), .int .i64 (qb : Int), .bool qu] 81) := ⟨_, rfl⟩
  have B2 : Below w.heap.size w W2 := by rw [hW2]; exact bel2 _ _ _
  obtain ⟨⟨a0, a1, a2⟩, _, _⟩ := HC.out W2 B2
  rw [hW2] at a0 a1 a2
  have b0 := fun v => (HC.out _ (bel3 w (.cells #[.slice (some ⟨b, o, none⟩) n gc] 29) (.cells #[.int .i64 (qa : Int), .int .i64 (qb : Int), .bool qu] 81) (.cells #[v, .slice px.a1 x.nn px.c1, .slice px.a2 x.nk px.c2] 48))).2.1.1
  have b1 := fun v => (HC.out _ (bel3 w (.cells #[.slice (some ⟨b, o, none⟩) n gc] 29) (.cells #[.int .i64 (qa : Int), .int .i64 (qb : Int), .bool qu] 81) (.cells #[v, .slice px.a1 x.nn px.c1, .slice px.a2 x.nk px.c2] 48))).2.1.2.1
  have b2 := fun v => (HC.out _ (bel3 w (.cells #[.slice (some ⟨b, o, none⟩) n gc] 29) (.cells #[.int .i64 (qa : Int), .int .i64 (qb : Int), .bool qu] 81) (.cells #[v, .slice px.a1 x.nn px.c1, .slice px.a2 x.nk px.c2] 48))).2.1.2.2
  have HW : Hid (∀ u v : Value, ∃ W5, W5 = ((((w.alloc (.cells #[.slice (some ⟨b, o, none⟩) n gc] 29)).alloc (.cells #[.int .i64 (qa : Int), .int .i64 (qb : Int), .bool qu] 81)).alloc (.cells #[v, .slice px.a1 x.nn px.c1, .slice px.a2 x.nk px.c2] 48)).alloc (.cells #[u, .slice py.a1 y.nn py.c1, .slice py.a2 y.nk py.c2] 48)).alloc (.cells #[] 9) ∧ W5.heap.size = w.heap.size + 5 ∧ Below w.heap.size w W5 ∧ W5.ownsRow w.heap.size 9 1 (.slice (some ⟨w.heap.size + 4, 0, none⟩) 0 0) 0 (tcells []) ∧ W5.cell? ⟨w.heap.size + 1, 2, none⟩ = some (.bool qu) ∧ (W5.cell? ⟨w.heap.size + 1 + 1, 1, none⟩ = some (.slice px.a1 x.nn px.c1) ∧ W5.cell? ⟨w.heap.size + 1 + 1, 2, none⟩ = some (.slice px.a2 x.nk px.c2)) ∧ (W5.cell? ⟨w.heap.size + 1 + 1 + 1, 1, none⟩ = some (.slice py.a1 y.nn py.c1) ∧ W5.cell? ⟨w.heap.size + 1 + 1 + 1, 2, none⟩ = some (.slice py.a2 y.nk py.c2))) := fun u v => by
    have hs : ((((w.alloc (.cells #[.slice (some ⟨b, o, none⟩) n gc] 29)).alloc (.cells #[.int .i64 (qa : Int), .int .i64 (qb : Int), .bool qu] 81)).alloc (.cells #[v, .slice px.a1 x.nn px.c1, .slice px.a2 x.nk px.c2] 48)).alloc (.cells #[u, .slice py.a1 y.nn py.c1, .slice py.a2 y.nk py.c2] 48)).heap.size = w.heap.size + 4 := by simp
    have r1 := row3 (w.alloc (.cells #[.slice (some ⟨b, o, none⟩) n gc] 29)) (.int .i64 (qa : Int)) (.int .i64 (qb : Int)) (.bool qu) 81
    have r2 := row3 ((w.alloc (.cells #[.slice (some ⟨b, o, none⟩) n gc] 29)).alloc (.cells #[.int .i64 (qa : Int), .int .i64 (qb : Int), .bool qu] 81)) v (.slice px.a1 x.nn px.c1) (.slice px.a2 x.nk px.c2) 48
    have r3 := row3 (((w.alloc (.cells #[.slice (some ⟨b, o, none⟩) n gc] 29)).alloc (.cells #[.int .i64 (qa : Int), .int .i64 (qb : Int), .bool qu] 81)).alloc (.cells #[v, .slice px.a1 x.nn px.c1, .slice px.a2 x.nk px.c2] 48)) u (.slice py.a1 y.nn py.c1) (.slice py.a2 y.nk py.c2) 48
    simp only [World.size_alloc] at r1 r2 r3
    refine ⟨_, rfl, by simp, (bel3 w _ _ _).trans ((bel2 _ _ _).mono (by simp; omega)), ?_, ((((r1.alloc _).alloc _).alloc _).cell (i := 2) (by omega)), ⟨(((r2.alloc _).alloc _).cell (i := 1) (by omega)), (((r2.alloc _).alloc _).cell (i := 2) (by omega))⟩, ⟨((r3.alloc _).cell (i := 1) (by omega)), ((r3.alloc _).cell (i := 2) (by omega))⟩⟩
    have := World.ownsRow_lit ((((w.alloc (.cells #[.slice (some ⟨b, o, none⟩) n gc] 29)).alloc (.cells #[.int .i64 (qa : Int), .int .i64 (qb : Int), .bool qu] 81)).alloc (.cells #[v, .slice px.a1 x.nn px.c1, .slice px.a2 x.nk px.c2] 48)).alloc (.cells #[u, .slice py.a1 y.nn py.c1, .slice py.a2 y.nk py.c2] 48)) (e := 9) (size := 1) (base := w.heap.size) #[] 0 (by rw [hs]; omega) (by unfold maxLen; omega) (by rfl)
    rw [hs] at this
    exact this
  go_enter Tryz.func60, Tryz.ntmps60
  by_cases hA : x.kind = 0 ∨ y.kind = 0 ∨ x.kind ≠ y.kind
  · have HM : Hid (mixK x y = 0 ∧ mixN x y qu = [] ∧ mixQ x y qu = []) := mixed_none qu hA
    by_cases h1 : x.kind = 0
    · have q1 : (x.kind == 0) = true := by rw [beq_iff_eq]; exact h1
      clear hA
      go_wp2
      obtain ⟨W5, e5, z5, b5, o5, cm, ⟨cx1, cx2⟩, ⟨cy1, cy2⟩⟩ := HW.out (.int .i64 y.kind) (.int .i64 0)
      have F := mixed_empty HM.out o5 b5 (by omega)
      rw [z5] at F
      rw [e5] at F
      exact bodyPost_ret (v := .tuple #[.int .i64 0, .slice (some ⟨w.heap.size + 4, 0, none⟩) 0 0, .slice (some ⟨w.heap.size + 5, 0, none⟩) 0 0]) (by simp [results, Tryz.results60, go_sem]) rfl F
    · have q1 : (x.kind == 0) = false := by rw [beq_eq_false_iff_ne]; exact h1
      by_cases h2 : y.kind = 0
      · have q2 : (y.kind == 0) = true := by rw [beq_iff_eq]; exact h2
        clear hA
        go_wp2
        obtain ⟨W5, e5, z5, b5, o5, cm, ⟨cx1, cx2⟩, ⟨cy1, cy2⟩⟩ := HW.out (.int .i64 0) (.int .i64 x.kind)
        have F := mixed_empty HM.out o5 b5 (by omega)
        rw [z5] at F
        rw [e5] at F
        exact bodyPost_ret (v := .tuple #[.int .i64 0, .slice (some ⟨w.heap.size + 4, 0, none⟩) 0 0, .slice (some ⟨w.heap.size + 5, 0, none⟩) 0 0]) (by simp [results, Tryz.results60, go_sem]) rfl F
      · have q2 : (y.kind == 0) = false := by rw [beq_eq_false_iff_ne]; exact h2
        have h3 : ¬ x.kind = y.kind := by
          rcases hA with h | h | h
          · exact absurd h h1
          · exact absurd h h2
          · exact h
        clear hA
        go_wp2
        obtain ⟨W5, e5, z5, b5, o5, cm, ⟨cx1, cx2⟩, ⟨cy1, cy2⟩⟩ := HW.out (.int .i64 y.kind) (.int .i64 x.kind)
        have F := mixed_empty HM.out o5 b5 (by omega)
        rw [z5] at F
        rw [e5] at F
        exact bodyPost_ret (v := .tuple #[.int .i64 0, .slice (some ⟨w.heap.size + 4, 0, none⟩) 0 0, .slice (some ⟨w.heap.size + 5, 0, none⟩) 0 0]) (by simp [results, Tryz.results60, go_sem]) rfl F
  · skip
    have e : x.kind = y.kind := by
      by_cases h : x.kind = y.kind
      · exact h
      · exact absurd (Or.inr (Or.inr h)) hA
    have hk0 : ¬ y.kind = 0 := fun h => hA (Or.inr (Or.inl h))
    obtain ⟨k, hk⟩ : ∃ k, k = y.kind := ⟨_, rfl⟩
    have HKX : Hid (x.kind = k) := by show x.kind = k; rw [e, hk]
    have HKY : Hid (y.kind = k) := hk.symm
    rw [e, ← hk] at a0
    simp only [← hk] at b0
    rw [← hk] at hk0
    have h34 : k ≠ 3 ∧ k ≠ 4 := by
      rcases hex with h | h
      · exact absurd e h
      · rw [e, ← hk] at h; exact h
    clear hA e hk hex
    have q0 : (k == 0) = false := by rw [beq_eq_false_iff_ne]; exact hk0
    have h4 : ¬ k = 4 := h34.2
    have h3 : ¬ k = 3 := h34.1
    have q4 : (k == 4) = false := by rw [beq_eq_false_iff_ne]; exact h4
    have q3 : (k == 3) = false := by rw [beq_eq_false_iff_ne]; exact h3
    have HM : Hid (mixK x y = k ∧ mixN x y qu = [] ∧ mixQ x y qu = []) := by
      have := mixed_plain (x := x) (y := y) qu (HKX.out.trans HKY.out.symm) (by rw [HKX.out]; exact h4) (by rw [HKX.out]; exact h3)
      rw [HKX.out] at this
      exact this
    go_wp2
    obtain ⟨W5, e5, z5, b5, o5, cm, ⟨cx1, cx2⟩, ⟨cy1, cy2⟩⟩ := HW.out (.int .i64 k) (.int .i64 k)
    have F := mixed_empty HM.out o5 b5 (by omega)
    rw [z5] at F
    rw [e5] at F
    exact bodyPost_ret (v := .tuple #[.int .i64 k, .slice (some ⟨w.heap.size + 4, 0, none⟩) 0 0, .slice (some ⟨w.heap.size + 5, 0, none⟩) 0 0]) (by simp [results, Tryz.results60, go_sem]) rfl F

end Go.Proofs.YtpbpbppimkeodaaGreatDoor
