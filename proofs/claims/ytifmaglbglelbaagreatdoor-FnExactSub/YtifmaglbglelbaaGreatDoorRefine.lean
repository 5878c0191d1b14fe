/-
  One part is worked off, run by run, told without a program: what stays in order, and what is told apart.
-/
import Derived.Test.YtifmaglbglelbaaGreatDoorMC
import Derived.Test.YtifmaglbglelbaaGreatDoorInto
namespace Go.Proofs.YtifmaglbglelbaaGreatDoor

/-- The parts behind a split. -/
def splitS (s : PS) (es : Nat → Nat × Nat) (m : Nat) : PS := waitAll (stAt s es m m).s (stAt s es m m).dv

/-- A part that is one, and waits. -/
def wt (s : PS) (q : Nat) : Prop := q < s.nr ∧ s.waits q = true

/-- What stays in order. -/
structure Ok (N : Nat) (s : PS) : Prop where
  wf : Wf N s
  full : Full N s
  wq : Wq s

theorem settle_cnt (lv : Nat → Nat) (st : SpS) (q : Nat) : (settle lv st q).s.nr + st.dv.length = st.s.nr + (settle lv st q).dv.length := by
  unfold settle
  split
  · rfl
  · split
    · show st.s.nr + 1 + st.dv.length = st.s.nr + (st.dv ++ [_]).length
      simp; omega
    · rfl

theorem stAt_count (s : PS) (es : Nat → Nat × Nat) (m : Nat) : ∀ j, (stAt s es m j).s.nr = s.nr + (stAt s es m j).dv.length
  | 0 => rfl
  | j + 1 => by
    have h := stAt_count s es m j
    rw [stAt_succ]
    obtain ⟨_, e2, _, e4⟩ := goes_np (settle (cnt s es m) (stAt s es m j) ((stAt s es m j).s.of (es j).2)) (es j).2
    rw [e2, e4]
    have := settle_cnt (cnt s es m) (stAt s es m j) ((stAt s es m j).s.of (es j).2)
    omega

section
variable {N : Nat} {s : PS} {es : Nat → Nat × Nat} {m : Nat}

theorem split_nr : (splitS s es m).nr = s.nr + (stAt s es m m).dv.length := by
  unfold splitS
  rw [(waitAll_same _ _).2.2.1]
  exact stAt_count s es m m

theorem dv_lt (hW : Wf N s) (hf : ∀ i, i < m → (es i).2 < N) (hd : (nodesOf es m).Nodup) : ∀ d, d ∈ (stAt s es m m).dv → d.1 < (stAt s es m m).s.nr ∧ d.2 < (stAt s es m m).s.nr := by
  have h := stAt_si hW hf hd (Nat.le_refl m)
  rintro ⟨q, t⟩ hm
  obtain ⟨h1, h2⟩ := (h.dv q t).1 hm
  obtain ⟨a1, a2, _⟩ := h.np q t h1
  have := h.nr
  refine ⟨by show q < _; omega, ?_⟩
  rcases a2 with c | c
  · exact absurd c h2
  · exact c.2

theorem stAt_wq (hW : Wf N s) (hq : Wq s) (hf : ∀ i, i < m → (es i).2 < N) (hd : (nodesOf es m).Nodup) : Wq (stAt s es m m).s := by
  have h := stAt_si hW hf hd (Nat.le_refl m)
  have hn := h.nr
  refine ⟨fun q e => ?_, fun q hlt => ?_, by rw [h.waiting]; exact hq.nodup⟩
  · rw [h.waiting] at e
    have := hq.lt q e
    omega
  · rw [h.waiting]
    by_cases c : q < s.nr
    · rw [h.waits q c]; exact hq.iff q c
    · rw [h.fresh q (by omega) hlt]
      exact ⟨fun e => (by cases e), fun e => absurd (hq.lt q e) c⟩

theorem split_okay (h : Ok N s) (hf : ∀ i, i < m → (es i).2 < N) (hd : (nodesOf es m).Nodup) : Ok N (splitS s es m) :=
  ⟨wait_wf (stAt_si h.wf hf hd (Nat.le_refl m)).wf _, full_split h.wf h.full hf hd, wq_waitAll _ (stAt_wq h.wf h.wq hf hd) (dv_lt h.wf hf hd)⟩

theorem split_waiting (hW : Wf N s) (hf : ∀ i, i < m → (es i).2 < N) (hd : (nodesOf es m).Nodup) : (splitS s es m).waiting.length + s.nr ≤ s.waiting.length + (splitS s es m).nr := by
  have h1 := waitAll_len (stAt s es m m).dv (stAt s es m m).s
  rw [(stAt_si hW hf hd (Nat.le_refl m)).waiting] at h1
  have h2 := split_nr (s := s) (es := es) (m := m)
  show (waitAll (stAt s es m m).s (stAt s es m m).dv).waiting.length + _ ≤ _
  omega

/-- The split, of the parts that are there. -/
theorem split_is (h : Ok N s) (hf : ∀ i, i < m → (es i).2 < N) (hd : (nodesOf es m).Nodup) {X : Nat → Prop} (hX : ∀ x, x < N → (x ∈ nodesOf es m ↔ X x)) :
    Split N s.of (splitS s es m).of (wt s) (wt (splitS s es m)) X := by
  have hs := stAt_si h.wf hf hd (Nat.le_refl m)
  rw [cnt_leaves] at hs
  have k := split_ok h.wf (nodes_all hf (Nat.le_refl m)) hd hs
  have o := (split_okay h hf hd).wf
  refine ⟨fun x y hx hy => ?_, fun x hx w => ⟨o.lt x hx, k.old x hx w.2⟩, fun x y hx hy e ne => ?_⟩
  · rw [← hX x hx, ← hX y hy]; exact k.part x y hx hy
  · rcases k.one x y hx hy e ne with c | c
    · exact Or.inl ⟨o.lt x hx, c⟩
    · exact Or.inr ⟨o.lt y hy, c⟩
end

/-- All places are worked off: at the others no edge leads into C. -/
theorem Stab.over2 {N : Nat} {G : Nat → ND} {of : Nat → Nat} {waits : Nat → Prop} {C pend C' : Nat → Prop} (hP : Parts N G of) (h : Stab N G of waits C pend) (hn : ∀ j, pend j → ∀ x, x < N → j < (G x).nk → ¬ C (kid (G x) j)) : Stab N G of waits C' (fun _ => False) :=
  fun x y hx hy e j hj hw _ => h x y hx hy e j hj hw (fun hp => by
    have hj' : j < (G y).nk := by rw [← (hP.lab x y hx hy e).nk]; exact hj
    exact ⟨fun c => absurd c (hn j hp x hx hj), fun c => absurd c (hn j hp y hy hj')⟩)

/-- The edges into a set of nodes, in the order of their places. -/
structure Edges (N : Nat) (G : Nat → ND) (C : Nat → Prop) (m : Nat) (es : Nat → Nat × Nat) : Prop where
  into : ∀ i, i < m → (es i).2 < N ∧ (es i).1 < (G (es i).2).nk ∧ C (kid (G (es i).2) (es i).1)
  all : ∀ x j, x < N → j < (G x).nk → C (kid (G x) j) → ∃ i, i < m ∧ es i = (j, x)
  once : ∀ i k, i < m → k < m → es i = es k → i = k
  sorted : ∀ i k, i < k → k < m → (es i).1 ≤ (es k).1

/-- What holds between two runs. -/
structure Run (N : Nat) (G : Nat → ND) (C : Nat → Prop) (m : Nat) (es : Nat → Nat × Nat) (s : PS) (r : Nat) : Prop where
  ok : Ok N s
  parts : Parts N G s.of
  stab : Stab N G s.of (wt s) C (fun j => ∀ i, i < r → (es i).1 ≠ j)
  cut : ∀ i, i < r → r < m → (es i).1 < (es r).1
  le : r ≤ m

theorem run_nodup {N : Nat} {G : Nat → ND} {C : Nat → Prop} {m : Nat} {es : Nat → Nat × Nat} (hE : Edges N G C m es) {r e : Nat} (he : e ≤ m) (hr : r ≤ e) (hp : ∀ i, r ≤ i → i < e → (es i).1 = (es r).1) : (nodesOf (fun i => es (r + i)) (e - r)).Nodup := by
  unfold nodesOf
  rw [List.Nodup, List.pairwise_iff_getElem]
  intro i j hi hj hij
  simp only [List.length_map, List.length_range] at hi hj
  simp only [List.getElem_map, List.getElem_range]
  intro c
  have h1 := hp (r + i) (by omega) (by omega)
  have h2 := hp (r + j) (by omega) (by omega)
  have := hE.once (r + i) (r + j) (by omega) (by omega) (Prod.ext (h1.trans h2.symm) c)
  omega

theorem run_step {N : Nat} {G : Nat → ND} {C : Nat → Prop} {m : Nat} {es : Nat → Nat × Nat} {s : PS} {r e : Nat} (hK : Kids N G) (hC : ∀ u v, u < N → v < N → Same N G u v → (C u ↔ C v)) (hE : Edges N G C m es) (h : Run N G C m es s r) (hr : r < e) (he : e ≤ m)
    (hp : ∀ i, r ≤ i → i < e → (es i).1 = (es r).1) (hend : e < m → (es e).1 ≠ (es r).1) : Run N G C m es (splitS s (fun i => es (r + i)) (e - r)) e := by
  have hf : ∀ i, i < e - r → (es (r + i)).2 < N := fun i hi => (hE.into (r + i) (by omega)).1
  have hd := run_nodup hE he (Nat.le_of_lt hr) hp
  have hX : ∀ x, x < N → (x ∈ nodesOf (fun i => es (r + i)) (e - r) ↔ (es r).1 < (G x).nk ∧ C (kid (G x) (es r).1)) := by
    intro x hx
    constructor
    · intro hm
      obtain ⟨i, hi, rfl⟩ := nodes_mem hm
      obtain ⟨_, h2, h3⟩ := hE.into (r + i) (by omega)
      rw [hp (r + i) (by omega) (by omega)] at h2 h3
      exact ⟨h2, h3⟩
    · rintro ⟨h1, h2⟩
      obtain ⟨i, hi, ei⟩ := hE.all x (es r).1 hx h1 h2
      have p1 : (es i).1 = (es r).1 := by rw [ei]
      have g1 : r ≤ i := by
        apply Classical.byContradiction
        intro c
        have := h.cut i (by omega) (by omega)
        omega
      have g2 : i < e := by
        apply Classical.byContradiction
        intro c
        have k1 := hE.sorted r e hr (by omega)
        have k2 := hend (by omega)
        by_cases ce : i = e
        · subst ce; exact k2 p1
        · have := hE.sorted e i (by omega) hi
          omega
      refine List.mem_map.2 ⟨i - r, List.mem_range.2 (by omega), ?_⟩
      show (es (r + (i - r))).2 = x
      rw [show r + (i - r) = i by omega, ei]
  have sp := split_is h.ok hf hd hX
  refine ⟨split_okay h.ok hf hd, h.parts.split hK hC sp, ?_, fun i hi hlt => ?_, he⟩
  · have := h.stab.split hK h.parts sp
    intro x y hx hy e1 j hj hw hc
    refine this x y hx hy e1 j hj hw (fun hpd => hc (fun i hi => ?_))
    by_cases c : i < r
    · exact hpd.1 i c
    · rw [hp i (by omega) hi]; exact fun c' => hpd.2 c'.symm
  · have k1 := hE.sorted r e hr hlt
    have k2 := hend hlt
    by_cases c : i < r
    · have := h.cut i c (by omega)
      omega
    · rw [hp i (by omega) hi]; omega

/-- A part is popped. -/
def popS (s : PS) (P : Nat) : PS := { s with waits := upd s.waits P false, waiting := s.waiting.dropLast }

theorem pop_ok {N : Nat} {s : PS} (h : Ok N s) {P : Nat} (hl : s.waiting.getLast? = some P) : Ok N (popS s P) := by
  obtain ⟨ys, hy⟩ : ∃ ys, s.waiting = ys ++ [P] := List.getLast?_eq_some_iff.1 hl
  have hn := h.wq.nodup
  rw [hy, List.nodup_append] at hn
  have hd : s.waiting.dropLast = ys := by rw [hy]; simp
  refine ⟨⟨h.wf.lt, h.wf.here, h.wf.row⟩, h.full, ⟨fun q hq => ?_, fun q hq => ?_, ?_⟩⟩
  · have hq' : q ∈ ys := by rw [← hd]; exact hq
    exact h.wq.lt q (by rw [hy]; exact List.mem_append.2 (Or.inl hq'))
  · show upd s.waits P false q = true ↔ q ∈ s.waiting.dropLast
    rw [hd]
    by_cases c : q = P
    · subst c
      rw [upd_same]
      exact ⟨fun e => (by cases e), fun e => absurd rfl (hn.2.2 q e q (by simp))⟩
    · rw [upd_other _ _ c, h.wq.iff q hq, hy]
      simp [c]
  · show s.waiting.dropLast.Nodup
    rw [hd]; exact hn.1

theorem pop_run {N : Nat} {G : Nat → ND} {s : PS} {m : Nat} {es : Nat → Nat × Nat} {C0 : Nat → Prop} (h : Ok N s) (hp : Parts N G s.of) (hs : Stab N G s.of (wt s) C0 (fun _ => False)) {P : Nat} (hl : s.waiting.getLast? = some P) : Run N G (fun u => s.of u = P) m es (popS s P) 0 := by
  refine ⟨pop_ok h hl, hp, ?_, fun i hi => absurd hi (Nat.not_lt_zero _), Nat.zero_le _⟩
  have := hs.pop P
  intro x y hx hy e j hj hw hc
  refine this x y hx hy e j hj (fun q hq => ?_) (fun _ => hc (fun i hi => absurd hi (Nat.not_lt_zero _)))
  exact hw q ⟨hq.1.1, by show upd s.waits P false q = true; rw [upd_other _ _ hq.2]; exact hq.1.2⟩

/-- A part is worked off. -/
theorem run_over {N : Nat} {G : Nat → ND} {C C' : Nat → Prop} {m : Nat} {es : Nat → Nat × Nat} {s : PS} (hE : Edges N G C m es) (h : Run N G C m es s m) : Stab N G s.of (wt s) C' (fun _ => False) :=
  h.stab.over2 h.parts (fun j hp x hx hj c => by
    obtain ⟨i, hi, e⟩ := hE.all x j hx hj c
    exact hp i hi (by rw [e]))

end Go.Proofs.YtifmaglbglelbaaGreatDoor
