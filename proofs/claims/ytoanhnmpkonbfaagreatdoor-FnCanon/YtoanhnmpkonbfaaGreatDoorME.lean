/-
  Merged for the claim: SubSmall SubFields SubDone SuA.
-/
import Derived.Test.YtoanhnmpkonbfaaGreatDoorSubRel
import Derived.Test.YtoanhnmpkonbfaaGreatDoorSmall
import Derived.Sort.Walk0
namespace Go.Proofs.YtoanhnmpkonbfaaGreatDoor

/-- Nodes of one class have one label, and their kids lie in one class. -/
def Cong (N : Nat) (G : Nat → ND) (cl : Nat → Nat) : Prop := ∀ x y, x < N → y < N → cl x = cl y → Lab (G x) (G y) ∧ ∀ j, j < (G x).nk → cl (kid (G x) j) = cl (kid (G y) j)

theorem cong_id (N : Nat) (G : Nat → ND) : Cong N G (fun i => i) := by
  intro x y _ _ e
  have e' : x = y := e
  subst e'
  exact ⟨Lab.refl _, fun _ _ => rfl⟩

theorem cong_same {N : Nat} {G : Nat → ND} {cl : Nat → Nat} (hK : Kids N G) (h : ∀ x y, x < N → y < N → (cl x = cl y ↔ Same N G x y)) : Cong N G cl := by
  intro x y hx hy e
  have hs := (h x y hx hy).1 e
  have hl := hs.lab hx hy
  exact ⟨hl, fun j hj => (h _ _ (hK.lt hx hj) (hK.lt hy (by rw [← hl.nk]; exact hj))).2 (hs.kid hx hy hj)⟩

/-- Whoever stands has his class at his number. -/
theorem numOf_cl {cl : Nat → Nat} {S : List Nat} {n : Nat} (h : stands cl S n = true) : cl (S.getD (numOf cl S n) 0) = cl n := by
  have hlt := numOf_lt h
  have h' : (S.map cl).idxOf (cl n) < (S.map cl).length := by rw [List.length_map]; exact hlt
  have e := List.getElem_idxOf h'
  rw [List.getElem_map] at e
  have : S.getD (numOf cl S n) 0 = S[(S.map cl).idxOf (cl n)]'(by rw [List.length_map] at h'; exact h') := by
    unfold numOf
    rw [List.getD_eq_getElem?_getD, List.getElem?_eq_getElem]
    rfl
  rw [this]; exact e

/-- Who is alike a number. -/
def Num1 (N : Nat) (cl : Nat → Nat) (S : List Nat) : Nat → Nat → Prop := fun i x => i < S.length ∧ x < N ∧ cl (S.getD i 0) = cl x

theorem across_G2 {N : Nat} {G : Nat → ND} {cl : Nat → Nat} {S : List Nat} (hK : Kids N G) (hc : Cong N G cl) (hP : ∀ x, x < N → Plain (G x)) (hS : ∀ s, s ∈ S → s < N) (hC : ∀ s, s ∈ S → Covered G cl S s) : Across (G2 G cl S) G (Num1 N cl S) := by
  rintro i x ⟨hi, hx, e⟩
  have hs := getD_mem hi
  obtain ⟨hl, hk⟩ := hc _ _ (hS _ hs) hx e
  refine ⟨⟨hl.kind, hl.nn, hl.nm, hl.nk⟩, plain_G2 hS hP i hi, hP x hx, fun j hj => ?_⟩
  have hst := hC _ hs j hj
  have hkx : kid (G x) j < N := hK.lt hx (by rw [← hl.nk]; exact hj)
  have ek : kid (G2 G cl S i) j = numOf cl S (kid (G (S.getD i 0)) j) := by
    show ((numOf cl S (kid (G (S.getD i 0)) j) : Nat) : Int).toNat = _
    omega
  rw [ek]
  exact ⟨numOf_lt hst, hkx, (numOf_cl hst).trans (hk j hj)⟩

theorem Across.trans {G2' G1' G0 : Nat → ND} {B C : Nat → Nat → Prop} (h : Across G2' G1' B) (k : Across G1' G0 C) : Across G2' G0 (fun i x => ∃ u, B i u ∧ C u x) := by
  rintro i x ⟨u, h1, h2⟩
  obtain ⟨l1, p1, _, k1⟩ := h i u h1
  obtain ⟨l2, _, p2, k2⟩ := k u x h2
  exact ⟨l1.trans l2, p1, p2, fun j hj => ⟨_, k1 j hj, k2 j (by rw [← l1.nk]; exact hj)⟩⟩

/-- Sub on the smallest graph is Sub on the graph. -/
theorem sub_small {N R : Nat} {G : Nat → ND} {ns cl : Nat → Nat} (hK : Kids N G) (hP : ∀ x, x < N → Plain (G x)) (hns : ∀ i, i < R → ns i < N)
    (hcl : ∀ x y, x < (S1 N R G ns).length → y < (S1 N R G ns).length → (cl x = cl y ↔ Same (S1 N R G ns).length (G1 N R G ns) x y)) {a b : Nat} (ha : a < R) (hb : b < R) :
    SubP G (ns a) (ns b) ↔ SubP (G2 (G1 N R G ns) cl (allTill (G1 N R G ns) cl ((S1 N R G ns).length + 1) (ns1 N R G ns) [] R))
      (numOf cl (allTill (G1 N R G ns) cl ((S1 N R G ns).length + 1) (ns1 N R G ns) [] R) (ns1 N R G ns a)) (numOf cl (allTill (G1 N R G ns) cl ((S1 N R G ns).length + 1) (ns1 N R G ns) [] R) (ns1 N R G ns b)) := by
  obtain ⟨f1, f2, f3⟩ := allTill_full (G := G) (cl := fun i => i) hK (f := N + 1) (ns := ns) (m := R) hns (by omega) R (Nat.le_refl _)
  have K1 : Kids (S1 N R G ns).length (G1 N R G ns) := kids_G2 f3
  have P1 := plain_G2 (G := G) (cl := fun i => i) f1 hP
  have n1 : ∀ i, i < R → ns1 N R G ns i < (S1 N R G ns).length := fun i hi => numOf_lt (f2 i hi)
  obtain ⟨g1, g2, g3⟩ := allTill_full (G := G1 N R G ns) (cl := cl) K1 (f := (S1 N R G ns).length + 1) (ns := ns1 N R G ns) (m := R) n1 (by omega) R (Nat.le_refl _)
  have A1 := across_G2 hK (cong_id N G) hP f1 f3
  have A2 := across_G2 K1 (cong_same K1 hcl) P1 g1 g3
  have B : ∀ i, i < R → (fun u x => ∃ z, Num1 (S1 N R G ns).length cl (allTill (G1 N R G ns) cl ((S1 N R G ns).length + 1) (ns1 N R G ns) [] R) u z ∧ Num1 N (fun i => i) (S1 N R G ns) z x) (numOf cl (allTill (G1 N R G ns) cl ((S1 N R G ns).length + 1) (ns1 N R G ns) [] R) (ns1 N R G ns i)) (ns i) := fun i hi =>
    ⟨ns1 N R G ns i, ⟨numOf_lt (g2 i hi), n1 i hi, numOf_cl (g2 i hi)⟩, ⟨numOf_lt (f2 i hi), hns i hi, numOf_cl (f2 i hi)⟩⟩
  exact sub_across (A2.trans A1) (B a ha) (B b hb)

end Go.Proofs.YtoanhnmpkonbfaaGreatDoor

namespace Go.Proofs.YtoanhnmpkonbfaaGreatDoor
open Go.RowKit Go.Maps

/-- Each name is less than the next. -/
def Srt (d : ND) : Prop := ∀ i k, i < k → k < d.nn → lt (d.nm i) (d.nm k) = true

theorem lt_dec (a b : ByteArray) : lt a b = decide (a.toList < b.toList) := bytesLess_eq _ _
theorem lt_trans' {a b c : ByteArray} (h1 : lt a b = true) (h2 : lt b c = true) : lt a c = true := by
  rw [lt_dec] at *
  simp only [decide_eq_true_eq] at *
  exact List.lt_trans h1 h2
theorem lt_ne {a b : ByteArray} (h : lt a b = true) : a ≠ b := by
  intro e
  rw [lt_dec, e] at h
  simp only [decide_eq_true_eq] at h
  exact List.lt_irrefl _ h
theorem lt_tot {a b : ByteArray} (h : lt a b = false) (hn : a ≠ b) : lt b a = true := by
  rw [lt_dec] at *
  simp only [decide_eq_false_iff_not, decide_eq_true_eq] at *
  apply Classical.byContradiction
  intro c
  have e := List.le_antisymm (List.not_lt.1 h) (List.not_lt.1 c)
  exact hn (Go.WideShapes.bytes_inj (by rw [← ByteArray.toList_eq, ← ByteArray.toList_eq]; exact e.symm))

theorem posOf_eq {d : ND} {s : ByteArray} {i : Nat} (hi : i < d.nn) (he : d.nm i = s) (hb : ∀ k, k < i → d.nm k ≠ s) : posOf d s = i := by
  have hlt : posOf d s < d.nn := posOf_lt.2 ⟨i, hi, he⟩
  have h' : ((List.range d.nn).map fun i => (d.nm i).data.toList).idxOf s.data.toList < ((List.range d.nn).map fun i => (d.nm i).data.toList).length := by simpa [posOf] using hlt
  have e := List.getElem_idxOf h'
  simp only [List.getElem_map, List.getElem_range] at e
  have e2 : d.nm (posOf d s) = s := Go.WideShapes.bytes_inj e
  rcases Nat.lt_trichotomy (posOf d s) i with c | c | c
  · exact absurd e2 (hb _ c)
  · exact c
  · exfalso
    have hm : (d.nm i).data.toList ∈ ((List.range d.nn).map fun i => (d.nm i).data.toList).take (i + 1) := by
      rw [← List.map_take, List.take_range, Nat.min_eq_left (by omega)]
      exact List.mem_map.2 ⟨i, List.mem_range.2 (by omega), rfl⟩
    have e3 : ((List.range d.nn).map fun i => (d.nm i).data.toList) = ((List.range d.nn).map fun i => (d.nm i).data.toList).take (i + 1) ++ ((List.range d.nn).map fun i => (d.nm i).data.toList).drop (i + 1) := (List.take_append_drop _ _).symm
    have : posOf d s < i + 1 := by
      unfold posOf
      rw [e3, List.idxOf_append, if_pos (by rw [← he]; exact hm)]
      have := List.idxOf_lt_length_of_mem (by rw [← he]; exact hm : s.data.toList ∈ ((List.range d.nn).map fun i => (d.nm i).data.toList).take (i + 1))
      rw [List.length_take] at this
      omega
    omega

/-- Where all less ones stand ahead, a name is found at the place or nowhere. -/
theorem pos_here {d : ND} {s : ByteArray} {i : Nat} (hb : ∀ k, k < i → lt (d.nm k) s = true) (hi : i < d.nn) (he : d.nm i = s) : posOf d s = i :=
  posOf_eq hi he (fun k hk => lt_ne (hb k hk))
theorem pos_end {d : ND} {s : ByteArray} (hb : ∀ k, k < d.nn → lt (d.nm k) s = true) : ¬ posOf d s < d.nn := fun h => by
  obtain ⟨k, hk, e⟩ := posOf_lt.1 h
  exact lt_ne (hb k hk) e
theorem pos_not {d : ND} {s : ByteArray} {i : Nat} (hS : Srt d) (hi : i < d.nn) (hb : ∀ k, k < i → lt (d.nm k) s = true) (h1 : lt (d.nm i) s = false) (h2 : d.nm i ≠ s) : ¬ posOf d s < d.nn := fun h => by
  obtain ⟨k, hk, e⟩ := posOf_lt.1 h
  have hs := lt_tot h1 h2
  rcases Nat.lt_trichotomy k i with c | c | c
  · exact lt_ne (hb k c) e
  · subst c; exact h2 e
  · exact lt_ne (lt_trans' hs (hS i k c hk)) e.symm

/-- The pairs of the first fields. -/
def fieldsTill (x y : ND) (ord : List (Nat × Nat)) : Nat → List (Nat × Nat)
  | 0 => ord
  | j + 1 => addP (fieldsTill x y ord j) (kid x (posOf x (y.nm j)), kid y j)

theorem fields_len (x y : ND) (ord : List (Nat × Nat)) : ∀ j, (fieldsTill x y ord j).length ≤ ord.length + j
  | 0 => Nat.le_refl _
  | j + 1 => by
    have := fields_len x y ord j
    unfold fieldsTill addP
    split
    · omega
    · simp; omega

theorem Kn.box {w : World} {kb mb : Nat} {ov : Value} {D : DataW Unit} {ord : List (Nat × Nat)} {keep : Nat → Prop} (h : Kn w kb mb ov D ord keep) (o : Obj) :
    Kn (w.alloc o) kb mb ov D ord (fun k => keep k ∨ k = w.heap.size) := by
  have hk := h.row.lt
  have hm := h.mlt
  refine ⟨h.row.alloc _, h.mlt, h.map.alloc _, h.has, h.own.alloc _, fun k hk' => ?_⟩
  rcases hk' with hk' | rfl
  · obtain ⟨f1, f2, f3, f4⟩ := h.far k hk'
    exact ⟨by simp; omega, f2, f3, f4⟩
  · exact ⟨by simp, by omega, by omega, fun e => by have := (h.own.lt _ e.symm).2; omega⟩

end Go.Proofs.YtoanhnmpkonbfaaGreatDoor

namespace Go.Proofs.YtoanhnmpkonbfaaGreatDoor

theorem SubP.can {G : Nat → ND} {a b : Nat} (h : SubP G a b) : Can (G a) (G b) := by
  obtain ⟨R, hR, hr⟩ := h
  exact (hR a b hr).1

theorem SubP.dem {G : Nat → ND} {a b : Nat} (h : SubP G a b) {q : Bool × Nat × Nat} (hq : q ∈ demP (G a) (G b)) : SubP G (atP (G a) (G b) q).1 (atP (G a) (G b) q).2 := by
  obtain ⟨R, hR, hr⟩ := h
  exact ⟨R, hR, (hR a b hr).2 q hq⟩

theorem posOf_self {d : ND} (h : Srt d) {i : Nat} (hi : i < d.nn) : posOf d (d.nm i) = i := posOf_eq hi rfl (fun k hk => lt_ne (h k i hk hi))

/-- What a node demands of itself: its kids, each with itself. -/
theorem dem_self {d : ND} (h : Srt d) {q : Bool × Nat × Nat} (hq : q ∈ demP d d) : (atP d d q).1 = (atP d d q).2 := by
  unfold demP at hq
  by_cases h0 : d.kind = 0 ∨ d.kind = 0
  · rw [if_pos h0] at hq; cases hq
  · rw [if_neg h0] at hq
    by_cases h4 : d.kind = 4
    · rw [if_pos h4] at hq
      simp only [List.mem_cons, List.not_mem_nil, or_false] at hq
      rcases hq with rfl | rfl <;> rfl
    · rw [if_neg h4] at hq
      obtain ⟨i, hi, rfl⟩ := List.mem_map.1 hq
      show kid d (posOf d (d.nm i)) = kid d i
      rw [posOf_self h (List.mem_range.1 hi)]

/-- The pairs that were met hold, each with all that it demands: so each of them is one that will do. -/
theorem sub_done {N : Nat} {G : Nat → ND} {ord : List (Nat × Nat)} (hK : Kids N G) (hP : ∀ x, x < N → Plain (G x)) (hS : ∀ x, x < N → Srt (G x)) (hl : ∀ q, q ∈ ord → q.1 < N ∧ q.2 < N)
    (hs : ∀ q, q ∈ ord → q.1 = q.2 ∨ (Can (G q.1) (G q.2) ∧ ∀ d, d ∈ demP (G q.1) (G q.2) → atP (G q.1) (G q.2) d ∈ ord)) : ∀ q, q ∈ ord → SubP G q.1 q.2 := by
  have key : SubS G (fun x y => (x, y) ∈ ord ∨ (x = y ∧ x < N)) := by
    have self : ∀ x, x < N → Can (G x) (G x) ∧ ∀ q, q ∈ demP (G x) (G x) → (atP (G x) (G x) q).1 = (atP (G x) (G x) q).2 ∧ (atP (G x) (G x) q).1 < N := fun x hx => by
      refine ⟨can_refl _, fun q hq => ⟨dem_self (hS x hx) hq, ?_⟩⟩
      obtain ⟨q1, q2⟩ := dem_lt (hP x hx) (hP x hx) (can_refl _) hq
      unfold atP
      split
      · exact hK.lt hx q2
      · exact hK.lt hx q1
    intro x y h
    rcases h with h | ⟨rfl, hx⟩
    · rcases hs _ h with e | ⟨c, d⟩
      · have e' : x = y := e
        subst e'
        obtain ⟨c, d⟩ := self x (hl _ h).1
        exact ⟨c, fun q hq => Or.inr (d q hq)⟩
      · exact ⟨c, fun q hq => Or.inl (d q hq)⟩
    · obtain ⟨c, d⟩ := self x hx
      exact ⟨c, fun q hq => Or.inr (d q hq)⟩
  exact fun q hq => ⟨_, key, Or.inl hq⟩

/-- All pairs that are met are forced by the first: what cannot hold refutes it. -/
def Forced (G : Nat → ND) (a b : Nat) (ord : List (Nat × Nat)) : Prop := SubP G a b → ∀ q, q ∈ ord → SubP G q.1 q.2

theorem forced_start (G : Nat → ND) (a b : Nat) : Forced G a b [(a, b)] := fun h q hq => by
  have : q = (a, b) := by simpa using hq
  subst this; exact h

theorem forced_add {G : Nat → ND} {a b x y : Nat} {ord : List (Nat × Nat)} (h : Forced G a b ord) (hm : SubP G a b → SubP G x y) {q : Bool × Nat × Nat} (hq : q ∈ demP (G x) (G y)) : Forced G a b (addP ord (atP (G x) (G y) q)) := fun hs p hp => by
  rcases mem_addP.1 hp with c | c
  · exact h hs p c
  · rw [c]; exact (hm hs).dem hq

theorem forced_no {G : Nat → ND} {a b : Nat} {ord : List (Nat × Nat)} (h : Forced G a b ord) {q : Nat × Nat} (hq : q ∈ ord) (hc : ¬ Can (G q.1) (G q.2)) : ¬ SubP G a b := fun hs => hc (h hs q hq).can

end Go.Proofs.YtoanhnmpkonbfaaGreatDoor

namespace Go.Proofs.YtoanhnmpkonbfaaGreatDoor

theorem sub_step {G : Nat → ND} {a b : Nat} (h : SubP G a b) : Can (G a) (G b) ∧ ∀ q, q ∈ demP (G a) (G b) → SubP G (atP (G a) (G b) q).1 (atP (G a) (G b) q).2 := by
  obtain ⟨R, hR, hab⟩ := h
  obtain ⟨c, d⟩ := hR a b hab
  exact ⟨c, fun q hq => ⟨R, hR, d q hq⟩⟩

theorem same_refl (N : Nat) (G : Nat → ND) (a : Nat) : Same N G a a :=
  ⟨fun x y => x = y, fun x y _ _ e => by subst e; exact ⟨Lab.refl _, fun _ _ => rfl⟩, rfl⟩

theorem sub_refl {N : Nat} {G : Nat → ND} (hK : Kids N G) (hP : ∀ x, x < N → Plain (G x)) (hS : ∀ x, x < N → Srt (G x)) {a : Nat} (ha : a < N) : SubP G a a := by
  refine ⟨fun x y => x = y ∧ x < N, ?_, rfl, ha⟩
  rintro x y ⟨rfl, hx⟩
  refine ⟨can_refl _, fun q hq => ?_⟩
  have e := dem_self (hS x hx) hq
  obtain ⟨q1, q2⟩ := dem_lt (hP x hx) (hP x hx) (can_refl _) hq
  refine ⟨e, ?_⟩
  unfold atP
  split
  · exact hK.lt hx q2
  · exact hK.lt hx q1

theorem same_across {N : Nat} {G : Nat → ND} (hK : Kids N G) (hP : ∀ x, x < N → Plain (G x)) : Across G G (fun i x => i < N ∧ x < N ∧ Same N G i x) := by
  rintro i x ⟨hi, hx, hs⟩
  have hl := hs.lab hi hx
  exact ⟨hl, hP i hi, hP x hx, fun j hj => ⟨hK.lt hi hj, hK.lt hx (by rw [← hl.nk]; exact hj), hs.kid hi hx hj⟩⟩

/-- Same types stand for each other. -/
theorem sub_cong {N : Nat} {G : Nat → ND} (hK : Kids N G) (hP : ∀ x, x < N → Plain (G x)) {i j k : Nat} (hi : i < N) (hj : j < N) (hk : k < N) (h : Same N G i j) : (SubP G i k ↔ SubP G j k) ∧ (SubP G k i ↔ SubP G k j) :=
  ⟨(sub_across (same_across hK hP) ⟨hi, hj, h⟩ ⟨hk, hk, same_refl N G k⟩).symm, (sub_across (same_across hK hP) ⟨hk, hk, same_refl N G k⟩ ⟨hi, hj, h⟩).symm⟩

/-- No ? can be reached. -/
def NoAny (G : Nat → ND) (a : Nat) : Prop := ∃ Cl : Nat → Prop, Cl a ∧ ∀ x, Cl x → (G x).kind ≠ 0 ∧ ∀ j, j < (G x).nk → Cl (kid (G x) j)
theorem NoAny.kind {G : Nat → ND} {a : Nat} (h : NoAny G a) : (G a).kind ≠ 0 := by obtain ⟨C, h1, h2⟩ := h; exact (h2 a h1).1
theorem NoAny.kid {G : Nat → ND} {a j : Nat} (h : NoAny G a) (hj : j < (G a).nk) : NoAny G (kid (G a) j) := by obtain ⟨C, h1, h2⟩ := h; exact ⟨C, (h2 a h1).2 j hj, h2⟩

theorem posOf_at {d : ND} {s : ByteArray} (h : posOf d s < d.nn) : d.nm (posOf d s) = s := by
  have h' : ((List.range d.nn).map fun i => (d.nm i).data.toList).idxOf s.data.toList < ((List.range d.nn).map fun i => (d.nm i).data.toList).length := by simpa [posOf] using h
  have e := List.getElem_idxOf h'
  simp only [List.getElem_map, List.getElem_range] at e
  exact Go.WideShapes.bytes_inj e

theorem can_named {d e : ND} (h : Can d e) (hd : d.kind ≠ 0) (he : e.kind ≠ 0) : d.kind = e.kind ∧ (d.kind = 4 ∨ ∀ i, i < e.nn → posOf d (e.nm i) < d.nn) := by
  rcases h with c | c | c
  · exact absurd c hd
  · exact absurd c he
  · exact c

theorem dem_named {d e : ND} (hd : d.kind ≠ 0) (he : e.kind ≠ 0) : demP d e = if d.kind = 4 then [(true, 0, 0), (false, 1, 1)] else (List.range e.nn).map fun i => (false, posOf d (e.nm i), i) := by
  unfold demP
  rw [if_neg (fun h => h.elim hd he)]

structure Tr (N : Nat) (G : Nat → ND) (x y z : Nat) : Prop where
  h1 : SubP G x y
  h2 : SubP G y z
  x1 : x < N
  y1 : y < N
  z1 : z < N
  xa : NoAny G x
  ya : NoAny G y
  za : NoAny G z

theorem sub_trans {N : Nat} {G : Nat → ND} (hK : Kids N G) (hP : ∀ x, x < N → Plain (G x)) {x y z : Nat} (h : Tr N G x y z) : SubP G x z := by
  refine ⟨fun x z => ∃ y, Tr N G x y z, ?_, y, h⟩
  clear h x y z
  rintro x z ⟨y, h1, h2, x1, y1, z1, xa, ya, za⟩
  obtain ⟨c1, d1⟩ := sub_step h1
  obtain ⟨c2, d2⟩ := sub_step h2
  obtain ⟨k1, n1⟩ := can_named c1 xa.kind ya.kind
  obtain ⟨k2, n2⟩ := can_named c2 ya.kind za.kind
  have CAN : Can (G x) (G z) := by
    refine Or.inr (Or.inr ⟨k1.trans k2, ?_⟩)
    by_cases h4 : (G x).kind = 4
    · exact Or.inl h4
    · refine Or.inr fun i hi => ?_
      have a := (n2.resolve_left (by rw [← k1]; exact h4)) i hi
      have b := (n1.resolve_left h4) _ a
      rw [posOf_at a] at b
      exact b
  refine ⟨CAN, fun q hq => ?_⟩
  obtain ⟨q1, q2⟩ := dem_lt (hP x x1) (hP z z1) CAN hq
  rw [dem_named xa.kind za.kind] at hq
  by_cases h4 : (G x).kind = 4
  · rw [if_pos h4] at hq
    have e1 : demP (G x) (G y) = [(true, 0, 0), (false, 1, 1)] := by rw [dem_named xa.kind ya.kind, if_pos h4]
    have e2 : demP (G y) (G z) = [(true, 0, 0), (false, 1, 1)] := by rw [dem_named ya.kind za.kind, if_pos (by omega)]
    have p0 : (true, 0, 0) ∈ demP (G x) (G y) := by rw [e1]; simp
    have p1 : (false, 1, 1) ∈ demP (G x) (G y) := by rw [e1]; simp
    have r0 : (true, 0, 0) ∈ demP (G y) (G z) := by rw [e2]; simp
    have r1 : (false, 1, 1) ∈ demP (G y) (G z) := by rw [e2]; simp
    have y0 := (dem_lt (hP y y1) (hP z z1) c2 r0).1
    have y0' := (dem_lt (hP y y1) (hP z z1) c2 r1).1
    simp only [List.mem_cons, List.not_mem_nil, or_false] at hq
    rcases hq with rfl | rfl
    · exact ⟨kid (G y) 0, d2 _ r0, d1 _ p0, hK.lt z1 q2, hK.lt y1 y0, hK.lt x1 q1, za.kid q2, ya.kid y0, xa.kid q1⟩
    · exact ⟨kid (G y) 1, d1 _ p1, d2 _ r1, hK.lt x1 q1, hK.lt y1 y0', hK.lt z1 q2, xa.kid q1, ya.kid y0', za.kid q2⟩
  · rw [if_neg h4] at hq
    obtain ⟨i, hi, rfl⟩ := List.mem_map.1 hq
    have hi' := List.mem_range.1 hi
    have a := (n2.resolve_left (by rw [← k1]; exact h4)) i hi'
    have p : (false, posOf (G x) ((G y).nm (posOf (G y) ((G z).nm i))), posOf (G y) ((G z).nm i)) ∈ demP (G x) (G y) := by
      rw [dem_named xa.kind ya.kind, if_neg h4]
      exact List.mem_map.2 ⟨_, List.mem_range.2 a, rfl⟩
    have r : (false, posOf (G y) ((G z).nm i), i) ∈ demP (G y) (G z) := by
      rw [dem_named ya.kind za.kind, if_neg (by rw [← k1]; exact h4)]
      exact List.mem_map.2 ⟨_, hi, rfl⟩
    have s1 := d1 _ p
    rw [posOf_at a] at s1
    have s2 := d2 _ r
    have y0 := (dem_lt (hP y y1) (hP z z1) c2 r).1
    exact ⟨kid (G y) (posOf (G y) ((G z).nm i)), s1, s2, hK.lt x1 q1, hK.lt y1 y0, hK.lt z1 q2, xa.kid q1, ya.kid y0, za.kid q2⟩

end Go.Proofs.YtoanhnmpkonbfaaGreatDoor

