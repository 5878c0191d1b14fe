/-
  The graph that is made: the types, and behind them a node for each question. No program here.
-/
import Derived.Test.YtpbpbppimkeodaaGreatDoorJoP
namespace Go.Proofs.YtpbpbppimkeodaaGreatDoor

theorem mixF_mem {x y : ND} {up : Bool} : ∀ (f i j : Nat) (p : ByteArray × Kq), p ∈ mixF x y up f i j →
    (∃ a, a < x.nn ∧ p.1 = x.nm a ∧ p.2 = .ty (kid x a)) ∨ (∃ b, b < y.nn ∧ p.1 = y.nm b ∧ p.2 = .ty (kid y b)) ∨ (∃ a b, a < x.nn ∧ b < y.nn ∧ p.1 = x.nm a ∧ p.2 = .qn ⟨kid x a, kid y b, up⟩) := by
  intro f
  induction f with
  | zero => intro i j p h; simp [mixF] at h
  | succ f ih =>
    intro i j p h
    rw [mixF] at h
    by_cases hc : i < x.nn ∨ j < y.nn
    · rw [if_pos hc] at h
      by_cases h1 : ¬ j < y.nn ∨ (i < x.nn ∧ lt (x.nm i) (y.nm j) = true)
      · rw [if_pos h1] at h
        have hi : i < x.nn := by rcases h1 with q | q <;> omega
        rcases List.mem_append.1 h with z | z
        · cases up
          · rw [if_neg (by decide)] at z
            rw [List.mem_singleton.1 z]
            exact Or.inl ⟨i, hi, rfl, rfl⟩
          · simp at z
        · exact ih _ _ _ z
      · rw [if_neg h1] at h
        by_cases h2 : ¬ i < x.nn ∨ lt (y.nm j) (x.nm i) = true
        · rw [if_pos h2] at h
          have hj : j < y.nn := by omega
          rcases List.mem_append.1 h with z | z
          · cases up
            · rw [if_neg (by decide)] at z
              rw [List.mem_singleton.1 z]
              exact Or.inr (Or.inl ⟨j, hj, rfl, rfl⟩)
            · simp at z
          · exact ih _ _ _ z
        · rw [if_neg h2] at h
          have hj : j < y.nn := by omega
          have hi : i < x.nn := by omega
          rcases List.mem_cons.1 h with z | z
          · rw [z]
            exact Or.inr (Or.inr ⟨i, j, hi, hj, rfl, rfl⟩)
          · exact ih _ _ _ z
    · rw [if_neg hc] at h
      simp at h

theorem mixF_len {x y : ND} {up : Bool} : ∀ (f i j : Nat), (mixF x y up f i j).length ≤ (x.nn - i) + (y.nn - j) := by
  intro f
  induction f with
  | zero => intro i j; simp [mixF]
  | succ f ih =>
    intro i j
    rw [mixF]
    by_cases hc : i < x.nn ∨ j < y.nn
    · rw [if_pos hc]
      by_cases h1 : ¬ j < y.nn ∨ (i < x.nn ∧ lt (x.nm i) (y.nm j) = true)
      · rw [if_pos h1]
        have hi : i < x.nn := by rcases h1 with q | q <;> omega
        have := ih (i + 1) j
        cases up <;> simp <;> omega
      · rw [if_neg h1]
        by_cases h2 : ¬ i < x.nn ∨ lt (y.nm j) (x.nm i) = true
        · rw [if_pos h2]
          have hj : j < y.nn := by omega
          have := ih i (j + 1)
          cases up <;> simp <;> omega
        · rw [if_neg h2]
          have hj : j < y.nn := by omega
          have := ih (i + 1) (j + 1)
          simp; omega
    · rw [if_neg hc]
      simp

/-- What the types keep. -/
structure GoodH (n : Nat) (H : Nat → ND) : Prop where
  kids : Kids n H
  rc : ∀ t, t < n → (H t).kind = 3 → (H t).nk = (H t).nn
  fn : ∀ t, t < n → (H t).kind = 4 → (H t).nk = 2
  bare : ∀ t, t < n → (H t).kind ≠ 3 → (H t).nn = 0
  two : ∀ t, t < n → (H t).nn + (H t).nk ≤ 1048576
  n : n ≤ 4000

theorem GoodH.nk3 {n : Nat} {H : Nat → ND} (h : GoodH n H) {t : Nat} (ht : t < n) (k : (H t).kind = 3) : (H t).nk = (H t).nn := h.rc t ht k
theorem GoodH.nk4 {n : Nat} {H : Nat → ND} (h : GoodH n H) {t : Nat} (ht : t < n) (k : (H t).kind = 4) : (H t).nk = 2 := h.fn t ht k
theorem GoodH.nn {n : Nat} {H : Nat → ND} (h : GoodH n H) {t : Nat} (ht : t < n) : (H t).nn ≤ 524288 := by
  have h2 := h.two t ht
  by_cases k : (H t).kind = 3
  · have := h.nk3 ht k; omega
  · have := h.bare t ht k; omega

theorem mixQ_in {n : Nat} {H : Nat → ND} (h : GoodH n H) {a b : Nat} (ha : a < n) (hb : b < n) (up : Bool) : InK n (mixQ (H a) (H b) up) := by
  intro k hk
  unfold mixQ at hk
  by_cases e : (H a).kind = (H b).kind
  · rw [if_pos e] at hk
    by_cases h4 : (H a).kind = 4
    · rw [if_pos h4] at hk
      have x2 := h.nk4 ha h4
      have y2 := h.nk4 hb (by rw [← e]; exact h4)
      rcases List.mem_cons.1 hk with z | z
      · rw [z]; exact ⟨h.kids.lt ha (by omega), h.kids.lt hb (by omega)⟩
      · rw [List.mem_singleton.1 z]; exact ⟨h.kids.lt ha (by omega), h.kids.lt hb (by omega)⟩
    · rw [if_neg h4] at hk
      by_cases h3 : (H a).kind = 3
      · rw [if_pos h3] at hk
        have x2 := h.nk3 ha h3
        have y2 := h.nk3 hb (by rw [← e]; exact h3)
        obtain ⟨p, hp, rfl⟩ := List.mem_map.1 hk
        rcases mixF_mem _ _ _ _ hp with ⟨c, hc, _, e2⟩ | ⟨c, hc, _, e2⟩ | ⟨c, d, hc, hd, _, e2⟩
        · rw [e2]; exact h.kids.lt ha (by omega)
        · rw [e2]; exact h.kids.lt hb (by omega)
        · rw [e2]; exact ⟨h.kids.lt ha (by omega), h.kids.lt hb (by omega)⟩
      · rw [if_neg h3] at hk; simp at hk
  · rw [if_neg e] at hk; simp at hk

theorem mixQ_len {n : Nat} {H : Nat → ND} (h : GoodH n H) {a b : Nat} (ha : a < n) (hb : b < n) (up : Bool) : (mixQ (H a) (H b) up).length ≤ 1048576 := by
  unfold mixQ
  by_cases e : (H a).kind = (H b).kind
  · rw [if_pos e]
    by_cases h4 : (H a).kind = 4
    · rw [if_pos h4]; simp
    · rw [if_neg h4]
      by_cases h3 : (H a).kind = 3
      · rw [if_pos h3, List.length_map]
        have := mixF_len (x := H a) (y := H b) (up := up) (((H a).nn - 0) + ((H b).nn - 0)) 0 0
        have h1 := h.nn ha
        have h2 := h.nn hb
        unfold mixAll
        omega
      · rw [if_neg h3]; simp
  · rw [if_neg e]; simp

theorem mixN_len {n : Nat} {H : Nat → ND} (h : GoodH n H) {a b : Nat} (ha : a < n) (hb : b < n) (up : Bool) : (mixN (H a) (H b) up).length ≤ 1048576 := by
  unfold mixN
  by_cases e : (H a).kind = (H b).kind ∧ (H a).kind = 3
  · rw [if_pos e, List.length_map]
    have := mixF_len (x := H a) (y := H b) (up := up) (((H a).nn - 0) + ((H b).nn - 0)) 0 0
    have h1 := h.nn ha
    have h2 := h.nn hb
    unfold mixAll
    omega
  · rw [if_neg e]; simp

theorem addQ_len (L : List Qn) (k : Kq) : (addQ L k).length ≤ L.length + 1 := by
  cases k with
  | ty a => show L.length ≤ _; omega
  | qn q =>
    show (if q ∈ L then L else L ++ [q]).length ≤ _
    split
    · omega
    · simp
theorem addAll_len : ∀ (ks : List Kq) (L : List Qn), (addAll L ks).length ≤ L.length + ks.length
  | [], L => by show L.length ≤ _; simp
  | k :: ks, L => by
    have h1 := addAll_len ks (addQ L k)
    have h2 := addQ_len L k
    show (addAll (addQ L k) ks).length ≤ _
    rw [List.length_cons]
    omega
theorem addQ_has (L : List Qn) (q : Qn) : q ∈ addQ L (.qn q) := by
  show q ∈ (if q ∈ L then L else L ++ [q])
  split
  · assumption
  · simp
theorem addAll_has : ∀ (ks : List Kq) (L : List Qn) (q : Qn), Kq.qn q ∈ ks → q ∈ addAll L ks
  | k :: ks, L, q, h => by
    rcases List.mem_cons.1 h with z | z
    · subst z
      exact (addAll_pre ks _).subset (addQ_has L q)
    · exact addAll_has ks _ q z

/-- The i-th question, when i have been taken up. -/
abbrev qAt (H : Nat → ND) (q0 : Qn) (i : Nat) : Qn := (qsTill H q0 i).getD i q0
theorem qs_succ (H : Nat → ND) (q0 : Qn) (i : Nat) : qsTill H q0 (i + 1) = addAll (qsTill H q0 i) (mixQ (H (qAt H q0 i).a) (H (qAt H q0 i).b) (qAt H q0 i).up) := rfl
theorem qs_le {H : Nat → ND} {q0 : Qn} {i k : Nat} (h : i ≤ k) : qsTill H q0 i <+: qsTill H q0 k := by
  have := qs_pre H q0 i (k - i)
  rw [show i + (k - i) = k from by omega] at this
  exact this

theorem getD_in {n : Nat} {L : List Qn} {q0 : Qn} (h : InQ n L) (h0 : q0.a < n ∧ q0.b < n) (i : Nat) : (L.getD i q0).a < n ∧ (L.getD i q0).b < n := by
  by_cases hi : i < L.length
  · have : L.getD i q0 ∈ L := by simp [List.getD, List.getElem?_eq_getElem hi]
    exact h _ this
  · have : L.getD i q0 = q0 := by simp [List.getD, List.getElem?_eq_none (Nat.le_of_not_lt hi)]
    rw [this]; exact h0
theorem qs_in {n : Nat} {H : Nat → ND} {q0 : Qn} (h : GoodH n H) (h0 : q0.a < n ∧ q0.b < n) : ∀ i, InQ n (qsTill H q0 i)
  | 0 => fun q hq => by rw [List.mem_singleton.1 hq]; exact h0
  | i + 1 => by
    have ih := qs_in h h0 i
    have hq := getD_in ih h0 i
    rw [qs_succ]
    exact addAll_in ih (mixQ_in h hq.1 hq.2 _)
theorem qAt_in {n : Nat} {H : Nat → ND} {q0 : Qn} (h : GoodH n H) (h0 : q0.a < n ∧ q0.b < n) (i : Nat) : (qAt H q0 i).a < n ∧ (qAt H q0 i).b < n := getD_in (qs_in h h0 i) h0 i

/-- The list of questions stands still. -/
structure FullQ (H : Nat → ND) (q0 : Qn) (k : Nat) : Prop where
  few : ∀ i, i ≤ k → (qsTill H q0 i).length ≤ 1000
  on : ∀ i, i < k → i < (qsTill H q0 i).length
  still : ¬ k < (qsTill H q0 k).length
/-- There are too many. -/
structure OverQ (H : Nat → ND) (q0 : Qn) (k : Nat) : Prop where
  few : ∀ i, i < k → (qsTill H q0 i).length ≤ 1000
  on : ∀ i, i < k → i < (qsTill H q0 i).length
  over : 1000 < (qsTill H q0 k).length

theorem full_over {H : Nat → ND} {q0 : Qn} {k l : Nat} (h : FullQ H q0 k) (g : OverQ H q0 l) : False := by
  rcases Nat.lt_or_ge k l with z | z
  · exact h.still (g.on k z)
  · have := h.few l z
    have := g.over
    omega
theorem full_one {H : Nat → ND} {q0 : Qn} {k l : Nat} (h : FullQ H q0 k) (g : FullQ H q0 l) : k = l := by
  rcases Nat.lt_trichotomy k l with z | z | z
  · exact absurd (g.on k z) h.still
  · exact z
  · exact absurd (h.on l z) g.still
theorem FullQ.len {H : Nat → ND} {q0 : Qn} {k : Nat} (h : FullQ H q0 k) : (qsTill H q0 k).length = k := by
  have h1 := h.still
  cases k with
  | zero => simp [qsTill] at h1
  | succ k =>
    have h2 := h.on k (by omega)
    have h3 : (qsTill H q0 k).length ≤ (qsTill H q0 (k + 1)).length := (qs_le (H := H) (q0 := q0) (Nat.le_succ k)).length_le
    omega
theorem FullQ.pos {H : Nat → ND} {q0 : Qn} {k : Nat} (h : FullQ H q0 k) : 0 < k := by
  have h1 := h.still
  cases k with
  | zero => simp [qsTill] at h1
  | succ k => omega
theorem FullQ.at_ {H : Nat → ND} {q0 : Qn} {k : Nat} (h : FullQ H q0 k) {i : Nat} (hi : i < k) : (qsTill H q0 k).getD i q0 = qAt H q0 i := by
  have h1 := h.on i hi
  obtain ⟨t, ht⟩ := qs_le (H := H) (q0 := q0) (Nat.le_of_lt hi)
  show (qsTill H q0 k).getD i q0 = (qsTill H q0 i).getD i q0
  rw [← ht]
  simp [List.getD, List.getElem?_append_left h1]

/-- What a question leads to is asked too. -/
def ClosedQ (H : Nat → ND) (L : List Qn) : Prop := ∀ q, q ∈ L → ∀ r, Kq.qn r ∈ mixQ (H q.a) (H q.b) q.up → r ∈ L
theorem FullQ.closed {H : Nat → ND} {q0 : Qn} {k : Nat} (h : FullQ H q0 k) : ClosedQ H (qsTill H q0 k) := by
  intro q hq r hr
  obtain ⟨i, hi, e⟩ := List.mem_iff_getElem.1 hq
  have hk : i < k := by rw [← h.len]; exact hi
  have e2 := h.at_ hk
  have e3 : (qsTill H q0 k).getD i q0 = q := by rw [← e]; simp [List.getD, List.getElem?_eq_getElem hi]
  rw [e3] at e2
  rw [e2] at hr
  have := addAll_has _ (qsTill H q0 i) r hr
  rw [← qs_succ] at this
  exact (qs_le hk).subset this

/-- The node that is made for a question. -/
def mixD (n : Nat) (H : Nat → ND) (L : List Qn) (q : Qn) : ND :=
  ⟨mixK (H q.a) (H q.b), (mixN (H q.a) (H q.b) q.up).length, fun i => (mixN (H q.a) (H q.b) q.up).getD i ByteArray.empty, (mixQ (H q.a) (H q.b) q.up).length, fun j => ((((mixQ (H q.a) (H q.b) q.up).map (numK n L)).getD j 0 : Nat) : Int)⟩
/-- The types and what is made behind them. -/
def mixG (n : Nat) (H : Nat → ND) (L : List Qn) (q0 : Qn) (i : Nat) : ND := if i < n then H i else mixD n H L (L.getD (i - n) q0)

theorem mixG_lt {n : Nat} {H : Nat → ND} {L : List Qn} {q0 : Qn} {i : Nat} (h : i < n) : mixG n H L q0 i = H i := if_pos h
theorem mixG_ge {n : Nat} {H : Nat → ND} {L : List Qn} {q0 : Qn} {i : Nat} (h : ¬ i < n) : mixG n H L q0 i = mixD n H L (L.getD (i - n) q0) := if_neg h

theorem numK_pre {n : Nat} {L M : List Qn} (h : L <+: M) {k : Kq} (hk : ∀ q, k = .qn q → q ∈ L) : numK n L k = numK n M k := by
  cases k with
  | ty a => rfl
  | qn q =>
    show n + L.idxOf q = n + M.idxOf q
    rw [idx_pre h (hk q rfl)]

theorem addAll_snoc (L : List Qn) (ks : List Kq) (k : Kq) : addAll L (ks ++ [k]) = addQ (addAll L ks) k := by
  unfold addAll
  rw [List.foldl_append]
  rfl

/-- The node of the i-th question, with the numbers as they are when it is made. -/
def ndQ (n : Nat) (H : Nat → ND) (q0 : Qn) (i : Nat) : ND := mixD n H (qsTill H q0 (i + 1)) (qAt H q0 i)
theorem ndQ_full {n : Nat} {H : Nat → ND} {q0 : Qn} {k : Nat} (h : FullQ H q0 k) {i : Nat} (hi : i < k) : ndQ n H q0 i = mixD n H (qsTill H q0 k) ((qsTill H q0 k).getD i q0) := by
  rw [h.at_ hi]
  unfold ndQ mixD
  have e : (mixQ (H (qAt H q0 i).a) (H (qAt H q0 i).b) (qAt H q0 i).up).map (numK n (qsTill H q0 (i + 1))) = (mixQ (H (qAt H q0 i).a) (H (qAt H q0 i).b) (qAt H q0 i).up).map (numK n (qsTill H q0 k)) := by
    refine List.map_congr_left (fun k' hk' => numK_pre (n := n) (L := qsTill H q0 (i + 1)) (M := qsTill H q0 k) (qs_le (by omega)) (fun q e => ?_))
    rw [qs_succ]
    exact addAll_has _ _ q (by rw [← e]; exact hk')
  rw [e]

end Go.Proofs.YtpbpbppimkeodaaGreatDoor
