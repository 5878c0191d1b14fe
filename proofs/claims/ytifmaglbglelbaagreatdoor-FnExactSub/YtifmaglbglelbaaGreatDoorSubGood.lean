/-
  What a valid graph's nodes keep.
-/
import Derived.Test.YtifmaglbglelbaaGreatDoorSubWill
import Derived.Test.YtifmaglbglelbaaGreatDoorSubSmall
namespace Go.Proofs.YtifmaglbglelbaaGreatDoor

theorem allTo_get {n : Nat} {p : Nat → Bool} (h : allTo n p = true) {j : Nat} (hj : j < n) : p j = true := by
  unfold allTo at h; rw [List.all_eq_true] at h; exact h j (List.mem_range.2 hj)

theorem gn_good {s : ByteArray} (h : gn s = true) : (32 : UInt8) ∉ s.data.toList ∧ s.data.toList ≠ [] ∧ s.size ≤ 12 := by
  unfold gn gnl at h
  simp only [Bool.and_eq_true, decide_eq_true_eq] at h
  obtain ⟨⟨h1, h2⟩, _, h3, _⟩ := h
  refine ⟨fun hm => ?_, fun e => by rw [e] at h1; simp at h1, h2⟩
  have z := List.all_eq_true.1 h3 32 hm
  revert z
  decide

theorem shp_cases {d : ND} (h : shp d = true) : (d.kind = 4 ∧ d.nn = 0 ∧ d.nk = 2) ∨ (d.kind = 3 ∧ d.nn = d.nk ∧ gio d.nn d.nm = true) ∨ ((d.kind = 0 ∨ d.kind = 1 ∨ d.kind = 2) ∧ d.nn = 0 ∧ d.nk = 0) := by
  unfold shp at h
  by_cases h4 : d.kind = 4
  · rw [if_pos h4] at h
    exact Or.inl ⟨h4, of_decide_eq_true h⟩
  · rw [if_neg h4] at h
    by_cases h3 : d.kind = 3
    · rw [if_pos h3, Bool.and_eq_true] at h
      exact Or.inr (Or.inl ⟨h3, of_decide_eq_true h.1, h.2⟩)
    · rw [if_neg h3] at h
      by_cases h0 : d.kind = 0 ∨ d.kind = 1 ∨ d.kind = 2
      · rw [if_pos h0] at h
        exact Or.inr (Or.inr ⟨h0, of_decide_eq_true h⟩)
      · rw [if_neg h0] at h; cases h

theorem gio_good {n : Nat} {S : Nat → ByteArray} (h : gio n S = true) {i : Nat} (hi : i < n) : gn (S i) = true := by
  have := allTo_get h hi
  rw [Bool.and_eq_true] at this
  exact this.1

theorem gio_next {n : Nat} {S : Nat → ByteArray} (h : gio n S = true) {i : Nat} (hi : i + 1 < n) : lt (S i) (S (i + 1)) = true := by
  have := allTo_get h hi
  rw [Bool.and_eq_true, Bool.or_eq_true] at this
  rcases this.2 with c | c
  · exact absurd (of_decide_eq_true c) (by omega)
  · simpa using c

theorem gio_lt {n : Nat} {S : Nat → ByteArray} (h : gio n S = true) {i : Nat} : ∀ {k : Nat}, i < k → k < n → lt (S i) (S k) = true
  | 0, hk, _ => absurd hk (Nat.not_lt_zero _)
  | k + 1, hk, hn => by
    by_cases e : i = k
    · subst e; exact gio_next h hn
    · exact lt_trans' (gio_lt h (k := k) (by omega) (by omega)) (gio_next h hn)

theorem plain_of {d : ND} (h : shp d = true) : Plain d := by
  rcases shp_cases h with ⟨k, n, m⟩ | ⟨k, n, g⟩ | ⟨k, n, m⟩
  · exact ⟨by omega, fun i hi => by omega, by rw [if_neg (by omega), if_pos k]; exact m, fun _ => n⟩
  · exact ⟨by omega, fun i hi => by have z := gn_good (gio_good g hi); exact ⟨z.1, z.2.1⟩, by rw [if_pos k]; exact n.symm, fun c => absurd k c⟩
  · exact ⟨by omega, fun i hi => by omega, by rw [if_neg (by omega), if_neg (by omega)]; exact m, fun _ => n⟩

theorem srt_of {d : ND} (h : shp d = true) : Srt d := fun i k hi hk => by
  rcases shp_cases h with ⟨_, n, _⟩ | ⟨_, _, g⟩ | ⟨_, n, _⟩
  · omega
  · exact gio_lt g hi hk
  · omega

theorem short_of {d : ND} (h : shp d = true) {i : Nat} (hi : i < d.nn) : (d.nm i).size ≤ 12 := by
  rcases shp_cases h with ⟨_, n, _⟩ | ⟨_, _, g⟩ | ⟨_, n, _⟩
  · omega
  · exact (gn_good (gio_good g hi)).2.2
  · omega

theorem shp_of {N : Nat} {G : Nat → ND} (h : vgr N G = true) {x : Nat} (hx : x < N) : shp (G x) = true := by
  unfold vgr at h
  rw [Bool.and_eq_true] at h
  have := allTo_get h.2 hx
  unfold nok at this
  rw [Bool.and_eq_true] at this
  exact this.1

end Go.Proofs.YtifmaglbglelbaaGreatDoor
