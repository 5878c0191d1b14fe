/-
  The program's questions are the model's, said the other way round. No program here.
-/
import Derived.Test.YtpbpbppimkeodaaGreatDoorJoN
namespace Go.Proofs.YtpbpbppimkeodaaGreatDoor

/-- The program asks whether it is the Meet. -/
def flipQ (q : Qn) : Qn := ⟨q.a, q.b, !q.up⟩
theorem flipQ_flip (q : Qn) : flipQ (flipQ q) = q := by cases q; simp [flipQ]
theorem flipQ_inj {q r : Qn} (e : flipQ q = flipQ r) : q = r := by rw [← flipQ_flip q, e, flipQ_flip]
theorem flip_mem {L : List Qn} {q : Qn} : flipQ q ∈ L.map flipQ ↔ q ∈ L := by
  rw [List.mem_map]
  exact ⟨fun ⟨r, h, e⟩ => by rw [← flipQ_inj e]; exact h, fun h => ⟨q, h, rfl⟩⟩

theorem addM_flip (L : List Qn) (q : Qn) : addM (L.map flipQ) (flipQ q) = (addQ L (.qn q)).map flipQ := by
  unfold addM addQ
  by_cases h : q ∈ L
  · have h2 : (L.map flipQ).contains (flipQ q) = true := List.contains_iff_mem.2 (flip_mem.2 h)
    rw [h2]; simp [h]
  · have h2 : (L.map flipQ).contains (flipQ q) = false := by
      cases hc : (L.map flipQ).contains (flipQ q)
      · rfl
      · exact absurd (flip_mem.1 (List.contains_iff_mem.1 hc)) h
    rw [h2]; simp [h]

theorem idx_flip (L : List Qn) (q : Qn) : (L.map flipQ).idxOf (flipQ q) = L.idxOf q := by
  induction L with
  | nil => rfl
  | cons x t ih =>
    rw [List.map_cons, List.idxOf_cons, List.idxOf_cons, ih]
    by_cases e : x = q
    · subst e; simp
    · have e2 : ¬ flipQ x = flipQ q := fun h => e (flipQ_inj h)
      have b1 : (x == q) = false := by simp [e]
      have b2 : (flipQ x == flipQ q) = false := by simp [e2]
      rw [b1, b2]

/-- All questions are about types that are there. -/
def InQ (n : Nat) (L : List Qn) : Prop := ∀ q, q ∈ L → q.a < n ∧ q.b < n
/-- All kids are. -/
def InK (n : Nat) (ks : List Kq) : Prop := ∀ k, k ∈ ks → match k with | .ty a => a < n | .qn q => q.a < n ∧ q.b < n

theorem addQ_in {n : Nat} {L : List Qn} {k : Kq} (h : InQ n L) (hk : InK n [k]) : InQ n (addQ L k) := by
  cases k with
  | ty a => exact h
  | qn q =>
    have hq : q.a < n ∧ q.b < n := hk (.qn q) (List.mem_singleton.2 rfl)
    intro r hr
    have hr : r ∈ (if q ∈ L then L else L ++ [q]) := hr
    by_cases hm : q ∈ L
    · rw [if_pos hm] at hr; exact h r hr
    · rw [if_neg hm] at hr
      rcases List.mem_append.1 hr with z | z
      · exact h r z
      · rw [List.mem_singleton.1 z]; exact hq
theorem addAll_in {n : Nat} : ∀ {ks : List Kq} {L : List Qn}, InQ n L → InK n ks → InQ n (addAll L ks)
  | [], _, h, _ => h
  | k :: ks, L, h, hk => addAll_in (ks := ks) (L := addQ L k) (addQ_in h (fun x hx => hk x (by rw [List.mem_singleton.1 hx]; exact List.mem_cons_self))) (fun x hx => hk x (List.mem_cons_of_mem _ hx))

end Go.Proofs.YtpbpbppimkeodaaGreatDoor
