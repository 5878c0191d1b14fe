/-
  Merged for the claim: SubKid SubPur.
-/
import Derived.Test.YtoanhnmpkonbfaaGreatDoorME
import Derived.Test.YtoanhnmpkonbfaaGreatDoorSubWalk
namespace Go.Proofs.YtoanhnmpkonbfaaGreatDoor
open Go.RowKit Go.Maps

def kidBy (d : ND) (s : ByteArray) : Int := if posOf d s < d.nn then d.kd (posOf d s) else -1

theorem kidBy_here {d : ND} {s : ByteArray} {i : Nat} (hi : i < d.nn) (he : d.nm i = s) (hb : ∀ k, k < i → d.nm k ≠ s) : kidBy d s = d.kd i := by
  unfold kidBy
  rw [posOf_eq hi he hb, if_pos hi]

theorem kidBy_none {d : ND} {s : ByteArray} (hb : ∀ k, k < d.nn → d.nm k ≠ s) : kidBy d s = -1 := by
  unfold kidBy
  rw [if_neg (fun h => by obtain ⟨k, hk, e⟩ := posOf_lt.1 h; exact hb k hk e)]

set_option maxRecDepth 100000 in
set_option maxHeartbeats 4000000 in
theorem m62 (p : NP) (d : ND) (s : ByteArray) (w : World) (h : NodeAt w p d) (hnk : d.nn ≤ d.nk) :
    Calls Tryz.prog 72 #[ndv p d, .string s] w fun e w' => e = .returned (.int .i64 (kidBy d s)) ∧ Below w.heap.size w w' := by
  obtain ⟨xa, xb, xo, xc, xa2, xb2, xo2, xc2⟩ := p
  have HN : Hid (∀ w', Below w.heap.size w w' → NodeAt w' ⟨xa, xb, xo, xc, xa2, xb2, xo2, xc2⟩ d) := fun w' hb => h.below hb
  have RX := row3 w (.int .i64 d.kind) (.slice xa d.nn xc) (.slice xa2 d.nk xc2) 39
  have B0 : Hid (Below w.heap.size w (w.alloc (.cells #[.int .i64 d.kind, .slice xa d.nn xc, .slice xa2 d.nk xc2] 39))) := bel1 w _
  have HR : Hid (∀ q, ((w.alloc (.cells #[.int .i64 d.kind, .slice xa d.nn xc, .slice xa2 d.nk xc2] 39)).drewN q).cell? ⟨w.heap.size, 1, none⟩ = some (.slice xa d.nn xc) ∧ ((w.alloc (.cells #[.int .i64 d.kind, .slice xa d.nn xc, .slice xa2 d.nk xc2] 39)).drewN q).cell? ⟨w.heap.size, 2, none⟩ = some (.slice xa2 d.nk xc2)) := fun q => ⟨RX.cell (i := 1) (by omega), RX.cell (i := 2) (by omega)⟩
  have l1 : d.nn ≤ 9223372036854775807 := h.names.len
  have l2 : d.nk ≤ 9223372036854775807 := h.kids.len
  obtain ⟨W0, hW0⟩ : ∃ W0, W0 = w.alloc (.cells #[.int .i64 d.kind, .slice xa d.nn xc, .slice xa2 d.nk xc2] 39) := ⟨_, rfl⟩
  clear h RX
  unfold ndv
  go_enter Tryz.func72, Tryz.ntmps72
  go_wp2_with fail
  rw [← hW0] at B0 HR ⊢
  clear hW0
  go_loopw [5] (fun s5 wx => ∃ (i m : Nat), i ≤ d.nn ∧ s5 = .int .i64 i ∧ wx = W0.drewN m ∧ Hid (∀ k, k < i → d.nm k ≠ s)) (fun s5 _ => d.nn - (intOf s5).toNat)
  case atStart => exact ⟨0, 0, by omega, rfl, rfl, (fun k hk => absurd hk (Nat.not_lt_zero _))⟩
  case round =>
    obtain ⟨i, m, hi, rfl, hwx, HE⟩ := hrel
    subst hwx
    obtain ⟨c1, c2⟩ := HR.out m
    have FB : Hid (∀ q, Below w.heap.size w (W0.drewN q)) := fun q => below_drewN B0.out q
    by_cases hlt : i < d.nn
    · have NX := HN.out _ (FB.out m)
      have ex : xa = some ⟨xb, xo, none⟩ := NX.names.at_ (by omega)
      have ex2 : xa2 = some ⟨xb2, xo2, none⟩ := NX.kids.at_ (by omega)
      have xn : (W0.drewN m).cell? ⟨xb, xo + i, none⟩ = some (.string (d.nm i)) := NX.names.cell i hlt
      have xk : (W0.drewN m).cell? ⟨xb2, xo2 + i, none⟩ = some (.int .i64 (d.kd i)) := NX.kids.cell i (by omega)
      subst ex
      subst ex2
      have lti : (i : Int) < (d.nn : Int) := by omega
      have lti2 : (i : Int) < (d.nk : Int) := by omega
      clear NX
      by_cases he : d.nm i = s
      · have FE : Hid (kidBy d s = d.kd i) := kidBy_here hlt he HE.out
        have be : ((d.nm i).toList == s.toList) = true := by rw [he]; simp
        clear he
        go_wp2
        go_ret
        rw [FE.out]
        exact ⟨rfl, by first | exact FB.out _ | exact (FB.out _).drew⟩
      · have be : ((d.nm i).toList == s.toList) = false := by
          rw [beq_eq_false_iff_ne, ByteArray.toList_eq, ByteArray.toList_eq]
          exact fun e => he (Go.WideShapes.bytes_inj e)
        have HE2 : Hid (∀ k, k < i + 1 → d.nm k ≠ s) := fun k hk => by
          by_cases e : k = i
          · subst e; exact he
          · exact HE.out k (by omega)
        clear he
        go_wp2
        go_roundw
        case rel => exact ⟨i + 1, _, by omega, by go_num, rfl, HE2⟩
        case measure => simp [intOf]; omega
    · have lti : ¬ (i : Int) < (d.nn : Int) := by omega
      have FE : Hid (kidBy d s = -1) := kidBy_none (fun k hk => HE.out k (by omega))
      go_wp2
      go_ret
      rw [FE.out]
      exact ⟨rfl, by first | exact FB.out _ | exact (FB.out _).drew⟩

end Go.Proofs.YtoanhnmpkonbfaaGreatDoor

namespace Go.Proofs.YtoanhnmpkonbfaaGreatDoor
open Go

def demL (d e : ND) : List (Nat × Nat) := (demP d e).map (atP d e)
def addAll (ord L : List (Nat × Nat)) : List (Nat × Nat) := L.foldl addP ord
theorem addAll_nil (ord : List (Nat × Nat)) : addAll ord [] = ord := rfl
theorem addAll_snoc (ord L : List (Nat × Nat)) (q : Nat × Nat) : addAll ord (L ++ [q]) = addP (addAll ord L) q := by
  unfold addAll; rw [List.foldl_append]; rfl
theorem addAll_props : ∀ (L ord : List (Nat × Nat)), (∃ t, addAll ord L = ord ++ t) ∧ (∀ q, q ∈ L → q ∈ addAll ord L) ∧ (∀ q, q ∈ addAll ord L → q ∈ ord ∨ q ∈ L) ∧ (ord.Nodup → (addAll ord L).Nodup)
  | [], ord => ⟨⟨[], by rw [addAll_nil, List.append_nil]⟩, fun _ h => (by cases h), fun _ h => Or.inl h, fun h => h⟩
  | p :: L, ord => by
    obtain ⟨⟨t, ht⟩, h2, h3, h4⟩ := addAll_props L (addP ord p)
    obtain ⟨t2, ht2⟩ := addP_pre ord p
    have e : addAll ord (p :: L) = addAll (addP ord p) L := rfl
    rw [e]
    refine ⟨⟨t2 ++ t, by rw [ht, ht2, List.append_assoc]⟩, fun q hq => ?_, fun q hq => ?_, fun h => h4 (addP_nodup h)⟩
    · rcases List.mem_cons.1 hq with rfl | hq
      · rw [ht]; exact List.mem_append_left _ (mem_addP.2 (Or.inr rfl))
      · exact h2 q hq
    · rcases h3 q hq with h | h
      · rcases mem_addP.1 h with h | h
        · exact Or.inl h
        · exact Or.inr (by rw [h]; exact List.mem_cons_self)
      · exact Or.inr (List.mem_cons_of_mem _ h)
theorem addAll_len (ord L : List (Nat × Nat)) : ord.length ≤ (addAll ord L).length := by
  obtain ⟨⟨t, ht⟩, _⟩ := addAll_props L ord
  rw [ht, List.length_append]; omega
theorem sinv_all {N : Nat} {G : Nat → ND} {a b i x y : Nat} {ord : List (Nat × Nat)} (h : SInv N G a b ord i) (hK : Kids N G) (hP : ∀ x, x < N → Plain (G x)) (hq : ord[i]? = some (x, y)) (hc : Can (G x) (G y)) :
    SInv N G a b (addAll ord (demL (G x) (G y))) (i + 1) := by
  obtain ⟨h1, h2, h3, h4⟩ := addAll_props (demL (G x) (G y)) ord
  refine (h.step hK hP hq ⟨h1, Or.inr ⟨hc, fun d hd => h2 _ (List.mem_map_of_mem hd)⟩, fun q hq2 => ?_, h4⟩).1
  rcases h3 q hq2 with h5 | h5
  · exact Or.inl h5
  · obtain ⟨d, hd, e⟩ := List.mem_map.1 h5
    exact Or.inr ⟨d, hd, e.symm⟩
/-- The demands lie in the graph. -/
theorem demL_lt {N : Nat} {G : Nat → ND} {x y : Nat} (hK : Kids N G) (hP : ∀ x, x < N → Plain (G x)) (hx : x < N) (hy : y < N) (hc : Can (G x) (G y)) {q : Nat × Nat} (hq : q ∈ demL (G x) (G y)) : q.1 < N ∧ q.2 < N := by
  obtain ⟨d, hd, rfl⟩ := List.mem_map.1 hq
  obtain ⟨d1, d2⟩ := dem_lt (hP x hx) (hP y hy) hc hd
  unfold atP
  split
  · exact ⟨hK.lt hy d2, hK.lt hx d1⟩
  · exact ⟨hK.lt hx d1, hK.lt hy d2⟩

/-- What is met so far, as a row of truth values. -/
def metv (N : Nat) (ord : List (Nat × Nat)) (k : Nat) : Value := .bool (decide ((k / N, k % N) ∈ ord))
theorem at_div {N x y : Nat} (hy : y < N) : ((x * N + y) / N, (x * N + y) % N) = (x, y) := by
  have h : 0 < N := by omega
  rw [Nat.mul_comm, Nat.mul_add_div h, Nat.mul_add_mod, Nat.div_eq_of_lt hy, Nat.mod_eq_of_lt hy, Nat.add_zero]
theorem metv_at {N x y : Nat} {ord : List (Nat × Nat)} (hy : y < N) : metv N ord (x * N + y) = .bool (decide ((x, y) ∈ ord)) := by
  unfold metv; rw [at_div hy]
theorem div_inj {N k x y : Nat} (h : (k / N, k % N) = (x, y)) : k = x * N + y := by
  have h1 : k / N = x := (Prod.mk.inj h).1
  have h2 : k % N = y := (Prod.mk.inj h).2
  have := Nat.div_add_mod k N
  rw [h1, h2, Nat.mul_comm] at this
  exact this.symm
/-- One pair more. -/
theorem metv_add {N x y : Nat} {ord : List (Nat × Nat)} (hy : y < N) (k : Nat) : (if k = x * N + y then Value.bool true else metv N ord k) = metv N (ord ++ [(x, y)]) k := by
  unfold metv
  by_cases h : k = x * N + y
  · rw [if_pos h, h, at_div hy, decide_eq_true (List.mem_append_right _ (List.mem_singleton.2 rfl))]
  · rw [if_neg h]
    congr 1
    rw [decide_eq_decide, List.mem_append, List.mem_singleton]
    exact ⟨Or.inl, fun h2 => h2.elim id (fun h3 => absurd (div_inj h3) h)⟩

/-- The demands one by one: of two functions. -/
theorem demL_fun {d e : ND} (hd : d.kind = 4) (he : e.kind = 4) : demL d e = [(kid e 0, kid d 0), (kid d 1, kid e 1)] := by
  unfold demL demP
  rw [if_neg (by omega), if_pos hd]
  rfl
theorem demL_any {d e : ND} (h : d.kind = 0 ∨ e.kind = 0) : demL d e = [] := by
  unfold demL demP
  rw [if_pos h]; rfl
/-- .. of others, up to the i-th name. -/
def demTo (d e : ND) (i : Nat) : List (Nat × Nat) := (List.range i).map fun j => (kid d (posOf d (e.nm j)), kid e j)
theorem demTo_succ (d e : ND) (i : Nat) : demTo d e (i + 1) = demTo d e i ++ [(kid d (posOf d (e.nm i)), kid e i)] := by
  unfold demTo; rw [List.range_succ, List.map_append]; rfl
theorem demTo_len (d e : ND) (i : Nat) : (demTo d e i).length = i := by unfold demTo; simp
theorem demL_rec {d e : ND} (h0 : ¬ d.kind = 0) (h1 : ¬ e.kind = 0) (h4 : ¬ d.kind = 4) : demL d e = demTo d e e.nn := by
  unfold demL demP demTo
  rw [if_neg (by omega), if_neg h4, List.map_map]
  rfl
theorem can_rec {d e : ND} (h0 : ¬ d.kind = 0) (h1 : ¬ e.kind = 0) (h4 : ¬ d.kind = 4) (he : d.kind = e.kind) : Can d e ↔ ∀ i, i < e.nn → posOf d (e.nm i) < d.nn := by
  unfold Can
  constructor
  · rintro (h | h | ⟨_, h | h⟩)
    · exact absurd h h0
    · exact absurd h h1
    · exact absurd h h4
    · exact h
  · exact fun h => Or.inr (Or.inr ⟨he, Or.inr h⟩)
theorem kidBy_in {d : ND} {s : ByteArray} (h : posOf d s < d.nn) (hk : ∀ j, j < d.nn → 0 ≤ d.kd j) : kidBy d s = ((kid d (posOf d s) : Nat) : Int) := by
  unfold kidBy kid
  rw [if_pos h, Int.toNat_of_nonneg (hk _ h)]
theorem kidBy_out {d : ND} {s : ByteArray} (h : ¬ posOf d s < d.nn) : kidBy d s = -1 := by
  unfold kidBy
  rw [if_neg h]

end Go.Proofs.YtoanhnmpkonbfaaGreatDoor

