/-
  Tables: a table that is built, slot behind slot.
-/
import Derived.Test.YtijgiingfgaakaaTabV2
import Derived.Test.YtijgiingfgaakaaTabS
namespace Go.Proofs.Ytijgiingfgaakaa
open Go.RowKit

/-- A slot's cells, in a list. -/
def slc (p : SP) (d : SD) : List Value := [.int .i64 d.k, .string d.m, .bool d.has, .string d.v, .slice p.a d.n p.c, .int .i64 d.ver, .int .i64 d.chg, .int .i64 d.own, .int .i64 d.sin]
/-- The cells of the first n slots. -/
def scells (p : Nat → SP) (D : Nat → SD) : Nat → List Value
  | 0 => []
  | n + 1 => scells p D n ++ slc (p n) (D n)

theorem scells_len (p : Nat → SP) (D : Nat → SD) (n : Nat) : (scells p D n).length = n * 9 := by
  induction n with
  | zero => rfl
  | succ n ih => show (scells p D n ++ slc (p n) (D n)).length = _; rw [List.length_append, ih]; show n * 9 + 9 = _; omega

theorem slc_at (p : SP) (d : SD) (j : Nat) (hj : j < 9) : (slc p d)[j]? = some (sc p d j) := by
  match j, hj with
  | 0, _ => rfl
  | 1, _ => rfl
  | 2, _ => rfl
  | 3, _ => rfl
  | 4, _ => rfl
  | 5, _ => rfl
  | 6, _ => rfl
  | 7, _ => rfl
  | 8, _ => rfl

theorem scells_at (p : Nat → SP) (D : Nat → SD) (n i j : Nat) (hi : i < n) (hj : j < 9) : (scells p D n)[i * 9 + j]? = some (sc (p i) (D i) j) := by
  induction n with
  | zero => omega
  | succ n ih =>
    show (scells p D n ++ slc (p n) (D n))[i * 9 + j]? = _
    by_cases e : i = n
    · subst e
      rw [List.getElem?_append_right (by rw [scells_len]; omega), scells_len, Nat.add_sub_cancel_left]
      exact slc_at _ _ _ hj
    · rw [List.getElem?_append_left (by rw [scells_len]; omega)]
      exact ih (by omega)

theorem scells_congr {p p' : Nat → SP} {D : Nat → SD} {n : Nat} (h : ∀ i, i < n → p i = p' i) : scells p D n = scells p' D n := by
  induction n with
  | zero => rfl
  | succ n ih => show scells p D n ++ slc (p n) (D n) = scells p' D n ++ slc (p' n) (D n); rw [ih (fun i hi => h i (by omega)), h n (by omega)]

/-- An owned row's cells, by their place. -/
theorem own_row {w : World} {base : Nat} {e : TypeId} {size n : Nat} {oa : Option Addr} {cap : Nat} {xs : List Value} (h : w.ownsRow base e size (.slice oa n cap) n xs) (hn : 0 < n) :
    ∃ (g N : Nat) (f : Nat → Value), oa = some ⟨g, 0, none⟩ ∧ base ≤ g ∧ w.rowIs g e N f ∧ n * size ≤ N ∧ ∀ j u, j < n * size → xs[j]? = some u → f j = u := by
  obtain ⟨h1, h2⟩ := h
  rcases h2 with ⟨hv, h0⟩ | ⟨g, cap', cur, hv, hb, hh, hc, hm, hs, ht⟩
  · omega
  · simp only [Value.slice.injEq] at hv
    refine ⟨g, cur.size, fun i => cur[i]!, hv.1, hb, ⟨cur, hh, rfl, fun i hi => by simp [hi]⟩, by rw [hs]; exact Nat.mul_le_mul_right _ hc, fun j u hj hu => ?_⟩
    rw [← ht, List.getElem?_take, if_pos hj, Array.getElem?_toList] at hu
    show cur[j]! = u
    rw [getElem!_def, hu]

/-- Owned keys are keys in memory of their own. -/
theorem keys_own {w : World} {base : Nat} {n : Nat} {oa : Option Addr} {cap : Nat} {K : Nat → Int} {M : Nat → ByteArray} (h : w.ownsRow base 37 2 (.slice oa n cap) n (kcells K M n)) :
    ∃ b, KeysNew w base w.heap.size oa b n K M := by
  by_cases hn : 0 < n
  · obtain ⟨g, N, f, h1, h2, h3, h4, h5⟩ := own_row h hn
    refine ⟨g, fun _ => h1, fun _ => ⟨N, f, h3, h4, fun j hj => ⟨?_, ?_⟩⟩, fun _ => ⟨h2, h3.lt⟩⟩
    · exact h5 _ _ (by omega) (kcells_at K M n j 0 hj (by omega))
    · exact h5 _ _ (by omega) (kcells_at K M n j 1 hj (by omega))
  · exact ⟨0, fun q => absurd q hn, fun q => absurd q hn, fun q => absurd q hn⟩

/-- A table that is being built: the first c slots stand. -/
structure Bld (w : World) (base : Nat) (sv : Value) (c : Nat) (p : Nat → SP) (D : Nat → SD) : Prop where
  own : w.ownsRow base 40 9 sv c (scells p D c)
  keys : ∀ i, i < c → KeysNew w base w.heap.size (p i).a (p i).b (D i).n (D i).dk (D i).dm ∧ (p i).o = 0 ∧ (0 < (D i).n → some (p i).b ≠ sv.ownBlock)
  dist : ∀ i j, i < c → j < c → i ≠ j → 0 < (D i).n → 0 < (D j).n → (p i).b ≠ (p j).b

theorem bld_start {w : World} {base : Nat} {sv : Value} {p : Nat → SP} {D : Nat → SD} (h : w.ownsRow base 40 9 sv 0 []) : Bld w base sv 0 p D :=
  ⟨h, fun _ hi => absurd hi (Nat.not_lt_zero _), fun _ _ hi => absurd hi (Nat.not_lt_zero _)⟩

theorem Bld.below {w w' : World} {base : Nat} {sv : Value} {c : Nat} {p : Nat → SP} {D : Nat → SD} (h : Bld w base sv c p D) (hb : Below w.heap.size w w') : Bld w' base sv c p D :=
  ⟨own_below h.own hb, fun i hi => ⟨((h.keys i hi).1.below hb).wide (Nat.le_refl _) hb.size, (h.keys i hi).2⟩, h.dist⟩

theorem bld_step {w w1 w3 : World} {base : Nat} {oa : Option Addr} {c cap gg cap3 : Nat} {ka : Option Addr} {kc : Nat} {p : Nat → SP} {D : Nat → SD} {o : Obj} (h : Bld w base (.slice oa c cap) c p D) (hb : Below w.heap.size w w1)
    (hK : w1.ownsRow w.heap.size 37 2 (.slice ka (D c).n kc) (D c).n (kcells (D c).dk (D c).dm (D c).n)) (hbase : base ≤ w.heap.size)
    (hown3 : w3.ownsRow base 40 9 (.slice (some ⟨gg, 0, none⟩) (c + 1) cap3) (c + 1) (scells p D c ++ slc ⟨ka, 0, 0, kc⟩ (D c))) (hg3 : (w1.alloc o).grownBy w3 (Value.slice oa c cap).ownBlock)
    (hat : (Value.slice oa c cap).ownBlock = some gg ∨ gg = w1.heap.size + 1) :
    ∃ q, Bld w3 base (.slice (some ⟨gg, 0, none⟩) (c + 1) cap3) (c + 1) q D := by
  obtain ⟨kb, hk⟩ := keys_own hK
  have hs := hb.size
  have hs3 := hg3.size
  simp only [World.size_alloc] at hs3
  have hlt := h.own.lt
  refine ⟨fun i => if i = c then ⟨ka, kb, 0, kc⟩ else p i, ?_, fun i hi => ?_, fun i j hi hj hij hi1 hj1 => ?_⟩
  · have e : scells (fun i => if i = c then ⟨ka, kb, 0, kc⟩ else p i) D (c + 1) = scells p D c ++ slc ⟨ka, 0, 0, kc⟩ (D c) := by
      show scells _ D c ++ slc (if c = c then _ else _) (D c) = _
      rw [if_pos rfl, scells_congr (p' := p) (fun i hi => if_neg (by omega))]
      rfl
    rw [e]; exact hown3
  · have far : ∀ x, x < w1.heap.size → some x ≠ (Value.slice oa c cap).ownBlock → w3.heap[x]? = w1.heap[x]? := fun x hx hne => by
      rw [hg3.block x (by simp; omega) hne, Below.heap_alloc _ _ _ hx]
    have ne_gg : ∀ x, x < w1.heap.size → some x ≠ (Value.slice oa c cap).ownBlock → x ≠ gg := fun x hx hne e => by
      subst e
      rcases hat with e | e
      · exact hne e.symm
      · omega
    by_cases e : i = c
    · subst e
      simp only [if_true]
      refine ⟨⟨hk.at_, fun q => (hk.row q).of (far kb (hk.inn q).2 (fun e => ?_)), fun q => ?_⟩, by trivial, fun q e => ?_⟩
      · have := (hlt kb e.symm).2; have := (hk.inn q).1; omega
      · have := hk.inn q; omega
      · have h1 := hk.inn q
        have : kb = gg := by simpa [Value.ownBlock] using e
        exact ne_gg kb h1.2 (fun e2 => by have := (hlt kb e2.symm).2; omega) this
    · simp only [if_neg e]
      obtain ⟨k1, k2, k3⟩ := h.keys i (by omega)
      refine ⟨⟨k1.at_, fun q => ((k1.row q).of (hb.block _ (k1.row q).lt)).of (far _ (by have := (k1.row q).lt; omega) (k3 q)), fun q => ?_⟩, k2, fun q e2 => ?_⟩
      · have := k1.inn q; omega
      · have : (p i).b = gg := by simpa [Value.ownBlock] using e2
        exact ne_gg _ (by have := (k1.row q).lt; omega) (k3 q) this
  · by_cases e : i = c
    · subst e
      simp only [if_true, if_neg (Ne.symm hij)]
      have := (h.keys j (by omega)).1.inn hj1
      have := hk.inn hi1
      omega
    · by_cases e2 : j = c
      · subst e2
        simp only [if_true, if_neg e]
        have := (h.keys i (by omega)).1.inn hi1
        have := hk.inn hj1
        omega
      · simp only [if_neg e, if_neg e2]
        exact h.dist i j (by omega) (by omega) hij hi1 hj1

theorem Bld.tab {w : World} {base : Nat} {oa : Option Addr} {c cap : Nat} {p : Nat → SP} {D : Nat → SD} (h : Bld w base (.slice oa c cap) c p D) : ∃ b, TabNew w base w.heap.size oa b c p D := by
  by_cases hn : 0 < c
  · obtain ⟨g, N, f, h1, h2, h3, h4, h5⟩ := own_row h.own hn
    refine ⟨g, fun _ => h1, fun _ => ⟨N, f, h3, h4, fun i j hi hj => h5 _ _ (by omega) (scells_at p D c i j hi hj)⟩, fun _ => ⟨h2, h3.lt⟩, fun i hi => ?_, h.dist⟩
    obtain ⟨k1, k2, k3⟩ := h.keys i hi
    refine ⟨k1, k2, fun q e => k3 q ?_⟩
    rw [h1, e]; rfl
  · have : c = 0 := by omega
    subst this
    exact ⟨0, tab_none _ _ _ _ _ _ _⟩

end Go.Proofs.Ytijgiingfgaakaa
