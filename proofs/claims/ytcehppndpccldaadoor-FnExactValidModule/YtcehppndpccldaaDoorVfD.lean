/-
  The law's copies: from the argument to lists of one's own.
-/
import Derived.Test.YtcehppndpccldaaDoorM8
namespace Go.Proofs.YtcehppndpccldaaDoor
open Go.RowKit

/-- The blocks from B on are as they were. -/
def Up (B : Nat) (w w' : World) : Prop := ∀ b, B ≤ b → b < w.heap.size → w'.heap[b]? = w.heap[b]?
theorem Up.of_below {B : Nat} {w w' : World} (h : Below w.heap.size w w') : Up B w w' := fun b _ hb => h.block b hb
theorem Up.set {B : Nat} {w : World} {a : Addr} (h : a.block < B) (v : Value) : Up B w (w.setCell a v) := fun b hb _ => Below.heap_setCell _ _ _ _ (by omega)
theorem Up.trans {B : Nat} {w w1 w2 : World} (h : Up B w w1) (hs : w.heap.size ≤ w1.heap.size) (h' : Up B w1 w2) : Up B w w2 := fun b hb hlt => (h' b hb (by omega)).trans (h b hb hlt)
theorem NmOK.up {B : Nat} {w w' : World} {ns : List ByteArray} {p : NPl} (h : NmOK B w ns p) (hu : Up B w w') : NmOK B w' ns p := fun hn => by
  obtain ⟨e, hb, N, f, r, hl, hf⟩ := h hn
  exact ⟨e, hb, N, f, r.of_block (hu _ hb r.lt), hl, hf⟩
theorem own_up {B n size : Nat} {w w' : World} {t : TypeId} {v : Value} {xs : List Value} (h : w.ownsRow B t size v n xs) (hu : Up B w w') : w'.ownsRow B t size v n xs := own_block h fun k e => by
  have := h.lt k e.symm
  exact hu k this.1 this.2
theorem RT.up {B : Nat} {w w' : World} {v : Value} {xs : List (TI × NPl)} (h : RT B w v xs) (hu : Up B w w') : RT B w' v xs := ⟨own_up h.own hu, fun x hx => (h.nm x hx).up hu⟩
theorem RiOK.up {B : Nat} {w w' : World} {x : EI × EPl} (h : RiOK B w x) (hu : Up B w w') : RiOK B w' x := ⟨h.nm.up hu, h.ty.up hu, h.is⟩
theorem RE.up {B : Nat} {w w' : World} {v : Value} {xs : List (EI × EPl)} (h : RE B w v xs) (hu : Up B w w') : RE B w' v xs := ⟨own_up h.own hu, fun x hx => (h.ok x hx).up hu⟩
theorem RdOK.up {B : Nat} {w w' : World} {d : DC} {p : DPl} (h : RdOK B w d p) (hu : Up B w w') : RdOK B w' d p := ⟨h.ty.up hu, h.isT, h.ex.up hu, h.isE⟩
/-- Items of one's own, with room for what they hold. -/
structure IvT (B : Nat) (w : World) (y : TI × NPl) : Prop where
  ok : NmOK B w y.1.ns y.2
  cap : y.1.ns.length ≤ y.2.c
structure IvE (B : Nat) (w : World) (y : EI × EPl) : Prop where
  ok : RiOK B w y
  cap : y.1.ns.length ≤ y.2.np.c
  capT : ∀ z, z ∈ y.2.zs → z.1.ns.length ≤ z.2.c
structure IvD (B : Nat) (w : World) (y : DC × DPl) : Prop where
  ok : RdOK B w y.1 y.2
  capT : ∀ z, z ∈ y.2.zs → z.1.ns.length ≤ z.2.c
  capE : ∀ z, z ∈ y.2.es → z.1.ns.length ≤ z.2.np.c ∧ ∀ u, u ∈ z.2.zs → u.1.ns.length ≤ u.2.c
theorem IvT.up {B : Nat} {w w' : World} {y : TI × NPl} (h : IvT B w y) (hu : Up B w w') : IvT B w' y := ⟨h.ok.up hu, h.cap⟩
theorem IvE.up {B : Nat} {w w' : World} {y : EI × EPl} (h : IvE B w y) (hu : Up B w w') : IvE B w' y := ⟨h.ok.up hu, h.cap, h.capT⟩
theorem IvD.up {B : Nat} {w w' : World} {y : DC × DPl} (h : IvD B w y) (hu : Up B w w') : IvD B w' y := ⟨h.ok.up hu, h.capT, h.capE⟩
theorem IvT.mono {B B' : Nat} {w : World} {y : TI × NPl} (h : IvT B w y) (hb : B' ≤ B) : IvT B' w y := ⟨h.ok.mono hb, h.cap⟩
theorem IvE.mono {B B' : Nat} {w : World} {y : EI × EPl} (h : IvE B w y) (hb : B' ≤ B) : IvE B' w y := ⟨h.ok.mono hb, h.cap, h.capT⟩
theorem IvD.mono {B B' : Nat} {w : World} {y : DC × DPl} (h : IvD B w y) (hb : B' ≤ B) : IvD B' w y := ⟨h.ok.mono hb, h.capT, h.capE⟩

/-- The row of new entries, its first k filled. -/
structure Fil (t : TypeId) (K : Nat) (w wr : World) (n k : Nat) (F : Nat → Nat → Value) : Prop where
  below : Below w.heap.size w wr
  row : ∃ f, wr.rowIs w.heap.size t (n * K) f ∧ ∀ i j, i < k → j < K → f (i * K + j) = F i j
theorem fil_start (t : TypeId) (K : Nat) (w : World) (n : Nat) (z : Array Value) (F : Nat → Nat → Value) : Fil t K w (w.alloc (.cells (madeCells z (n * K)) t)) n 0 F := by
  refine ⟨bel1 w _, ?_⟩
  have h := World.rowIs_alloc w (madeCells z (n * K)) t (fun i => (madeCells z (n * K))[i]!) (fun i hi => by simp [hi])
  rw [size_madeCells] at h
  exact ⟨_, h, fun i j hi => absurd hi (Nat.not_lt_zero _)⟩
theorem own_of_row {w : World} {b B n K : Nat} {t : TypeId} {f : Nat → Value} {α : Type} (C : α → List Value) (hK : ∀ x, (C x).length = K) (l : List α) (hl : l.length = n) (h : w.rowIs b t (n * K) f) (hf : ∀ i (hi : i < l.length) r, r < K → (C l[i])[r]? = some (f (i * K + r))) (hB : B ≤ b) (hn : n ≤ maxLen) (hK0 : 0 < K) :
    w.ownsRow B t K (.slice (some ⟨b, 0, none⟩) n n) n (l.flatMap C) := by
  obtain ⟨c, hc, hs, hv⟩ := h
  refine ⟨by rw [flat_len C K hK, hl], .inr ⟨b, n, c, rfl, hB, hc, Nat.le_refl _, hn, hs, ?_⟩⟩
  rw [List.take_of_length_le (by rw [Array.length_toList]; omega)]
  apply List.ext_getElem?
  intro j
  rcases Nat.lt_or_ge j (n * K) with hj | hj
  · have hd : j / K < l.length := by rw [hl]; exact Nat.div_lt_of_lt_mul (by rw [Nat.mul_comm]; exact hj)
    have hm : j % K < K := Nat.mod_lt _ hK0
    have he : j = j / K * K + j % K := by rw [Nat.mul_comm]; exact (Nat.div_add_mod j K).symm
    rw [Array.getElem?_toList, hv j hj]
    conv => rhs; rw [he]
    rw [flat_get C K hK l _ _ hd hm, hf _ hd _ hm, ← he]
  · rw [List.getElem?_eq_none (by rw [Array.length_toList]; omega), List.getElem?_eq_none (by rw [flat_len C K hK, hl]; omega)]
def put4 (w : World) (g o : Nat) (a0 a1 a2 a3 : Value) : World := ((((w.setCell ⟨g, o, none⟩ a0).setCell ⟨g, o + 1, none⟩ a1).setCell ⟨g, o + 2, none⟩ a2).setCell ⟨g, o + 3, none⟩ a3)
def ent4 (a0 a1 a2 a3 : Value) : Nat → Value
  | 0 => a0
  | 1 => a1
  | 2 => a2
  | _ => a3
theorem put4_below {w w' : World} {base g o : Nat} {a0 a1 a2 a3 : Value} (h : Below base w w') (hb : base ≤ g) : Below base w (put4 w' g o a0 a1 a2 a3) := ((((h.setCell hb _).setCell hb _).setCell hb _).setCell hb _)
theorem put4_row {w : World} {g o : Nat} {a0 a1 a2 a3 : Value} {t : TypeId} {n : Nat} {f : Nat → Value} (h : w.rowIs g t n f) : (put4 w g o a0 a1 a2 a3).rowIs g t n (fun x => if o ≤ x ∧ x < o + 4 then ent4 a0 a1 a2 a3 (x - o) else f x) :=
  ((((h.set (o) _).set (o + 1) _).set (o + 2) _).set (o + 3) _).congr (fun x _ => by
    show (if x = o + 3 then _ else if x = o + 2 then _ else if x = o + 1 then _ else if x = o then _ else f x) = _
    by_cases h : o ≤ x ∧ x < o + 4
    · obtain ⟨j, rfl⟩ : ∃ j, x = o + j := ⟨x - o, by omega⟩
      rw [if_pos h, Nat.add_sub_cancel_left]
      have hj : j < 4 := by omega
      match j, hj with
      | 0, _ => simp [ent4]
      | 1, _ => simp [ent4]
      | 2, _ => simp [ent4]
      | 3, _ => simp [ent4]
    · rw [if_neg h, if_neg (by omega), if_neg (by omega), if_neg (by omega), if_neg (by omega)])
theorem put4_up {w : World} {B g o : Nat} {a0 a1 a2 a3 : Value} (hg : g < B) : Up B w (put4 w g o a0 a1 a2 a3) := fun b hb _ => by
  have ne : ∀ j, b ≠ (⟨g, j, none⟩ : Addr).block := fun j => by show b ≠ g; omega
  unfold put4
  rw [Below.heap_setCell _ _ _ _ (ne _), Below.heap_setCell _ _ _ _ (ne _), Below.heap_setCell _ _ _ _ (ne _), Below.heap_setCell _ _ _ _ (ne _)]
theorem fil4_step {t : TypeId} {w wr w' : World} {n k : Nat} {F : Nat → Nat → Value} (h : Fil t 4 w wr n k F) (hb : Below wr.heap.size wr w') (F' : Nat → Nat → Value) (hF : ∀ i j, i < k → F' i j = F i j) (a0 a1 a2 a3 : Value) (hE : ∀ j, j < 4 → F' k j = ent4 a0 a1 a2 a3 j) :
    Fil t 4 w (put4 w' w.heap.size (k * 4) a0 a1 a2 a3) n (k + 1) F' := by
  obtain ⟨f, hf, hv⟩ := h.row
  have hlt := hf.lt
  refine ⟨put4_below (h.below.trans (hb.mono h.below.size)) (Nat.le_refl _), ⟨_, put4_row (hf.of_block (hb.block _ hlt)), fun i j hi hj => ?_⟩⟩
  by_cases e : i = k
  · subst e
    rw [if_pos (by omega), Nat.add_sub_cancel_left, hE j hj]
  · rw [if_neg (by omega), hv i j (by omega) hj, hF i j (by omega)]
theorem ats4 {w : World} {B : Nat} {t : TypeId} {n : Nat} {f : Nat → Value} (h : w.rowIs B t n f) (o : Nat) (ho : o + 4 ≤ n) :
    (w.cell? ⟨B, o, none⟩ = some (f (o)) ∧ w.cell? ⟨B, o + 1, none⟩ = some (f (o + 1)) ∧ w.cell? ⟨B, o + 2, none⟩ = some (f (o + 2)) ∧ w.cell? ⟨B, o + 3, none⟩ = some (f (o + 3))) ∧ (w.frozen? ⟨B, o, none⟩ = false ∧ w.frozen? ⟨B, o + 1, none⟩ = false ∧ w.frozen? ⟨B, o + 2, none⟩ = false ∧ w.frozen? ⟨B, o + 3, none⟩ = false) :=
  ⟨⟨h.cell (by omega), h.cell (by omega), h.cell (by omega), h.cell (by omega)⟩, ⟨h.frozen _, h.frozen _, h.frozen _, h.frozen _⟩⟩
def put6 (w : World) (g o : Nat) (a0 a1 a2 a3 a4 a5 : Value) : World := ((((((w.setCell ⟨g, o, none⟩ a0).setCell ⟨g, o + 1, none⟩ a1).setCell ⟨g, o + 2, none⟩ a2).setCell ⟨g, o + 3, none⟩ a3).setCell ⟨g, o + 4, none⟩ a4).setCell ⟨g, o + 5, none⟩ a5)
def ent6 (a0 a1 a2 a3 a4 a5 : Value) : Nat → Value
  | 0 => a0
  | 1 => a1
  | 2 => a2
  | 3 => a3
  | 4 => a4
  | _ => a5
theorem put6_below {w w' : World} {base g o : Nat} {a0 a1 a2 a3 a4 a5 : Value} (h : Below base w w') (hb : base ≤ g) : Below base w (put6 w' g o a0 a1 a2 a3 a4 a5) := ((((((h.setCell hb _).setCell hb _).setCell hb _).setCell hb _).setCell hb _).setCell hb _)
theorem put6_row {w : World} {g o : Nat} {a0 a1 a2 a3 a4 a5 : Value} {t : TypeId} {n : Nat} {f : Nat → Value} (h : w.rowIs g t n f) : (put6 w g o a0 a1 a2 a3 a4 a5).rowIs g t n (fun x => if o ≤ x ∧ x < o + 6 then ent6 a0 a1 a2 a3 a4 a5 (x - o) else f x) :=
  ((((((h.set (o) _).set (o + 1) _).set (o + 2) _).set (o + 3) _).set (o + 4) _).set (o + 5) _).congr (fun x _ => by
    show (if x = o + 5 then _ else if x = o + 4 then _ else if x = o + 3 then _ else if x = o + 2 then _ else if x = o + 1 then _ else if x = o then _ else f x) = _
    by_cases h : o ≤ x ∧ x < o + 6
    · obtain ⟨j, rfl⟩ : ∃ j, x = o + j := ⟨x - o, by omega⟩
      rw [if_pos h, Nat.add_sub_cancel_left]
      have hj : j < 6 := by omega
      match j, hj with
      | 0, _ => simp [ent6]
      | 1, _ => simp [ent6]
      | 2, _ => simp [ent6]
      | 3, _ => simp [ent6]
      | 4, _ => simp [ent6]
      | 5, _ => simp [ent6]
    · rw [if_neg h, if_neg (by omega), if_neg (by omega), if_neg (by omega), if_neg (by omega), if_neg (by omega), if_neg (by omega)])
theorem put6_up {w : World} {B g o : Nat} {a0 a1 a2 a3 a4 a5 : Value} (hg : g < B) : Up B w (put6 w g o a0 a1 a2 a3 a4 a5) := fun b hb _ => by
  have ne : ∀ j, b ≠ (⟨g, j, none⟩ : Addr).block := fun j => by show b ≠ g; omega
  unfold put6
  rw [Below.heap_setCell _ _ _ _ (ne _), Below.heap_setCell _ _ _ _ (ne _), Below.heap_setCell _ _ _ _ (ne _), Below.heap_setCell _ _ _ _ (ne _), Below.heap_setCell _ _ _ _ (ne _), Below.heap_setCell _ _ _ _ (ne _)]
theorem fil6_step {t : TypeId} {w wr w' : World} {n k : Nat} {F : Nat → Nat → Value} (h : Fil t 6 w wr n k F) (hb : Below wr.heap.size wr w') (F' : Nat → Nat → Value) (hF : ∀ i j, i < k → F' i j = F i j) (a0 a1 a2 a3 a4 a5 : Value) (hE : ∀ j, j < 6 → F' k j = ent6 a0 a1 a2 a3 a4 a5 j) :
    Fil t 6 w (put6 w' w.heap.size (k * 6) a0 a1 a2 a3 a4 a5) n (k + 1) F' := by
  obtain ⟨f, hf, hv⟩ := h.row
  have hlt := hf.lt
  refine ⟨put6_below (h.below.trans (hb.mono h.below.size)) (Nat.le_refl _), ⟨_, put6_row (hf.of_block (hb.block _ hlt)), fun i j hi hj => ?_⟩⟩
  by_cases e : i = k
  · subst e
    rw [if_pos (by omega), Nat.add_sub_cancel_left, hE j hj]
  · rw [if_neg (by omega), hv i j (by omega) hj, hF i j (by omega)]
theorem ats6 {w : World} {B : Nat} {t : TypeId} {n : Nat} {f : Nat → Value} (h : w.rowIs B t n f) (o : Nat) (ho : o + 6 ≤ n) :
    (w.cell? ⟨B, o, none⟩ = some (f (o)) ∧ w.cell? ⟨B, o + 1, none⟩ = some (f (o + 1)) ∧ w.cell? ⟨B, o + 2, none⟩ = some (f (o + 2)) ∧ w.cell? ⟨B, o + 3, none⟩ = some (f (o + 3)) ∧ w.cell? ⟨B, o + 4, none⟩ = some (f (o + 4)) ∧ w.cell? ⟨B, o + 5, none⟩ = some (f (o + 5))) ∧ (w.frozen? ⟨B, o, none⟩ = false ∧ w.frozen? ⟨B, o + 1, none⟩ = false ∧ w.frozen? ⟨B, o + 2, none⟩ = false ∧ w.frozen? ⟨B, o + 3, none⟩ = false ∧ w.frozen? ⟨B, o + 4, none⟩ = false ∧ w.frozen? ⟨B, o + 5, none⟩ = false) :=
  ⟨⟨h.cell (by omega), h.cell (by omega), h.cell (by omega), h.cell (by omega), h.cell (by omega), h.cell (by omega)⟩, ⟨h.frozen _, h.frozen _, h.frozen _, h.frozen _, h.frozen _, h.frozen _⟩⟩
theorem Tryd.info9v : (Tryd.prog.info? 9).map (fun i => (i.zero, i.size, i.bytes)) = some (some (.string ByteArray.empty), 1, 16) := by kernel_rfl
theorem Tryd.make9 (n : Nat) (hn : n ≤ 1048576) (w : World) : (Instr.makeSlice 64 (.int .i64 (n : Int)) (.int .i64 (n : Int))).run Tryd.prog w = .ok (.slice (some ⟨w.heap.size, 0, none⟩) n n) (w.alloc (.cells (madeCells #[.string ByteArray.empty] n) 9)) := by
  have := run_make_row' (P := Tryd.prog) 64 9 (.string ByteArray.empty) 16 Tryd.underlying64 Tryd.info9v rfl .i64 .i64 n (by omega) (by omega) w
  exact this

structure FilN (w wr : World) (n k : Nat) (F : Nat → Value) : Prop where
  below : Below w.heap.size w wr
  row : ∃ f, wr.rowIs w.heap.size 9 n f ∧ ∀ i, i < k → f i = F i
theorem filN_start (w : World) (n : Nat) (z : Array Value) (F : Nat → Value) : FilN w (w.alloc (.cells (madeCells z n) 9)) n 0 F := by
  refine ⟨bel1 w _, ?_⟩
  have h := World.rowIs_alloc w (madeCells z n) 9 (fun i => (madeCells z n)[i]!) (fun i hi => by simp [hi])
  rw [size_madeCells] at h
  exact ⟨_, h, fun i hi => absurd hi (Nat.not_lt_zero _)⟩
set_option maxHeartbeats 1000000 in
theorem t_names (w : World) {p : AP} {ns : List ByteArray} (h : NL w p ns) (hl : ns.length ≤ 1048576) :
    Calls Tryd.prog 72 #[.slice p.a ns.length p.c] w fun e w' => e = .returned (.slice (some ⟨w.heap.size, 0, none⟩) ns.length ns.length) ∧ NmOK w.heap.size w' ns ⟨some ⟨w.heap.size, 0, none⟩, w.heap.size, ns.length⟩ ∧ Below w.heap.size w w' := by
  obtain ⟨n, hn⟩ : ∃ n, n = ns.length := ⟨_, rfl⟩
  have HC : Hid (∀ W, Below w.heap.size w W → ∀ k, k < n → p.a = some ⟨p.b, p.o, none⟩ ∧ W.cell? ⟨p.b, p.o + k, none⟩ = some (.string (ns.getD k e0))) := fun W hb k hk => ⟨h.at_ (by omega), (h.below hb).cell k (by omega)⟩
  have HN : Hid (n = ns.length) := hn
  rw [← hn]
  have hmk := Tryd.make9 n (by omega)
  have hnl : n ≤ 1048576 := by omega
  clear h hl hn
  go_enter Tryd.func72, Tryd.ntmps72
  go_wp2
  clear hmk
  go_loopw [4] (fun i wr => ∃ k : Nat, k ≤ n ∧ i = .int .i64 k ∧ FilN w wr n k (fun i => .string (ns.getD i e0))) (fun i _ => n - (intOf i).toNat)
  case atStart => exact ⟨0, Nat.zero_le _, rfl, filN_start _ _ _ _⟩
  case round =>
    obtain ⟨k, hk, rfl, hF⟩ := hrel
    by_cases hlt : k < n
    · obtain ⟨ea, y0⟩ := HC.out wr hF.below k hlt
      obtain ⟨f, hf, hv⟩ := hF.row
      have s0 := hf.cell (i := k) (by omega)
      have t0 := hf.frozen k
      have HH : Hid (FilN w (wr.setCell ⟨w.heap.size, k, none⟩ (.string (ns.getD k e0))) n (k + 1) (fun i => .string (ns.getD i e0))) := by
        refine ⟨hF.below.setCell (p := ⟨w.heap.size, k, none⟩) (Nat.le_refl _) _, _, hf.set k _, fun i hi => ?_⟩
        by_cases e : i = k
        · show (if i = k then _ else f i) = _
          rw [if_pos e, e]
        · show (if i = k then _ else f i) = _
          rw [if_neg e]
          exact hv i (by omega)
      obtain ⟨x, hx⟩ : ∃ x, x = ns.getD k e0 := ⟨_, rfl⟩
      rw [← hx] at y0 HH
      have hkl : (k : Int) < (n : Int) := by omega
      have hk0 : (0 : Int) ≤ (k : Int) := by omega
      rw [ea]
      clear hF hf hv hx ea
      go_wp2
      go_roundw
      case rel => exact ⟨k + 1, by omega, by go_num, HH.out⟩
      case measure => simp [intOf]; omega
    · have hkn : k = n := by omega
      subst hkn
      have HE : Hid (NmOK w.heap.size wr ns ⟨some ⟨w.heap.size, 0, none⟩, w.heap.size, k⟩ ∧ Below w.heap.size w wr) := by
        obtain ⟨f, hf, hv⟩ := hF.row
        refine ⟨fun _ => ⟨rfl, Nat.le_refl _, k, f, hf, by rw [← HN.out]; omega, fun j hj => hv j (by have := HN.out; omega)⟩, hF.below⟩
      have hkl : ¬ (k : Int) < (k : Int) := by omega
      clear hF
      go_wp2
      go_ret
      exact ⟨rfl, HE.out⟩

set_option maxRecDepth 100000 in
set_option maxHeartbeats 2000000 in
theorem t_titem (w : World) {t : TI} {p : AP} (h : NL w p t.ns) (hl : t.ns.length ≤ 1048576) :
    Calls Tryd.prog 54 #[.agg #[.int .i64 t.op, .string t.md, .string t.nm, .slice p.a t.ns.length p.c]] w fun e w' => ∃ y : TI × NPl, e = .returned (.agg #[.int .i64 y.1.op, .string y.1.md, .string y.1.nm, .slice y.2.a y.1.ns.length y.2.c]) ∧ y.1 = t ∧ IvT w.heap.size w' y ∧ Below w.heap.size w w' := by
  obtain ⟨W1, hW1⟩ : ∃ W1, W1 = ((w.alloc (.cells #[.int .i64 t.op, .string t.md, .string t.nm, .slice p.a t.ns.length p.c] 85)).alloc (.cells #[.int .i64 0, .string ⟨#[]⟩, .string ⟨#[]⟩, .slice none 0 0] 66)).alloc (.cells #[.int .i64 t.op, .string t.md, .string t.nm, .slice none 0 0] 66) := ⟨_, rfl⟩
  have HB0 : Hid (Below w.heap.size w W1) := by rw [hW1]; exact (bel2 _ _ _).alloc (by simp; omega) _
  have HX0 : Hid (W1.rowIs (w.heap.size) 85 4 (v4 (.int .i64 t.op) (.string t.md) (.string t.nm) (.slice p.a t.ns.length p.c))) := by rw [hW1]; exact ((row4 w (.int .i64 t.op) (.string t.md) (.string t.nm) (.slice p.a t.ns.length p.c) 85).alloc _).alloc _
  have HZ0 : Hid (W1.rowIs (w.heap.size + 1) 66 4 (v4 (.int .i64 0) (.string ⟨#[]⟩) (.string ⟨#[]⟩) (.slice none 0 0))) := by
    have q := row4 (w.alloc (.cells #[.int .i64 t.op, .string t.md, .string t.nm, .slice p.a t.ns.length p.c] 85)) (.int .i64 0) (.string ⟨#[]⟩) (.string ⟨#[]⟩) (.slice none 0 0) 66
    simp only [World.size_alloc] at q
    rw [hW1]
    exact q.alloc _
  have HO0 : Hid (W1.rowIs (w.heap.size + 1 + 1) 66 4 (v4 (.int .i64 t.op) (.string t.md) (.string t.nm) (.slice none 0 0))) := by
    have q := row4 ((w.alloc (.cells #[.int .i64 t.op, .string t.md, .string t.nm, .slice p.a t.ns.length p.c] 85)).alloc (.cells #[.int .i64 0, .string ⟨#[]⟩, .string ⟨#[]⟩, .slice none 0 0] 66)) (.int .i64 t.op) (.string t.md) (.string t.nm) (.slice none 0 0) 66
    simp only [World.size_alloc] at q
    rw [hW1]
    exact q
  have C0 := t_names W1 (h.below HB0.out) hl
  go_enter Tryd.func54, Tryd.ntmps54
  go_wp2_with fail
  rw [← hW1]
  clear hW1
  refine C0.mono ?_
  rintro e u0 ⟨rfl, N0, B0⟩
  have hs0 := HO0.out.lt
  have X0 := HX0.out.of_block (w' := u0) (B0.block _ (by omega))
  have Z0 := HZ0.out.of_block (w' := u0) (B0.block _ (by omega))
  have O0 := HO0.out.of_block (w' := u0) (B0.block _ (by omega))
  have HBu0 : Hid (Below w.heap.size w u0) := HB0.out.trans (B0.mono HB0.out.size)
  have o0_0 : World.cell? u0 ⟨w.heap.size + 1 + 1, 0, none⟩ = some (.int .i64 t.op) := O0.cell (i := 0) (by omega)
  have o0_1 : World.cell? u0 ⟨w.heap.size + 1 + 1, 1, none⟩ = some (.string t.md) := O0.cell (i := 1) (by omega)
  have o0_2 : World.cell? u0 ⟨w.heap.size + 1 + 1, 2, none⟩ = some (.string t.nm) := O0.cell (i := 2) (by omega)
  have o0_3 : World.cell? u0 ⟨w.heap.size + 1 + 1, 3, none⟩ = some (.slice none 0 0) := O0.cell (i := 3) (by omega)
  have of0 := O0.frozen 3
  have z0_0 : World.cell? u0 ⟨w.heap.size + 1, 0, none⟩ = some (.int .i64 0) := Z0.cell (i := 0) (by omega)
  have zf0_0 := Z0.frozen 0
  have z0_1 : World.cell? u0 ⟨w.heap.size + 1, 1, none⟩ = some (.string ⟨#[]⟩) := Z0.cell (i := 1) (by omega)
  have zf0_1 := Z0.frozen 1
  have z0_2 : World.cell? u0 ⟨w.heap.size + 1, 2, none⟩ = some (.string ⟨#[]⟩) := Z0.cell (i := 2) (by omega)
  have zf0_2 := Z0.frozen 2
  have z0_3 : World.cell? u0 ⟨w.heap.size + 1, 3, none⟩ = some (.slice none 0 0) := Z0.cell (i := 3) (by omega)
  have zf0_3 := Z0.frozen 3
  have RR := (((((Z0.setOther (a := ⟨w.heap.size + 1 + 1, 3, none⟩) (by show w.heap.size + 1 ≠ w.heap.size + 1 + 1; omega) (.slice (some ⟨W1.heap.size, 0, none⟩) t.ns.length t.ns.length)).set 0 (.int .i64 t.op)).set 1 (.string t.md)).set 2 (.string t.nm)).set 3 (.slice (some ⟨W1.heap.size, 0, none⟩) t.ns.length t.ns.length))
  have hup : Up (w.heap.size + 1 + 1 + 1) u0 (((((u0.setCell ⟨w.heap.size + 1 + 1, 3, none⟩ (.slice (some ⟨W1.heap.size, 0, none⟩) t.ns.length t.ns.length)).setCell ⟨w.heap.size + 1, 0, none⟩ (.int .i64 t.op)).setCell ⟨w.heap.size + 1, 1, none⟩ (.string t.md)).setCell ⟨w.heap.size + 1, 2, none⟩ (.string t.nm)).setCell ⟨w.heap.size + 1, 3, none⟩ (.slice (some ⟨W1.heap.size, 0, none⟩) t.ns.length t.ns.length)) := fun b hb _ => by
    have ne1 : b ≠ (⟨w.heap.size + 1 + 1, 3, none⟩ : Addr).block := by show b ≠ w.heap.size + 1 + 1; omega
    have ne2 : ∀ j, b ≠ (⟨w.heap.size + 1, j, none⟩ : Addr).block := fun j => by show b ≠ w.heap.size + 1; omega
    rw [Below.heap_setCell _ _ _ _ (ne2 _), Below.heap_setCell _ _ _ _ (ne2 _), Below.heap_setCell _ _ _ _ (ne2 _), Below.heap_setCell _ _ _ _ (ne2 _), Below.heap_setCell _ _ _ _ ne1]
  have HFB : Hid (Below w.heap.size w (((((u0.setCell ⟨w.heap.size + 1 + 1, 3, none⟩ (.slice (some ⟨W1.heap.size, 0, none⟩) t.ns.length t.ns.length)).setCell ⟨w.heap.size + 1, 0, none⟩ (.int .i64 t.op)).setCell ⟨w.heap.size + 1, 1, none⟩ (.string t.md)).setCell ⟨w.heap.size + 1, 2, none⟩ (.string t.nm)).setCell ⟨w.heap.size + 1, 3, none⟩ (.slice (some ⟨W1.heap.size, 0, none⟩) t.ns.length t.ns.length))) := by
    have q1 : w.heap.size ≤ w.heap.size + 1 + 1 := by omega
    have q2 : w.heap.size ≤ w.heap.size + 1 := by omega
    exact (((((HBu0.out.setCell (p := ⟨w.heap.size + 1 + 1, 3, none⟩) q1 _).setCell (p := ⟨w.heap.size + 1, 0, none⟩) q2 _).setCell (p := ⟨w.heap.size + 1, 1, none⟩) q2 _).setCell (p := ⟨w.heap.size + 1, 2, none⟩) q2 _).setCell (p := ⟨w.heap.size + 1, 3, none⟩) q2 _)
  obtain ⟨V, hV⟩ : ∃ V, V = (((((u0.setCell ⟨w.heap.size + 1 + 1, 3, none⟩ (.slice (some ⟨W1.heap.size, 0, none⟩) t.ns.length t.ns.length)).setCell ⟨w.heap.size + 1, 0, none⟩ (.int .i64 t.op)).setCell ⟨w.heap.size + 1, 1, none⟩ (.string t.md)).setCell ⟨w.heap.size + 1, 2, none⟩ (.string t.nm)).setCell ⟨w.heap.size + 1, 3, none⟩ (.slice (some ⟨W1.heap.size, 0, none⟩) t.ns.length t.ns.length)) := ⟨_, rfl⟩
  rw [← hV] at RR hup HFB
  have HUP := hid_of hup
  have HRR := hid_of RR
  clear hup RR X0 Z0 O0 C0
  go_wp2
  rw [← hV]
  have RR := HRR.out
  have c0 : V.cell? ⟨w.heap.size + 1, 0, none⟩ = some (.int .i64 t.op) := RR.cell (i := 0) (by omega)
  have c1 : V.cell? ⟨w.heap.size + 1, 1, none⟩ = some (.string t.md) := RR.cell (i := 1) (by omega)
  have c2 : V.cell? ⟨w.heap.size + 1, 2, none⟩ = some (.string t.nm) := RR.cell (i := 2) (by omega)
  have c3 : V.cell? ⟨w.heap.size + 1, 3, none⟩ = some (.slice (some ⟨W1.heap.size, 0, none⟩) t.ns.length t.ns.length) := RR.cell (i := 3) (by omega)
  refine bodyPost_ret (v := .agg #[.int .i64 t.op, .string t.md, .string t.nm, .slice (some ⟨W1.heap.size, 0, none⟩) t.ns.length t.ns.length]) (by
    unfold results
    rw [show Tryd.f54.results = #[.cell 2 66] from rfl]
    simp [go_sem, c0, c1, c2, c3]) rfl ?_
  have hs := HO0.out.lt
  exact ⟨(t, ⟨some ⟨W1.heap.size, 0, none⟩, W1.heap.size, t.ns.length⟩), rfl, rfl, ⟨((N0.mono (by omega)).up HUP.out).mono (by omega), Nat.le_refl _⟩, HFB.out⟩

theorem Tryd.infoV4TI : (Tryd.prog.info? 66).map (fun i => (i.zero, i.size, i.bytes)) = some (some (.agg #[.int .i64 0, .string ByteArray.empty, .string ByteArray.empty, .slice none 0 0]), 4, 64) := by kernel_rfl
theorem makeVTI (n : Nat) (hn : n ≤ 1048576) (w : World) :
    (Instr.makeSlice 35 (.int .i64 (n : Int)) (.int .i64 (n : Int))).run Tryd.prog w = .ok (.slice (some ⟨w.heap.size, 0, none⟩) n n) (w.alloc (.cells (madeCells #[.int .i64 0, .string ByteArray.empty, .string ByteArray.empty, .slice none 0 0] (n * 4)) 66)) := by
  obtain ⟨i, hi, hzz⟩ := Option.map_eq_some_iff.1 Tryd.infoV4TI
  simp only [Prod.mk.injEq] at hzz
  obtain ⟨hz, hs, hb⟩ := hzz
  have hr := run_make (P := Tryd.prog) w 35 66 i _ Tryd.underlying35 hi hz .i64 .i64 n n (by omega) (Int.le_refl _) (by rw [hb]; omega) (by omega)
  rw [Int.toNat_natCast, hs] at hr
  exact hr
def funTI (ys : List (TI × NPl)) (i j : Nat) : Value := (((ys[i]?).map tiC).getD []).getD j undef
set_option maxRecDepth 100000 in
set_option maxHeartbeats 2000000 in
theorem t_titems (w : World) {p : AP} {xs : List (TI × AP)} (h : TL w p xs) {l : List TI} (hx : xs.map Prod.fst = l) (hl : l.length ≤ 1048576) (hc : ∀ t, t ∈ l → SmT 1048576 t) :
    Calls Tryd.prog 38 #[.slice p.a l.length p.c] w fun e w' => e = .returned (.slice (some ⟨w.heap.size, 0, none⟩) l.length l.length) ∧ Below w.heap.size w w' ∧ ∃ ys : List (TI × NPl), w'.ownsRow w.heap.size 66 4 (.slice (some ⟨w.heap.size, 0, none⟩) l.length l.length) l.length (ys.flatMap tiC) ∧ ys.map Prod.fst = l ∧ Hid (∀ y, y ∈ ys → IvT w.heap.size w' y) := by
  have hlen : l.length = xs.length := by rw [← hx, List.length_map]
  obtain ⟨n, hn⟩ : ∃ n, n = l.length := ⟨_, rfl⟩
  have hnl : n ≤ 1048576 := by omega
  have hmk := makeVTI n hnl
  have hmem : ∀ k (hk : k < xs.length), xs[k].1 ∈ l := fun k hk => by rw [← hx]; exact List.mem_map_of_mem (List.getElem_mem hk)
  have HC : Hid (∀ W, Below w.heap.size w W → ∀ k, k < n → ∃ (t : TI) (q : AP), p.a = some ⟨p.b, p.o, none⟩ ∧ (W.cell? ⟨p.b, p.o + k * 4, none⟩ = some (.int .i64 t.op) ∧ W.cell? ⟨p.b, p.o + k * 4 + 1, none⟩ = some (.string t.md) ∧ W.cell? ⟨p.b, p.o + k * 4 + 2, none⟩ = some (.string t.nm) ∧ W.cell? ⟨p.b, p.o + k * 4 + 3, none⟩ = some (.slice q.a t.ns.length q.c)) ∧ l.take (k + 1) = l.take k ++ [t] ∧ Calls Tryd.prog 54 #[.agg #[.int .i64 t.op, .string t.md, .string t.nm, .slice q.a t.ns.length q.c]] W fun e w' => ∃ (y : TI × NPl), e = .returned (.agg #[.int .i64 y.1.op, .string y.1.md, .string y.1.nm, .slice y.2.a y.1.ns.length y.2.c]) ∧ y.1 = t ∧ IvT W.heap.size w' y ∧ Below W.heap.size W w') := fun W hb k hk => by
    have hk2 : k < xs.length := by omega
    have H := h.below hb
    refine ⟨xs[k].1, xs[k].2, h.at_ (by omega), H.cell k hk2, ?_, t_titem W (H.nl k hk2) (hc _ (hmem k hk2))⟩
    rw [List.take_add_one, ← hx, List.getElem?_map, List.getElem?_eq_getElem hk2]
    rfl
  have HEN : Hid (l.take n = l) := by show _ = _; rw [hn, List.take_length]
  rw [← hn]
  clear h hl hn hx hlen hmem hc
  go_enter Tryd.func38, Tryd.ntmps38
  go_wp2
  clear hmk
  go_loopw [4] (fun i wr => ∃ (k : Nat) (ys : List (TI × NPl)), k ≤ n ∧ i = .int .i64 k ∧ Hid (ys.length = k ∧ ys.map Prod.fst = l.take k ∧ (∀ y, y ∈ ys → IvT (w.heap.size + 1) wr y)) ∧ Fil 66 4 w wr n k (funTI ys)) (fun i _ => n - (intOf i).toNat)
  case atStart => exact ⟨0, [], Nat.zero_le _, rfl, ⟨rfl, rfl, fun _ h => absurd h (List.not_mem_nil)⟩, fil_start _ _ _ _ _ _⟩
  case round =>
    obtain ⟨k, ys, hk, rfl, HY, hF⟩ := hrel
    by_cases hlt : k < n
    · obtain ⟨t, q, ea, ⟨y0, y1, y2, y3⟩, htk, C1⟩ := HC.out wr hF.below k hlt
      have HTK := hid_of htk
      have hkl : (k : Int) < (n : Int) := by omega
      have hk0 : (0 : Int) ≤ (k : Int) := by omega
      rw [ea]
      clear htk ea
      go_wp2_with fail
      refine C1.mono ?_
      rintro e w' ⟨y, rfl, hyt, hiv, hb'⟩
      obtain ⟨f, hf, hv⟩ := hF.row
      have hr := hf.of_block (hb'.block _ hf.lt)
      obtain ⟨⟨s0, s1, s2, s3⟩, ⟨t0, t1, t2, t3⟩⟩ := ats4 hr (k * 4) (by omega)
      have HN := fil4_step hF hb' (funTI (ys ++ [y])) (fun i j hi => by
        unfold funTI
        rw [List.getElem?_append_left (by have := HY.out.1; omega)]) (.int .i64 y.1.op) (.string y.1.md) (.string y.1.nm) (.slice y.2.a y.1.ns.length y.2.c) (fun j hj => by
        unfold funTI
        rw [← HY.out.1, List.getElem?_append_right (Nat.le_refl _), Nat.sub_self]
        match j, hj with
        | 0, _ => rfl
        | 1, _ => rfl
        | 2, _ => rfl
        | 3, _ => rfl
        )
      have HY2 : Hid ((ys ++ [y]).length = k + 1 ∧ (ys ++ [y]).map Prod.fst = l.take (k + 1) ∧ ∀ z, z ∈ ys ++ [y] → IvT (w.heap.size + 1) (put4 w' w.heap.size (k * 4) (.int .i64 y.1.op) (.string y.1.md) (.string y.1.nm) (.slice y.2.a y.1.ns.length y.2.c)) z) := by
        have hws : w.heap.size + 1 ≤ wr.heap.size := hf.lt
        refine ⟨by rw [List.length_append, HY.out.1]; rfl, by rw [List.map_append, HY.out.2.1, HTK.out, ← hyt]; rfl, fun z hz => ?_⟩
        rcases List.mem_append.1 hz with hz | hz
        · exact ((HY.out.2.2 z hz).up (Up.of_below hb')).up (put4_up (by omega))
        · rw [List.mem_singleton.1 hz]
          exact (hiv.mono hws).up (put4_up (by omega))
      unfold put4 at HN HY2
      have HH := hid_of HN
      clear hF hr hf hv hb' HN y0 y1 y2 y3 hyt hiv C1 HTK HY
      go_wp2
      go_roundw
      case rel => exact ⟨k + 1, ys ++ [y], by omega, by go_num, HY2, HH.out⟩
      case measure => simp [intOf]; omega
    · have hkn : k = n := by omega
      subst hkn
      have HE : Hid (wr.ownsRow w.heap.size 66 4 (.slice (some ⟨w.heap.size, 0, none⟩) k k) k (ys.flatMap tiC) ∧ ys.map Prod.fst = l ∧ (∀ y, y ∈ ys → IvT w.heap.size wr y) ∧ Below w.heap.size w wr) := by
        obtain ⟨f, hf, hv⟩ := hF.row
        refine ⟨own_of_row tiC tiC_len ys HY.out.1 hf (fun i hi r hr => ?_) (Nat.le_refl _) (by unfold maxLen; omega) (by omega), by rw [HY.out.2.1, HEN.out], fun y hy => (HY.out.2.2 y hy).mono (by omega), hF.below⟩
        rw [hv i r (by have := HY.out.1; omega) hr]
        unfold funTI
        rw [List.getElem?_eq_getElem hi]
        show (tiC ys[i])[r]? = some ((tiC ys[i]).getD r undef)
        rw [List.getD_eq_getElem?_getD]
        have hr2 : r < (tiC ys[i]).length := by rw [tiC_len]; exact hr
        rw [List.getElem?_eq_getElem hr2]
        rfl
      have hkl : ¬ (k : Int) < (k : Int) := by omega
      clear hF
      go_wp2
      go_ret
      exact ⟨rfl, HE.out.2.2.2, ys, HE.out.1, HE.out.2.1, fun a b h => HE.out.2.2.1 (a, b) h⟩

set_option maxRecDepth 100000 in
set_option maxHeartbeats 2000000 in
theorem t_eitem (w : World) {t : EI} {p q : AP} {xs : List (TI × AP)} (h : NL w p t.ns) (hT : TL w q xs) (his : xs.map Prod.fst = t.ty) (hc : SmE 1048576 t) :
    Calls Tryd.prog 55 #[.agg #[.int .i64 t.op, .int .i64 t.num, .string t.md, .string t.nm, .slice p.a t.ns.length p.c, .slice q.a t.ty.length q.c]] w fun e w' => ∃ (y : EI × EPl) (yta : Option Addr) (ytc : Nat), e = .returned (.agg #[.int .i64 y.1.op, .int .i64 y.1.num, .string y.1.md, .string y.1.nm, .slice y.2.np.a y.1.ns.length y.2.np.c, .slice yta y.1.ty.length ytc]) ∧ y.2.tv = .slice yta y.1.ty.length ytc ∧ y.1 = t ∧ IvE w.heap.size w' y ∧ Below w.heap.size w w' := by
  obtain ⟨W1, hW1⟩ : ∃ W1, W1 = ((w.alloc (.cells #[.int .i64 t.op, .int .i64 t.num, .string t.md, .string t.nm, .slice p.a t.ns.length p.c, .slice q.a t.ty.length q.c] 88)).alloc (.cells #[.int .i64 0, .int .i64 0, .string ⟨#[]⟩, .string ⟨#[]⟩, .slice none 0 0, .slice none 0 0] 69)).alloc (.cells #[.int .i64 t.op, .int .i64 t.num, .string t.md, .string t.nm, .slice none 0 0, .slice none 0 0] 69) := ⟨_, rfl⟩
  have HB0 : Hid (Below w.heap.size w W1) := by rw [hW1]; exact (bel2 _ _ _).alloc (by simp; omega) _
  have HX0 : Hid (W1.rowIs (w.heap.size) 88 6 (v6 (.int .i64 t.op) (.int .i64 t.num) (.string t.md) (.string t.nm) (.slice p.a t.ns.length p.c) (.slice q.a t.ty.length q.c))) := by rw [hW1]; exact ((row6 w (.int .i64 t.op) (.int .i64 t.num) (.string t.md) (.string t.nm) (.slice p.a t.ns.length p.c) (.slice q.a t.ty.length q.c) 88).alloc _).alloc _
  have HZ0 : Hid (W1.rowIs (w.heap.size + 1) 69 6 (v6 (.int .i64 0) (.int .i64 0) (.string ⟨#[]⟩) (.string ⟨#[]⟩) (.slice none 0 0) (.slice none 0 0))) := by
    have q := row6 (w.alloc (.cells #[.int .i64 t.op, .int .i64 t.num, .string t.md, .string t.nm, .slice p.a t.ns.length p.c, .slice q.a t.ty.length q.c] 88)) (.int .i64 0) (.int .i64 0) (.string ⟨#[]⟩) (.string ⟨#[]⟩) (.slice none 0 0) (.slice none 0 0) 69
    simp only [World.size_alloc] at q
    rw [hW1]
    exact q.alloc _
  have HO0 : Hid (W1.rowIs (w.heap.size + 1 + 1) 69 6 (v6 (.int .i64 t.op) (.int .i64 t.num) (.string t.md) (.string t.nm) (.slice none 0 0) (.slice none 0 0))) := by
    have q := row6 ((w.alloc (.cells #[.int .i64 t.op, .int .i64 t.num, .string t.md, .string t.nm, .slice p.a t.ns.length p.c, .slice q.a t.ty.length q.c] 88)).alloc (.cells #[.int .i64 0, .int .i64 0, .string ⟨#[]⟩, .string ⟨#[]⟩, .slice none 0 0, .slice none 0 0] 69)) (.int .i64 t.op) (.int .i64 t.num) (.string t.md) (.string t.nm) (.slice none 0 0) (.slice none 0 0) 69
    simp only [World.size_alloc] at q
    rw [hW1]
    exact q
  have C0 := t_names W1 (h.below HB0.out) hc.1
  go_enter Tryd.func55, Tryd.ntmps55
  go_wp2_with fail
  rw [← hW1]
  clear hW1
  refine C0.mono ?_
  rintro e u0 ⟨rfl, N0, B0⟩
  have hs0 := HO0.out.lt
  have X0 := HX0.out.of_block (w' := u0) (B0.block _ (by omega))
  have Z0 := HZ0.out.of_block (w' := u0) (B0.block _ (by omega))
  have O0 := HO0.out.of_block (w' := u0) (B0.block _ (by omega))
  have HBu0 : Hid (Below w.heap.size w u0) := HB0.out.trans (B0.mono HB0.out.size)
  have x0_5 : World.cell? u0 ⟨w.heap.size, 5, none⟩ = some (.slice q.a t.ty.length q.c) := X0.cell (i := 5) (by omega)
  have o0_0 : World.cell? u0 ⟨w.heap.size + 1 + 1, 0, none⟩ = some (.int .i64 t.op) := O0.cell (i := 0) (by omega)
  have o0_1 : World.cell? u0 ⟨w.heap.size + 1 + 1, 1, none⟩ = some (.int .i64 t.num) := O0.cell (i := 1) (by omega)
  have o0_2 : World.cell? u0 ⟨w.heap.size + 1 + 1, 2, none⟩ = some (.string t.md) := O0.cell (i := 2) (by omega)
  have o0_3 : World.cell? u0 ⟨w.heap.size + 1 + 1, 3, none⟩ = some (.string t.nm) := O0.cell (i := 3) (by omega)
  have o0_4 : World.cell? u0 ⟨w.heap.size + 1 + 1, 4, none⟩ = some (.slice none 0 0) := O0.cell (i := 4) (by omega)
  have o0_5 : World.cell? u0 ⟨w.heap.size + 1 + 1, 5, none⟩ = some (.slice none 0 0) := O0.cell (i := 5) (by omega)
  have of0 := O0.frozen 4
  obtain ⟨V1, hV1⟩ : ∃ V, V = u0.setCell ⟨w.heap.size + 1 + 1, 4, none⟩ (.slice (some ⟨W1.heap.size, 0, none⟩) t.ns.length t.ns.length) := ⟨_, rfl⟩
  have HX1 : Hid (V1.rowIs (w.heap.size) 88 6 (v6 (.int .i64 t.op) (.int .i64 t.num) (.string t.md) (.string t.nm) (.slice p.a t.ns.length p.c) (.slice q.a t.ty.length q.c))) := by rw [hV1]; exact X0.setOther (by show w.heap.size ≠ w.heap.size + 1 + 1; omega) _
  have HZ1 : Hid (V1.rowIs (w.heap.size + 1) 69 6 (v6 (.int .i64 0) (.int .i64 0) (.string ⟨#[]⟩) (.string ⟨#[]⟩) (.slice none 0 0) (.slice none 0 0))) := by rw [hV1]; exact Z0.setOther (by show w.heap.size + 1 ≠ w.heap.size + 1 + 1; omega) _
  have HO1 : Hid (V1.rowIs (w.heap.size + 1 + 1) 69 6 (v6 (.int .i64 t.op) (.int .i64 t.num) (.string t.md) (.string t.nm) (.slice (some ⟨W1.heap.size, 0, none⟩) t.ns.length t.ns.length) (.slice none 0 0))) := by
    rw [hV1]
    exact (O0.set 4 _).congr (fun i hi => by
      match i, hi with
      | 0, _ => rfl
      | 1, _ => rfl
      | 2, _ => rfl
      | 3, _ => rfl
      | 4, _ => rfl
      | 5, _ => rfl
      )
  have HB1 : Hid (Below w.heap.size w V1) := by rw [hV1]; exact HBu0.out.setCell (p := ⟨w.heap.size + 1 + 1, 4, none⟩) (by show w.heap.size ≤ w.heap.size + 1 + 1; omega) _
  have hup0 : Up (w.heap.size + 1 + 1 + 1) u0 V1 := by rw [hV1]; exact Up.set (by show w.heap.size + 1 + 1 < w.heap.size + 1 + 1 + 1; omega) _
  have hzz0 : V1.heap.size = u0.heap.size := by rw [hV1]; simp
  have HUP0 := hid_of hup0
  have HZZ0 := hid_of hzz0
  clear X0 Z0 O0 hup0 hzz0 C0
  have C1 := t_titems V1 (hT.below HB1.out) his hc.2.1 hc.2.2
  go_wp2_with fail
  rw [← hV1]
  clear hV1
  refine C1.mono ?_
  rintro e u1 ⟨rfl, B1, ys, OW, hys, hiv⟩
  have hs1 := HO1.out.lt
  have X1 := HX1.out.of_block (w' := u1) (B1.block _ (by omega))
  have Z1 := HZ1.out.of_block (w' := u1) (B1.block _ (by omega))
  have O1 := HO1.out.of_block (w' := u1) (B1.block _ (by omega))
  have HBu1 : Hid (Below w.heap.size w u1) := HB1.out.trans (B1.mono HB1.out.size)
  have o1_0 : World.cell? u1 ⟨w.heap.size + 1 + 1, 0, none⟩ = some (.int .i64 t.op) := O1.cell (i := 0) (by omega)
  have o1_1 : World.cell? u1 ⟨w.heap.size + 1 + 1, 1, none⟩ = some (.int .i64 t.num) := O1.cell (i := 1) (by omega)
  have o1_2 : World.cell? u1 ⟨w.heap.size + 1 + 1, 2, none⟩ = some (.string t.md) := O1.cell (i := 2) (by omega)
  have o1_3 : World.cell? u1 ⟨w.heap.size + 1 + 1, 3, none⟩ = some (.string t.nm) := O1.cell (i := 3) (by omega)
  have o1_4 : World.cell? u1 ⟨w.heap.size + 1 + 1, 4, none⟩ = some (.slice (some ⟨W1.heap.size, 0, none⟩) t.ns.length t.ns.length) := O1.cell (i := 4) (by omega)
  have o1_5 : World.cell? u1 ⟨w.heap.size + 1 + 1, 5, none⟩ = some (.slice none 0 0) := O1.cell (i := 5) (by omega)
  have of1 := O1.frozen 5
  have z1_0 : World.cell? u1 ⟨w.heap.size + 1, 0, none⟩ = some (.int .i64 0) := Z1.cell (i := 0) (by omega)
  have zf1_0 := Z1.frozen 0
  have z1_1 : World.cell? u1 ⟨w.heap.size + 1, 1, none⟩ = some (.int .i64 0) := Z1.cell (i := 1) (by omega)
  have zf1_1 := Z1.frozen 1
  have z1_2 : World.cell? u1 ⟨w.heap.size + 1, 2, none⟩ = some (.string ⟨#[]⟩) := Z1.cell (i := 2) (by omega)
  have zf1_2 := Z1.frozen 2
  have z1_3 : World.cell? u1 ⟨w.heap.size + 1, 3, none⟩ = some (.string ⟨#[]⟩) := Z1.cell (i := 3) (by omega)
  have zf1_3 := Z1.frozen 3
  have z1_4 : World.cell? u1 ⟨w.heap.size + 1, 4, none⟩ = some (.slice none 0 0) := Z1.cell (i := 4) (by omega)
  have zf1_4 := Z1.frozen 4
  have z1_5 : World.cell? u1 ⟨w.heap.size + 1, 5, none⟩ = some (.slice none 0 0) := Z1.cell (i := 5) (by omega)
  have zf1_5 := Z1.frozen 5
  have RR := (((((((Z1.setOther (a := ⟨w.heap.size + 1 + 1, 5, none⟩) (by show w.heap.size + 1 ≠ w.heap.size + 1 + 1; omega) (.slice (some ⟨V1.heap.size, 0, none⟩) t.ty.length t.ty.length)).set 0 (.int .i64 t.op)).set 1 (.int .i64 t.num)).set 2 (.string t.md)).set 3 (.string t.nm)).set 4 (.slice (some ⟨W1.heap.size, 0, none⟩) t.ns.length t.ns.length)).set 5 (.slice (some ⟨V1.heap.size, 0, none⟩) t.ty.length t.ty.length))
  have hup : Up (w.heap.size + 1 + 1 + 1) u1 (((((((u1.setCell ⟨w.heap.size + 1 + 1, 5, none⟩ (.slice (some ⟨V1.heap.size, 0, none⟩) t.ty.length t.ty.length)).setCell ⟨w.heap.size + 1, 0, none⟩ (.int .i64 t.op)).setCell ⟨w.heap.size + 1, 1, none⟩ (.int .i64 t.num)).setCell ⟨w.heap.size + 1, 2, none⟩ (.string t.md)).setCell ⟨w.heap.size + 1, 3, none⟩ (.string t.nm)).setCell ⟨w.heap.size + 1, 4, none⟩ (.slice (some ⟨W1.heap.size, 0, none⟩) t.ns.length t.ns.length)).setCell ⟨w.heap.size + 1, 5, none⟩ (.slice (some ⟨V1.heap.size, 0, none⟩) t.ty.length t.ty.length)) := fun b hb _ => by
    have ne1 : b ≠ (⟨w.heap.size + 1 + 1, 5, none⟩ : Addr).block := by show b ≠ w.heap.size + 1 + 1; omega
    have ne2 : ∀ j, b ≠ (⟨w.heap.size + 1, j, none⟩ : Addr).block := fun j => by show b ≠ w.heap.size + 1; omega
    rw [Below.heap_setCell _ _ _ _ (ne2 _), Below.heap_setCell _ _ _ _ (ne2 _), Below.heap_setCell _ _ _ _ (ne2 _), Below.heap_setCell _ _ _ _ (ne2 _), Below.heap_setCell _ _ _ _ (ne2 _), Below.heap_setCell _ _ _ _ (ne2 _), Below.heap_setCell _ _ _ _ ne1]
  have HFB : Hid (Below w.heap.size w (((((((u1.setCell ⟨w.heap.size + 1 + 1, 5, none⟩ (.slice (some ⟨V1.heap.size, 0, none⟩) t.ty.length t.ty.length)).setCell ⟨w.heap.size + 1, 0, none⟩ (.int .i64 t.op)).setCell ⟨w.heap.size + 1, 1, none⟩ (.int .i64 t.num)).setCell ⟨w.heap.size + 1, 2, none⟩ (.string t.md)).setCell ⟨w.heap.size + 1, 3, none⟩ (.string t.nm)).setCell ⟨w.heap.size + 1, 4, none⟩ (.slice (some ⟨W1.heap.size, 0, none⟩) t.ns.length t.ns.length)).setCell ⟨w.heap.size + 1, 5, none⟩ (.slice (some ⟨V1.heap.size, 0, none⟩) t.ty.length t.ty.length))) := by
    have q1 : w.heap.size ≤ w.heap.size + 1 + 1 := by omega
    have q2 : w.heap.size ≤ w.heap.size + 1 := by omega
    exact (((((((HBu1.out.setCell (p := ⟨w.heap.size + 1 + 1, 5, none⟩) q1 _).setCell (p := ⟨w.heap.size + 1, 0, none⟩) q2 _).setCell (p := ⟨w.heap.size + 1, 1, none⟩) q2 _).setCell (p := ⟨w.heap.size + 1, 2, none⟩) q2 _).setCell (p := ⟨w.heap.size + 1, 3, none⟩) q2 _).setCell (p := ⟨w.heap.size + 1, 4, none⟩) q2 _).setCell (p := ⟨w.heap.size + 1, 5, none⟩) q2 _)
  obtain ⟨V, hV⟩ : ∃ V, V = (((((((u1.setCell ⟨w.heap.size + 1 + 1, 5, none⟩ (.slice (some ⟨V1.heap.size, 0, none⟩) t.ty.length t.ty.length)).setCell ⟨w.heap.size + 1, 0, none⟩ (.int .i64 t.op)).setCell ⟨w.heap.size + 1, 1, none⟩ (.int .i64 t.num)).setCell ⟨w.heap.size + 1, 2, none⟩ (.string t.md)).setCell ⟨w.heap.size + 1, 3, none⟩ (.string t.nm)).setCell ⟨w.heap.size + 1, 4, none⟩ (.slice (some ⟨W1.heap.size, 0, none⟩) t.ns.length t.ns.length)).setCell ⟨w.heap.size + 1, 5, none⟩ (.slice (some ⟨V1.heap.size, 0, none⟩) t.ty.length t.ty.length)) := ⟨_, rfl⟩
  rw [← hV] at RR hup HFB
  have HUP := hid_of hup
  have HRR := hid_of RR
  clear hup RR X1 Z1 O1 C1
  go_wp2
  rw [← hV]
  have RR := HRR.out
  have c0 : V.cell? ⟨w.heap.size + 1, 0, none⟩ = some (.int .i64 t.op) := RR.cell (i := 0) (by omega)
  have c1 : V.cell? ⟨w.heap.size + 1, 1, none⟩ = some (.int .i64 t.num) := RR.cell (i := 1) (by omega)
  have c2 : V.cell? ⟨w.heap.size + 1, 2, none⟩ = some (.string t.md) := RR.cell (i := 2) (by omega)
  have c3 : V.cell? ⟨w.heap.size + 1, 3, none⟩ = some (.string t.nm) := RR.cell (i := 3) (by omega)
  have c4 : V.cell? ⟨w.heap.size + 1, 4, none⟩ = some (.slice (some ⟨W1.heap.size, 0, none⟩) t.ns.length t.ns.length) := RR.cell (i := 4) (by omega)
  have c5 : V.cell? ⟨w.heap.size + 1, 5, none⟩ = some (.slice (some ⟨V1.heap.size, 0, none⟩) t.ty.length t.ty.length) := RR.cell (i := 5) (by omega)
  refine bodyPost_ret (v := .agg #[.int .i64 t.op, .int .i64 t.num, .string t.md, .string t.nm, .slice (some ⟨W1.heap.size, 0, none⟩) t.ns.length t.ns.length, .slice (some ⟨V1.heap.size, 0, none⟩) t.ty.length t.ty.length]) (by
    unfold results
    rw [show Tryd.f55.results = #[.cell 2 69] from rfl]
    simp [go_sem, c0, c1, c2, c3, c4, c5]) rfl ?_
  have hs := HO0.out.lt
  have hq := HO1.out.lt
  have z1 := HZZ0.out
  have hsu : W1.heap.size ≤ u0.heap.size := B0.size
  have up1 : Up (w.heap.size + 1 + 1 + 1) u0 V := ((HUP0.out).trans (by omega) (Up.of_below B1)).trans (by have := B1.size; omega) HUP.out
  refine ⟨(t, ⟨⟨some ⟨W1.heap.size, 0, none⟩, W1.heap.size, t.ns.length⟩, .slice (some ⟨V1.heap.size, 0, none⟩) t.ty.length t.ty.length, ys⟩), some ⟨V1.heap.size, 0, none⟩, t.ty.length, rfl, rfl, rfl, ⟨⟨((N0.mono (by omega)).up up1).mono (by omega), ?_, hys⟩, Nat.le_refl _, fun z hz => (hiv.out z hz).cap⟩, HFB.out⟩
  have lz : ys.length = t.ty.length := by rw [← hys, List.length_map]
  refine RT.mono (B := w.heap.size + 1 + 1 + 1) (RT.up ⟨?_, fun z hz => ((hiv.out z hz).ok.mono (by omega))⟩ HUP.out) (by omega)
  rw [lz]
  exact own_mono OW (by omega)

theorem Tryd.infoV6EI : (Tryd.prog.info? 69).map (fun i => (i.zero, i.size, i.bytes)) = some (some (.agg #[.int .i64 0, .int .i64 0, .string ByteArray.empty, .string ByteArray.empty, .slice none 0 0, .slice none 0 0]), 6, 96) := by kernel_rfl
theorem makeVEI (n : Nat) (hn : n ≤ 1048576) (w : World) :
    (Instr.makeSlice 36 (.int .i64 (n : Int)) (.int .i64 (n : Int))).run Tryd.prog w = .ok (.slice (some ⟨w.heap.size, 0, none⟩) n n) (w.alloc (.cells (madeCells #[.int .i64 0, .int .i64 0, .string ByteArray.empty, .string ByteArray.empty, .slice none 0 0, .slice none 0 0] (n * 6)) 69)) := by
  obtain ⟨i, hi, hzz⟩ := Option.map_eq_some_iff.1 Tryd.infoV6EI
  simp only [Prod.mk.injEq] at hzz
  obtain ⟨hz, hs, hb⟩ := hzz
  have hr := run_make (P := Tryd.prog) w 36 69 i _ Tryd.underlying36 hi hz .i64 .i64 n n (by omega) (Int.le_refl _) (by rw [hb]; omega) (by omega)
  rw [Int.toNat_natCast, hs] at hr
  exact hr
def funEI (ys : List (EI × EPl)) (i j : Nat) : Value := (((ys[i]?).map eiC).getD []).getD j undef
set_option maxRecDepth 100000 in
set_option maxHeartbeats 2000000 in
theorem t_eitems (w : World) {p : AP} {xs : List (EI × EQ)} (h : EL w p xs) {l : List EI} (hx : xs.map Prod.fst = l) (hl : l.length ≤ 1048576) (hc : ∀ t, t ∈ l → SmE 1048576 t) :
    Calls Tryd.prog 39 #[.slice p.a l.length p.c] w fun e w' => e = .returned (.slice (some ⟨w.heap.size, 0, none⟩) l.length l.length) ∧ Below w.heap.size w w' ∧ ∃ ys : List (EI × EPl), w'.ownsRow w.heap.size 69 6 (.slice (some ⟨w.heap.size, 0, none⟩) l.length l.length) l.length (ys.flatMap eiC) ∧ ys.map Prod.fst = l ∧ Hid (∀ y, y ∈ ys → IvE w.heap.size w' y) := by
  have hlen : l.length = xs.length := by rw [← hx, List.length_map]
  obtain ⟨n, hn⟩ : ∃ n, n = l.length := ⟨_, rfl⟩
  have hnl : n ≤ 1048576 := by omega
  have hmk := makeVEI n hnl
  have hmem : ∀ k (hk : k < xs.length), xs[k].1 ∈ l := fun k hk => by rw [← hx]; exact List.mem_map_of_mem (List.getElem_mem hk)
  have HC : Hid (∀ W, Below w.heap.size w W → ∀ k, k < n → ∃ (t : EI) (q : EQ), p.a = some ⟨p.b, p.o, none⟩ ∧ (W.cell? ⟨p.b, p.o + k * 6, none⟩ = some (.int .i64 t.op) ∧ W.cell? ⟨p.b, p.o + k * 6 + 1, none⟩ = some (.int .i64 t.num) ∧ W.cell? ⟨p.b, p.o + k * 6 + 2, none⟩ = some (.string t.md) ∧ W.cell? ⟨p.b, p.o + k * 6 + 3, none⟩ = some (.string t.nm) ∧ W.cell? ⟨p.b, p.o + k * 6 + 4, none⟩ = some (.slice q.np.a t.ns.length q.np.c) ∧ W.cell? ⟨p.b, p.o + k * 6 + 5, none⟩ = some (.slice q.tp.a t.ty.length q.tp.c)) ∧ l.take (k + 1) = l.take k ++ [t] ∧ Calls Tryd.prog 55 #[.agg #[.int .i64 t.op, .int .i64 t.num, .string t.md, .string t.nm, .slice q.np.a t.ns.length q.np.c, .slice q.tp.a t.ty.length q.tp.c]] W fun e w' => ∃ (y : EI × EPl) (yta : Option Addr) (ytc : Nat), e = .returned (.agg #[.int .i64 y.1.op, .int .i64 y.1.num, .string y.1.md, .string y.1.nm, .slice y.2.np.a y.1.ns.length y.2.np.c, .slice yta y.1.ty.length ytc]) ∧ y.2.tv = .slice yta y.1.ty.length ytc ∧ y.1 = t ∧ IvE W.heap.size w' y ∧ Below W.heap.size W w') := fun W hb k hk => by
    have hk2 : k < xs.length := by omega
    have H := h.below hb
    refine ⟨xs[k].1, xs[k].2, h.at_ (by omega), H.cell k hk2, ?_, t_eitem W (H.nl k hk2) (H.tl k hk2) (h.is k hk2) (hc _ (hmem k hk2))⟩
    rw [List.take_add_one, ← hx, List.getElem?_map, List.getElem?_eq_getElem hk2]
    rfl
  have HEN : Hid (l.take n = l) := by show _ = _; rw [hn, List.take_length]
  rw [← hn]
  clear h hl hn hx hlen hmem hc
  go_enter Tryd.func39, Tryd.ntmps39
  go_wp2
  clear hmk
  go_loopw [4] (fun i wr => ∃ (k : Nat) (ys : List (EI × EPl)), k ≤ n ∧ i = .int .i64 k ∧ Hid (ys.length = k ∧ ys.map Prod.fst = l.take k ∧ (∀ y, y ∈ ys → IvE (w.heap.size + 1) wr y)) ∧ Fil 69 6 w wr n k (funEI ys)) (fun i _ => n - (intOf i).toNat)
  case atStart => exact ⟨0, [], Nat.zero_le _, rfl, ⟨rfl, rfl, fun _ h => absurd h (List.not_mem_nil)⟩, fil_start _ _ _ _ _ _⟩
  case round =>
    obtain ⟨k, ys, hk, rfl, HY, hF⟩ := hrel
    by_cases hlt : k < n
    · obtain ⟨t, q, ea, ⟨y0, y1, y2, y3, y4, y5⟩, htk, C1⟩ := HC.out wr hF.below k hlt
      have HTK := hid_of htk
      have hkl : (k : Int) < (n : Int) := by omega
      have hk0 : (0 : Int) ≤ (k : Int) := by omega
      rw [ea]
      clear htk ea
      go_wp2_with fail
      refine C1.mono ?_
      rintro e w' ⟨y, yta, ytc, rfl, hx0, hyt, hiv, hb'⟩
      obtain ⟨f, hf, hv⟩ := hF.row
      have hr := hf.of_block (hb'.block _ hf.lt)
      obtain ⟨⟨s0, s1, s2, s3, s4, s5⟩, ⟨t0, t1, t2, t3, t4, t5⟩⟩ := ats6 hr (k * 6) (by omega)
      have HN := fil6_step hF hb' (funEI (ys ++ [y])) (fun i j hi => by
        unfold funEI
        rw [List.getElem?_append_left (by have := HY.out.1; omega)]) (.int .i64 y.1.op) (.int .i64 y.1.num) (.string y.1.md) (.string y.1.nm) (.slice y.2.np.a y.1.ns.length y.2.np.c) (.slice yta y.1.ty.length ytc) (fun j hj => by
        unfold funEI
        rw [← HY.out.1, List.getElem?_append_right (Nat.le_refl _), Nat.sub_self]
        match j, hj with
        | 0, _ => rfl
        | 1, _ => rfl
        | 2, _ => rfl
        | 3, _ => rfl
        | 4, _ => rfl
        | 5, _ => exact hx0
        )
      have HY2 : Hid ((ys ++ [y]).length = k + 1 ∧ (ys ++ [y]).map Prod.fst = l.take (k + 1) ∧ ∀ z, z ∈ ys ++ [y] → IvE (w.heap.size + 1) (put6 w' w.heap.size (k * 6) (.int .i64 y.1.op) (.int .i64 y.1.num) (.string y.1.md) (.string y.1.nm) (.slice y.2.np.a y.1.ns.length y.2.np.c) (.slice yta y.1.ty.length ytc)) z) := by
        have hws : w.heap.size + 1 ≤ wr.heap.size := hf.lt
        refine ⟨by rw [List.length_append, HY.out.1]; rfl, by rw [List.map_append, HY.out.2.1, HTK.out, ← hyt]; rfl, fun z hz => ?_⟩
        rcases List.mem_append.1 hz with hz | hz
        · exact ((HY.out.2.2 z hz).up (Up.of_below hb')).up (put6_up (by omega))
        · rw [List.mem_singleton.1 hz]
          exact (hiv.mono hws).up (put6_up (by omega))
      unfold put6 at HN HY2
      have HH := hid_of HN
      clear hF hr hf hv hb' HN y0 y1 y2 y3 y4 y5 hyt hiv C1 HTK HY
      go_wp2
      go_roundw
      case rel => exact ⟨k + 1, ys ++ [y], by omega, by go_num, HY2, HH.out⟩
      case measure => simp [intOf]; omega
    · have hkn : k = n := by omega
      subst hkn
      have HE : Hid (wr.ownsRow w.heap.size 69 6 (.slice (some ⟨w.heap.size, 0, none⟩) k k) k (ys.flatMap eiC) ∧ ys.map Prod.fst = l ∧ (∀ y, y ∈ ys → IvE w.heap.size wr y) ∧ Below w.heap.size w wr) := by
        obtain ⟨f, hf, hv⟩ := hF.row
        refine ⟨own_of_row eiC eiC_len ys HY.out.1 hf (fun i hi r hr => ?_) (Nat.le_refl _) (by unfold maxLen; omega) (by omega), by rw [HY.out.2.1, HEN.out], fun y hy => (HY.out.2.2 y hy).mono (by omega), hF.below⟩
        rw [hv i r (by have := HY.out.1; omega) hr]
        unfold funEI
        rw [List.getElem?_eq_getElem hi]
        show (eiC ys[i])[r]? = some ((eiC ys[i]).getD r undef)
        rw [List.getD_eq_getElem?_getD]
        have hr2 : r < (eiC ys[i]).length := by rw [eiC_len]; exact hr
        rw [List.getElem?_eq_getElem hr2]
        rfl
      have hkl : ¬ (k : Int) < (k : Int) := by omega
      clear hF
      go_wp2
      go_ret
      exact ⟨rfl, HE.out.2.2.2, ys, HE.out.1, HE.out.2.1, fun a b h => HE.out.2.2.1 (a, b) h⟩

set_option maxRecDepth 100000 in
set_option maxHeartbeats 2000000 in
theorem t_decl (w : World) {t : DC} {p q : AP} {xs : List (TI × AP)} {us : List (EI × EQ)} (hT : TL w p xs) (hisT : xs.map Prod.fst = t.ty) (hE : EL w q us) (hisE : us.map Prod.fst = t.ex) (hc : SmD 1048576 t) :
    Calls Tryd.prog 24 #[.agg #[.int .i64 t.kind, .string t.nm, .slice p.a t.ty.length p.c, .slice q.a t.ex.length q.c]] w fun e w' => ∃ (y : DC × DPl) (yta : Option Addr) (ytc : Nat) (yea : Option Addr) (yec : Nat), e = .returned (.agg #[.int .i64 y.1.kind, .string y.1.nm, .slice yta y.1.ty.length ytc, .slice yea y.1.ex.length yec]) ∧ y.2.tv = .slice yta y.1.ty.length ytc ∧ y.2.ev = .slice yea y.1.ex.length yec ∧ y.1 = t ∧ IvD w.heap.size w' y ∧ Below w.heap.size w w' := by
  obtain ⟨W1, hW1⟩ : ∃ W1, W1 = ((w.alloc (.cells #[.int .i64 t.kind, .string t.nm, .slice p.a t.ty.length p.c, .slice q.a t.ex.length q.c] 49)).alloc (.cells #[.int .i64 0, .string ⟨#[]⟩, .slice none 0 0, .slice none 0 0] 38)).alloc (.cells #[.int .i64 t.kind, .string t.nm, .slice none 0 0, .slice none 0 0] 38) := ⟨_, rfl⟩
  have HB0 : Hid (Below w.heap.size w W1) := by rw [hW1]; exact (bel2 _ _ _).alloc (by simp; omega) _
  have HX0 : Hid (W1.rowIs (w.heap.size) 49 4 (v4 (.int .i64 t.kind) (.string t.nm) (.slice p.a t.ty.length p.c) (.slice q.a t.ex.length q.c))) := by rw [hW1]; exact ((row4 w (.int .i64 t.kind) (.string t.nm) (.slice p.a t.ty.length p.c) (.slice q.a t.ex.length q.c) 49).alloc _).alloc _
  have HZ0 : Hid (W1.rowIs (w.heap.size + 1) 38 4 (v4 (.int .i64 0) (.string ⟨#[]⟩) (.slice none 0 0) (.slice none 0 0))) := by
    have q := row4 (w.alloc (.cells #[.int .i64 t.kind, .string t.nm, .slice p.a t.ty.length p.c, .slice q.a t.ex.length q.c] 49)) (.int .i64 0) (.string ⟨#[]⟩) (.slice none 0 0) (.slice none 0 0) 38
    simp only [World.size_alloc] at q
    rw [hW1]
    exact q.alloc _
  have HO0 : Hid (W1.rowIs (w.heap.size + 1 + 1) 38 4 (v4 (.int .i64 t.kind) (.string t.nm) (.slice none 0 0) (.slice none 0 0))) := by
    have q := row4 ((w.alloc (.cells #[.int .i64 t.kind, .string t.nm, .slice p.a t.ty.length p.c, .slice q.a t.ex.length q.c] 49)).alloc (.cells #[.int .i64 0, .string ⟨#[]⟩, .slice none 0 0, .slice none 0 0] 38)) (.int .i64 t.kind) (.string t.nm) (.slice none 0 0) (.slice none 0 0) 38
    simp only [World.size_alloc] at q
    rw [hW1]
    exact q
  have C0 := t_titems W1 (hT.below HB0.out) hisT hc.1 hc.2.1
  go_enter Tryd.func24, Tryd.ntmps24
  go_wp2_with fail
  rw [← hW1]
  clear hW1
  refine C0.mono ?_
  rintro e u0 ⟨rfl, B0, zs, OZ, hzs, hiz⟩
  have hs0 := HO0.out.lt
  have X0 := HX0.out.of_block (w' := u0) (B0.block _ (by omega))
  have Z0 := HZ0.out.of_block (w' := u0) (B0.block _ (by omega))
  have O0 := HO0.out.of_block (w' := u0) (B0.block _ (by omega))
  have HBu0 : Hid (Below w.heap.size w u0) := HB0.out.trans (B0.mono HB0.out.size)
  have x0_3 : World.cell? u0 ⟨w.heap.size, 3, none⟩ = some (.slice q.a t.ex.length q.c) := X0.cell (i := 3) (by omega)
  have o0_0 : World.cell? u0 ⟨w.heap.size + 1 + 1, 0, none⟩ = some (.int .i64 t.kind) := O0.cell (i := 0) (by omega)
  have o0_1 : World.cell? u0 ⟨w.heap.size + 1 + 1, 1, none⟩ = some (.string t.nm) := O0.cell (i := 1) (by omega)
  have o0_2 : World.cell? u0 ⟨w.heap.size + 1 + 1, 2, none⟩ = some (.slice none 0 0) := O0.cell (i := 2) (by omega)
  have o0_3 : World.cell? u0 ⟨w.heap.size + 1 + 1, 3, none⟩ = some (.slice none 0 0) := O0.cell (i := 3) (by omega)
  have of0 := O0.frozen 2
  obtain ⟨V1, hV1⟩ : ∃ V, V = u0.setCell ⟨w.heap.size + 1 + 1, 2, none⟩ (.slice (some ⟨W1.heap.size, 0, none⟩) t.ty.length t.ty.length) := ⟨_, rfl⟩
  have HX1 : Hid (V1.rowIs (w.heap.size) 49 4 (v4 (.int .i64 t.kind) (.string t.nm) (.slice p.a t.ty.length p.c) (.slice q.a t.ex.length q.c))) := by rw [hV1]; exact X0.setOther (by show w.heap.size ≠ w.heap.size + 1 + 1; omega) _
  have HZ1 : Hid (V1.rowIs (w.heap.size + 1) 38 4 (v4 (.int .i64 0) (.string ⟨#[]⟩) (.slice none 0 0) (.slice none 0 0))) := by rw [hV1]; exact Z0.setOther (by show w.heap.size + 1 ≠ w.heap.size + 1 + 1; omega) _
  have HO1 : Hid (V1.rowIs (w.heap.size + 1 + 1) 38 4 (v4 (.int .i64 t.kind) (.string t.nm) (.slice (some ⟨W1.heap.size, 0, none⟩) t.ty.length t.ty.length) (.slice none 0 0))) := by
    rw [hV1]
    exact (O0.set 2 _).congr (fun i hi => by
      match i, hi with
      | 0, _ => rfl
      | 1, _ => rfl
      | 2, _ => rfl
      | 3, _ => rfl
      )
  have HB1 : Hid (Below w.heap.size w V1) := by rw [hV1]; exact HBu0.out.setCell (p := ⟨w.heap.size + 1 + 1, 2, none⟩) (by show w.heap.size ≤ w.heap.size + 1 + 1; omega) _
  have hup0 : Up (w.heap.size + 1 + 1 + 1) u0 V1 := by rw [hV1]; exact Up.set (by show w.heap.size + 1 + 1 < w.heap.size + 1 + 1 + 1; omega) _
  have hzz0 : V1.heap.size = u0.heap.size := by rw [hV1]; simp
  have HUP0 := hid_of hup0
  have HZZ0 := hid_of hzz0
  clear X0 Z0 O0 hup0 hzz0 C0
  have C1 := t_eitems V1 (hE.below HB1.out) hisE hc.2.2.1 hc.2.2.2
  go_wp2_with fail
  rw [← hV1]
  clear hV1
  refine C1.mono ?_
  rintro e u1 ⟨rfl, B1, ys, OW, hys, hiv⟩
  have hs1 := HO1.out.lt
  have X1 := HX1.out.of_block (w' := u1) (B1.block _ (by omega))
  have Z1 := HZ1.out.of_block (w' := u1) (B1.block _ (by omega))
  have O1 := HO1.out.of_block (w' := u1) (B1.block _ (by omega))
  have HBu1 : Hid (Below w.heap.size w u1) := HB1.out.trans (B1.mono HB1.out.size)
  have o1_0 : World.cell? u1 ⟨w.heap.size + 1 + 1, 0, none⟩ = some (.int .i64 t.kind) := O1.cell (i := 0) (by omega)
  have o1_1 : World.cell? u1 ⟨w.heap.size + 1 + 1, 1, none⟩ = some (.string t.nm) := O1.cell (i := 1) (by omega)
  have o1_2 : World.cell? u1 ⟨w.heap.size + 1 + 1, 2, none⟩ = some (.slice (some ⟨W1.heap.size, 0, none⟩) t.ty.length t.ty.length) := O1.cell (i := 2) (by omega)
  have o1_3 : World.cell? u1 ⟨w.heap.size + 1 + 1, 3, none⟩ = some (.slice none 0 0) := O1.cell (i := 3) (by omega)
  have of1 := O1.frozen 3
  have z1_0 : World.cell? u1 ⟨w.heap.size + 1, 0, none⟩ = some (.int .i64 0) := Z1.cell (i := 0) (by omega)
  have zf1_0 := Z1.frozen 0
  have z1_1 : World.cell? u1 ⟨w.heap.size + 1, 1, none⟩ = some (.string ⟨#[]⟩) := Z1.cell (i := 1) (by omega)
  have zf1_1 := Z1.frozen 1
  have z1_2 : World.cell? u1 ⟨w.heap.size + 1, 2, none⟩ = some (.slice none 0 0) := Z1.cell (i := 2) (by omega)
  have zf1_2 := Z1.frozen 2
  have z1_3 : World.cell? u1 ⟨w.heap.size + 1, 3, none⟩ = some (.slice none 0 0) := Z1.cell (i := 3) (by omega)
  have zf1_3 := Z1.frozen 3
  have RR := (((((Z1.setOther (a := ⟨w.heap.size + 1 + 1, 3, none⟩) (by show w.heap.size + 1 ≠ w.heap.size + 1 + 1; omega) (.slice (some ⟨V1.heap.size, 0, none⟩) t.ex.length t.ex.length)).set 0 (.int .i64 t.kind)).set 1 (.string t.nm)).set 2 (.slice (some ⟨W1.heap.size, 0, none⟩) t.ty.length t.ty.length)).set 3 (.slice (some ⟨V1.heap.size, 0, none⟩) t.ex.length t.ex.length))
  have hup : Up (w.heap.size + 1 + 1 + 1) u1 (((((u1.setCell ⟨w.heap.size + 1 + 1, 3, none⟩ (.slice (some ⟨V1.heap.size, 0, none⟩) t.ex.length t.ex.length)).setCell ⟨w.heap.size + 1, 0, none⟩ (.int .i64 t.kind)).setCell ⟨w.heap.size + 1, 1, none⟩ (.string t.nm)).setCell ⟨w.heap.size + 1, 2, none⟩ (.slice (some ⟨W1.heap.size, 0, none⟩) t.ty.length t.ty.length)).setCell ⟨w.heap.size + 1, 3, none⟩ (.slice (some ⟨V1.heap.size, 0, none⟩) t.ex.length t.ex.length)) := fun b hb _ => by
    have ne1 : b ≠ (⟨w.heap.size + 1 + 1, 3, none⟩ : Addr).block := by show b ≠ w.heap.size + 1 + 1; omega
    have ne2 : ∀ j, b ≠ (⟨w.heap.size + 1, j, none⟩ : Addr).block := fun j => by show b ≠ w.heap.size + 1; omega
    rw [Below.heap_setCell _ _ _ _ (ne2 _), Below.heap_setCell _ _ _ _ (ne2 _), Below.heap_setCell _ _ _ _ (ne2 _), Below.heap_setCell _ _ _ _ (ne2 _), Below.heap_setCell _ _ _ _ ne1]
  have HFB : Hid (Below w.heap.size w (((((u1.setCell ⟨w.heap.size + 1 + 1, 3, none⟩ (.slice (some ⟨V1.heap.size, 0, none⟩) t.ex.length t.ex.length)).setCell ⟨w.heap.size + 1, 0, none⟩ (.int .i64 t.kind)).setCell ⟨w.heap.size + 1, 1, none⟩ (.string t.nm)).setCell ⟨w.heap.size + 1, 2, none⟩ (.slice (some ⟨W1.heap.size, 0, none⟩) t.ty.length t.ty.length)).setCell ⟨w.heap.size + 1, 3, none⟩ (.slice (some ⟨V1.heap.size, 0, none⟩) t.ex.length t.ex.length))) := by
    have q1 : w.heap.size ≤ w.heap.size + 1 + 1 := by omega
    have q2 : w.heap.size ≤ w.heap.size + 1 := by omega
    exact (((((HBu1.out.setCell (p := ⟨w.heap.size + 1 + 1, 3, none⟩) q1 _).setCell (p := ⟨w.heap.size + 1, 0, none⟩) q2 _).setCell (p := ⟨w.heap.size + 1, 1, none⟩) q2 _).setCell (p := ⟨w.heap.size + 1, 2, none⟩) q2 _).setCell (p := ⟨w.heap.size + 1, 3, none⟩) q2 _)
  obtain ⟨V, hV⟩ : ∃ V, V = (((((u1.setCell ⟨w.heap.size + 1 + 1, 3, none⟩ (.slice (some ⟨V1.heap.size, 0, none⟩) t.ex.length t.ex.length)).setCell ⟨w.heap.size + 1, 0, none⟩ (.int .i64 t.kind)).setCell ⟨w.heap.size + 1, 1, none⟩ (.string t.nm)).setCell ⟨w.heap.size + 1, 2, none⟩ (.slice (some ⟨W1.heap.size, 0, none⟩) t.ty.length t.ty.length)).setCell ⟨w.heap.size + 1, 3, none⟩ (.slice (some ⟨V1.heap.size, 0, none⟩) t.ex.length t.ex.length)) := ⟨_, rfl⟩
  rw [← hV] at RR hup HFB
  have HUP := hid_of hup
  have HRR := hid_of RR
  clear hup RR X1 Z1 O1 C1
  go_wp2
  rw [← hV]
  have RR := HRR.out
  have c0 : V.cell? ⟨w.heap.size + 1, 0, none⟩ = some (.int .i64 t.kind) := RR.cell (i := 0) (by omega)
  have c1 : V.cell? ⟨w.heap.size + 1, 1, none⟩ = some (.string t.nm) := RR.cell (i := 1) (by omega)
  have c2 : V.cell? ⟨w.heap.size + 1, 2, none⟩ = some (.slice (some ⟨W1.heap.size, 0, none⟩) t.ty.length t.ty.length) := RR.cell (i := 2) (by omega)
  have c3 : V.cell? ⟨w.heap.size + 1, 3, none⟩ = some (.slice (some ⟨V1.heap.size, 0, none⟩) t.ex.length t.ex.length) := RR.cell (i := 3) (by omega)
  refine bodyPost_ret (v := .agg #[.int .i64 t.kind, .string t.nm, .slice (some ⟨W1.heap.size, 0, none⟩) t.ty.length t.ty.length, .slice (some ⟨V1.heap.size, 0, none⟩) t.ex.length t.ex.length]) (by
    unfold results
    rw [show Tryd.f24.results = #[.cell 2 38] from rfl]
    simp [go_sem, c0, c1, c2, c3]) rfl ?_
  have hs := HO0.out.lt
  have hq := HO1.out.lt
  have z1 := HZZ0.out
  have hsu : W1.heap.size ≤ u0.heap.size := B0.size
  have up1 : Up (w.heap.size + 1 + 1 + 1) u0 V := ((HUP0.out).trans (by omega) (Up.of_below B1)).trans (by have := B1.size; omega) HUP.out
  have lz : zs.length = t.ty.length := by rw [← hzs, List.length_map]
  have ly : ys.length = t.ex.length := by rw [← hys, List.length_map]
  refine ⟨(t, ⟨.slice (some ⟨W1.heap.size, 0, none⟩) t.ty.length t.ty.length, zs, .slice (some ⟨V1.heap.size, 0, none⟩) t.ex.length t.ex.length, ys⟩), some ⟨W1.heap.size, 0, none⟩, t.ty.length, some ⟨V1.heap.size, 0, none⟩, t.ex.length, rfl, rfl, rfl, rfl, ⟨⟨?_, hzs, ?_, hys⟩, fun z hz => (hiz.out z hz).cap, fun z hz => ⟨(hiv.out z hz).cap, (hiv.out z hz).capT⟩⟩, HFB.out⟩
  · refine RT.mono (B := w.heap.size + 1 + 1 + 1) (RT.up ⟨?_, fun z hz => ((hiz.out z hz).ok.mono (by omega))⟩ up1) (by omega)
    rw [lz]
    exact own_mono OZ (by omega)
  · refine RE.mono (B := w.heap.size + 1 + 1 + 1) (RE.up ⟨?_, fun z hz => ((hiv.out z hz).ok.mono (by omega))⟩ HUP.out) (by omega)
    rw [ly]
    exact own_mono OW (by omega)

theorem Tryd.infoV4DC : (Tryd.prog.info? 38).map (fun i => (i.zero, i.size, i.bytes)) = some (some (.agg #[.int .i64 0, .string ByteArray.empty, .slice none 0 0, .slice none 0 0]), 4, 72) := by kernel_rfl
theorem makeVDC (n : Nat) (hn : n ≤ 1048576) (w : World) :
    (Instr.makeSlice 27 (.int .i64 (n : Int)) (.int .i64 (n : Int))).run Tryd.prog w = .ok (.slice (some ⟨w.heap.size, 0, none⟩) n n) (w.alloc (.cells (madeCells #[.int .i64 0, .string ByteArray.empty, .slice none 0 0, .slice none 0 0] (n * 4)) 38)) := by
  obtain ⟨i, hi, hzz⟩ := Option.map_eq_some_iff.1 Tryd.infoV4DC
  simp only [Prod.mk.injEq] at hzz
  obtain ⟨hz, hs, hb⟩ := hzz
  have hr := run_make (P := Tryd.prog) w 27 38 i _ Tryd.underlying27 hi hz .i64 .i64 n n (by omega) (Int.le_refl _) (by rw [hb]; omega) (by omega)
  rw [Int.toNat_natCast, hs] at hr
  exact hr
def funDC (ys : List (DC × DPl)) (i j : Nat) : Value := (((ys[i]?).map dcC).getD []).getD j undef
set_option maxRecDepth 100000 in
set_option maxHeartbeats 2000000 in
theorem t_decls (w : World) {p : AP} {xs : List (DC × DQ)} (h : DL w p xs) {l : List DC} (hx : xs.map Prod.fst = l) (hl : l.length ≤ 1048576) (hc : ∀ t, t ∈ l → SmD 1048576 t) :
    Calls Tryd.prog 15 #[.slice p.a l.length p.c] w fun e w' => e = .returned (.slice (some ⟨w.heap.size, 0, none⟩) l.length l.length) ∧ Below w.heap.size w w' ∧ ∃ ys : List (DC × DPl), w'.ownsRow w.heap.size 38 4 (.slice (some ⟨w.heap.size, 0, none⟩) l.length l.length) l.length (ys.flatMap dcC) ∧ ys.map Prod.fst = l ∧ Hid (∀ y, y ∈ ys → IvD w.heap.size w' y) := by
  have hlen : l.length = xs.length := by rw [← hx, List.length_map]
  obtain ⟨n, hn⟩ : ∃ n, n = l.length := ⟨_, rfl⟩
  have hnl : n ≤ 1048576 := by omega
  have hmk := makeVDC n hnl
  have hmem : ∀ k (hk : k < xs.length), xs[k].1 ∈ l := fun k hk => by rw [← hx]; exact List.mem_map_of_mem (List.getElem_mem hk)
  have HC : Hid (∀ W, Below w.heap.size w W → ∀ k, k < n → ∃ (t : DC) (q : DQ), p.a = some ⟨p.b, p.o, none⟩ ∧ (W.cell? ⟨p.b, p.o + k * 4, none⟩ = some (.int .i64 t.kind) ∧ W.cell? ⟨p.b, p.o + k * 4 + 1, none⟩ = some (.string t.nm) ∧ W.cell? ⟨p.b, p.o + k * 4 + 2, none⟩ = some (.slice q.tp.a t.ty.length q.tp.c) ∧ W.cell? ⟨p.b, p.o + k * 4 + 3, none⟩ = some (.slice q.ep.a t.ex.length q.ep.c)) ∧ l.take (k + 1) = l.take k ++ [t] ∧ Calls Tryd.prog 24 #[.agg #[.int .i64 t.kind, .string t.nm, .slice q.tp.a t.ty.length q.tp.c, .slice q.ep.a t.ex.length q.ep.c]] W fun e w' => ∃ (y : DC × DPl) (yta : Option Addr) (ytc : Nat) (yea : Option Addr) (yec : Nat), e = .returned (.agg #[.int .i64 y.1.kind, .string y.1.nm, .slice yta y.1.ty.length ytc, .slice yea y.1.ex.length yec]) ∧ y.2.tv = .slice yta y.1.ty.length ytc ∧ y.2.ev = .slice yea y.1.ex.length yec ∧ y.1 = t ∧ IvD W.heap.size w' y ∧ Below W.heap.size W w') := fun W hb k hk => by
    have hk2 : k < xs.length := by omega
    have H := h.below hb
    refine ⟨xs[k].1, xs[k].2, h.at_ (by omega), H.cell k hk2, ?_, t_decl W (H.tl k hk2) (h.isT k hk2) (H.el k hk2) (h.isE k hk2) (hc _ (hmem k hk2))⟩
    rw [List.take_add_one, ← hx, List.getElem?_map, List.getElem?_eq_getElem hk2]
    rfl
  have HEN : Hid (l.take n = l) := by show _ = _; rw [hn, List.take_length]
  rw [← hn]
  clear h hl hn hx hlen hmem hc
  go_enter Tryd.func15, Tryd.ntmps15
  go_wp2
  clear hmk
  go_loopw [4] (fun i wr => ∃ (k : Nat) (ys : List (DC × DPl)), k ≤ n ∧ i = .int .i64 k ∧ Hid (ys.length = k ∧ ys.map Prod.fst = l.take k ∧ (∀ y, y ∈ ys → IvD (w.heap.size + 1) wr y)) ∧ Fil 38 4 w wr n k (funDC ys)) (fun i _ => n - (intOf i).toNat)
  case atStart => exact ⟨0, [], Nat.zero_le _, rfl, ⟨rfl, rfl, fun _ h => absurd h (List.not_mem_nil)⟩, fil_start _ _ _ _ _ _⟩
  case round =>
    obtain ⟨k, ys, hk, rfl, HY, hF⟩ := hrel
    by_cases hlt : k < n
    · obtain ⟨t, q, ea, ⟨y0, y1, y2, y3⟩, htk, C1⟩ := HC.out wr hF.below k hlt
      have HTK := hid_of htk
      have hkl : (k : Int) < (n : Int) := by omega
      have hk0 : (0 : Int) ≤ (k : Int) := by omega
      rw [ea]
      clear htk ea
      go_wp2_with fail
      refine C1.mono ?_
      rintro e w' ⟨y, yta, ytc, yea, yec, rfl, hx0, hx1, hyt, hiv, hb'⟩
      obtain ⟨f, hf, hv⟩ := hF.row
      have hr := hf.of_block (hb'.block _ hf.lt)
      obtain ⟨⟨s0, s1, s2, s3⟩, ⟨t0, t1, t2, t3⟩⟩ := ats4 hr (k * 4) (by omega)
      have HN := fil4_step hF hb' (funDC (ys ++ [y])) (fun i j hi => by
        unfold funDC
        rw [List.getElem?_append_left (by have := HY.out.1; omega)]) (.int .i64 y.1.kind) (.string y.1.nm) (.slice yta y.1.ty.length ytc) (.slice yea y.1.ex.length yec) (fun j hj => by
        unfold funDC
        rw [← HY.out.1, List.getElem?_append_right (Nat.le_refl _), Nat.sub_self]
        match j, hj with
        | 0, _ => rfl
        | 1, _ => rfl
        | 2, _ => exact hx0
        | 3, _ => exact hx1
        )
      have HY2 : Hid ((ys ++ [y]).length = k + 1 ∧ (ys ++ [y]).map Prod.fst = l.take (k + 1) ∧ ∀ z, z ∈ ys ++ [y] → IvD (w.heap.size + 1) (put4 w' w.heap.size (k * 4) (.int .i64 y.1.kind) (.string y.1.nm) (.slice yta y.1.ty.length ytc) (.slice yea y.1.ex.length yec)) z) := by
        have hws : w.heap.size + 1 ≤ wr.heap.size := hf.lt
        refine ⟨by rw [List.length_append, HY.out.1]; rfl, by rw [List.map_append, HY.out.2.1, HTK.out, ← hyt]; rfl, fun z hz => ?_⟩
        rcases List.mem_append.1 hz with hz | hz
        · exact ((HY.out.2.2 z hz).up (Up.of_below hb')).up (put4_up (by omega))
        · rw [List.mem_singleton.1 hz]
          exact (hiv.mono hws).up (put4_up (by omega))
      unfold put4 at HN HY2
      have HH := hid_of HN
      clear hF hr hf hv hb' HN y0 y1 y2 y3 hyt hiv C1 HTK HY
      go_wp2
      go_roundw
      case rel => exact ⟨k + 1, ys ++ [y], by omega, by go_num, HY2, HH.out⟩
      case measure => simp [intOf]; omega
    · have hkn : k = n := by omega
      subst hkn
      have HE : Hid (wr.ownsRow w.heap.size 38 4 (.slice (some ⟨w.heap.size, 0, none⟩) k k) k (ys.flatMap dcC) ∧ ys.map Prod.fst = l ∧ (∀ y, y ∈ ys → IvD w.heap.size wr y) ∧ Below w.heap.size w wr) := by
        obtain ⟨f, hf, hv⟩ := hF.row
        refine ⟨own_of_row dcC dcC_len ys HY.out.1 hf (fun i hi r hr => ?_) (Nat.le_refl _) (by unfold maxLen; omega) (by omega), by rw [HY.out.2.1, HEN.out], fun y hy => (HY.out.2.2 y hy).mono (by omega), hF.below⟩
        rw [hv i r (by have := HY.out.1; omega) hr]
        unfold funDC
        rw [List.getElem?_eq_getElem hi]
        show (dcC ys[i])[r]? = some ((dcC ys[i]).getD r undef)
        rw [List.getD_eq_getElem?_getD]
        have hr2 : r < (dcC ys[i]).length := by rw [dcC_len]; exact hr
        rw [List.getElem?_eq_getElem hr2]
        rfl
      have hkl : ¬ (k : Int) < (k : Int) := by omega
      clear hF
      go_wp2
      go_ret
      exact ⟨rfl, HE.out.2.2.2, ys, HE.out.1, HE.out.2.1, fun a b h => HE.out.2.2.1 (a, b) h⟩

set_option maxRecDepth 100000 in
set_option maxHeartbeats 2000000 in
theorem t_module0 (w : World) {p : AP} {xs : List (DC × DQ)} {l : List DC} (h : DL w p xs) (hx : xs.map Prod.fst = l) (hl : l.length ≤ 1048576) (hc : ∀ t, t ∈ l → SmD 1048576 t) :
    Calls Tryd.prog 7 #[.agg #[.slice p.a l.length p.c]] w fun e w' => ∃ (v : Value) (ys : List (DC × DPl)), e = .returned (.agg #[v]) ∧ w'.ownsRow w.heap.size 38 4 v l.length (ys.flatMap dcC) ∧ ys.map Prod.fst = l ∧ (∀ y, y ∈ ys → IvD w.heap.size w' y) ∧ Below w.heap.size w w' := by
  obtain ⟨W1, hW1⟩ : ∃ W1, W1 = ((w.alloc (.cells #[.slice p.a l.length p.c] 24)).alloc (.cells #[.slice none 0 0] 29)).alloc (.cells #[.slice none 0 0] 29) := ⟨_, rfl⟩
  have HB0 : Hid (Below w.heap.size w W1) := by rw [hW1]; exact (bel2 _ _ _).alloc (by simp; omega) _
  have HX0 : Hid (W1.rowIs (w.heap.size) 24 1 (fun _ => .slice p.a l.length p.c)) := by rw [hW1]; exact ((row1 w (.slice p.a l.length p.c) 24).alloc _).alloc _
  have HZ0 : Hid (W1.rowIs (w.heap.size + 1) 29 1 (fun _ => .slice none 0 0)) := by
    have q := row1 (w.alloc (.cells #[.slice p.a l.length p.c] 24)) (.slice none 0 0) 29
    simp only [World.size_alloc] at q
    rw [hW1]
    exact q.alloc _
  have HO0 : Hid (W1.rowIs (w.heap.size + 1 + 1) 29 1 (fun _ => .slice none 0 0)) := by
    have q := row1 ((w.alloc (.cells #[.slice p.a l.length p.c] 24)).alloc (.cells #[.slice none 0 0] 29)) (.slice none 0 0) 29
    simp only [World.size_alloc] at q
    rw [hW1]
    exact q
  have C0 := t_decls W1 (h.below HB0.out) hx hl hc
  go_enter Tryd.func7, Tryd.ntmps7
  go_wp2_with fail
  rw [← hW1]
  clear hW1
  refine C0.mono ?_
  rintro e u0 ⟨rfl, B0, ys, OW, hys, hiv⟩
  have hs0 := HO0.out.lt
  have X0 := HX0.out.of_block (w' := u0) (B0.block _ (by omega))
  have Z0 := HZ0.out.of_block (w' := u0) (B0.block _ (by omega))
  have O0 := HO0.out.of_block (w' := u0) (B0.block _ (by omega))
  have HBu0 : Hid (Below w.heap.size w u0) := HB0.out.trans (B0.mono HB0.out.size)
  have o0_0 : World.cell? u0 ⟨w.heap.size + 1 + 1, 0, none⟩ = some (.slice none 0 0) := O0.cell (i := 0) (by omega)
  have of0 := O0.frozen 0
  have z0_0 : World.cell? u0 ⟨w.heap.size + 1, 0, none⟩ = some (.slice none 0 0) := Z0.cell (i := 0) (by omega)
  have zf0_0 := Z0.frozen 0
  have RR := ((Z0.setOther (a := ⟨w.heap.size + 1 + 1, 0, none⟩) (by show w.heap.size + 1 ≠ w.heap.size + 1 + 1; omega) (.slice (some ⟨W1.heap.size, 0, none⟩) l.length l.length)).set 0 (.slice (some ⟨W1.heap.size, 0, none⟩) l.length l.length))
  have hup : Up (w.heap.size + 1 + 1 + 1) u0 ((u0.setCell ⟨w.heap.size + 1 + 1, 0, none⟩ (.slice (some ⟨W1.heap.size, 0, none⟩) l.length l.length)).setCell ⟨w.heap.size + 1, 0, none⟩ (.slice (some ⟨W1.heap.size, 0, none⟩) l.length l.length)) := fun b hb _ => by
    have ne1 : b ≠ (⟨w.heap.size + 1 + 1, 0, none⟩ : Addr).block := by show b ≠ w.heap.size + 1 + 1; omega
    have ne2 : ∀ j, b ≠ (⟨w.heap.size + 1, j, none⟩ : Addr).block := fun j => by show b ≠ w.heap.size + 1; omega
    rw [Below.heap_setCell _ _ _ _ (ne2 _), Below.heap_setCell _ _ _ _ ne1]
  have HFB : Hid (Below w.heap.size w ((u0.setCell ⟨w.heap.size + 1 + 1, 0, none⟩ (.slice (some ⟨W1.heap.size, 0, none⟩) l.length l.length)).setCell ⟨w.heap.size + 1, 0, none⟩ (.slice (some ⟨W1.heap.size, 0, none⟩) l.length l.length))) := by
    have q1 : w.heap.size ≤ w.heap.size + 1 + 1 := by omega
    have q2 : w.heap.size ≤ w.heap.size + 1 := by omega
    exact ((HBu0.out.setCell (p := ⟨w.heap.size + 1 + 1, 0, none⟩) q1 _).setCell (p := ⟨w.heap.size + 1, 0, none⟩) q2 _)
  obtain ⟨V, hV⟩ : ∃ V, V = ((u0.setCell ⟨w.heap.size + 1 + 1, 0, none⟩ (.slice (some ⟨W1.heap.size, 0, none⟩) l.length l.length)).setCell ⟨w.heap.size + 1, 0, none⟩ (.slice (some ⟨W1.heap.size, 0, none⟩) l.length l.length)) := ⟨_, rfl⟩
  rw [← hV] at RR hup HFB
  have HUP := hid_of hup
  have HRR := hid_of RR
  clear hup RR X0 Z0 O0 C0
  go_wp2
  rw [← hV]
  have RR := HRR.out
  have c0 : V.cell? ⟨w.heap.size + 1, 0, none⟩ = some (.slice (some ⟨W1.heap.size, 0, none⟩) l.length l.length) := RR.cell (i := 0) (by omega)
  refine bodyPost_ret (v := .agg #[.slice (some ⟨W1.heap.size, 0, none⟩) l.length l.length]) (by
    unfold results
    rw [show Tryd.f7.results = #[.cell 2 29] from rfl]
    simp [go_sem, c0]) rfl ?_
  have hs := HO0.out.lt
  exact ⟨_, ys, rfl, own_mono (own_up (own_mono OW (by omega) : World.ownsRow _ (w.heap.size + 1 + 1 + 1) _ _ _ _ _) HUP.out) (by omega), hys, fun y hy => (((hiv.out y hy).mono (by omega)).up HUP.out).mono (by omega), HFB.out⟩

end Go.Proofs.YtcehppndpccldaaDoor
