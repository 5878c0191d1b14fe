/-
  What is known so far: a map from pairs to numbers, and the pairs in their order.
-/
import Derived.Test.YtdgbcblajgmpcaaTo3
import Derived.Test.YtdgbcblajgmpcaaLeader
import Derived.Maps.OwnSet
import Derived.DeepKeys4
import Derived.MapViews
import Derived.ProofKit
import Derived.Deep.RegionHeld3
import Derived.Deep.AppendLies
import Derived.Deep.RegionLaw
namespace Go.Proofs.Ytdgbcblajgmpcaa
open Go.RowKit Go.Maps

theorem Try.laidOut' : laidOutB Try.prog = true := by kernel_rfl
theorem Try.row45 : (45 : TypeId) < Try.prog.types.size := of_decide_eq_true (by kernel_rfl)
theorem Try.cells45 : Try.prog.cellsOf 45 = 2 := by kernel_rfl
theorem Try.deep45 : Try.prog.keyTypeAt (Try.prog.types.size + 1) 45 = true := by kernel_rfl
theorem Try.wide45 : (match Try.prog.underlying 45 with | some (.array _ _) | some (.struct _) => true | _ => false) = true := by rw [Try.underlying45]
theorem Try.law45 : Keyed Try.prog 45 := Keyed.of_law (deep_law_laid Try.laidOut' (m := 2) (by omega) Try.row45 (by kernel_rfl) Try.wide45)
theorem Try.formed45 {c0 c1 : Value} : (Value.agg #[c0, c1]).formed Try.prog 45 = true := by simp [Value.formed, Try.underlying45, Try.cells45]
theorem Try.zero3 (w : World) : (zeroValue 3).run Try.prog w = .ok (.int .i64 0) w := by kernel_rfl
theorem Try.cells3' : Try.prog.cellsOf 3 = 1 := by kernel_rfl
theorem Try.info45 : (Try.prog.info? 45).map (fun i => (i.zero, i.size, i.bytes)) = some (some (.agg #[.int .i64 0, .int .i64 0]), 2, 16) := by kernel_rfl

/-- A pair as a key. -/
def kl (a b : Nat) : Lit := (DataW.agg [.lit (.int .i64 (a : Int)), .lit (.int .i64 (b : Int))] : DataW Unit).asKey

theorem key_of {a b : Nat} (ha : a < 4611686018427387904) (hb : b < 4611686018427387904) : keyOf Try.prog 45 (.agg #[.int .i64 (a : Int), .int .i64 (b : Int)]) = some (kl a b) := by
  have wa : (Lit.int .i64 (a : Int)).wf = true := WalkArith.wf_i64 (by omega)
  have wb : (Lit.int .i64 (b : Int)).wf = true := WalkArith.wf_i64 (by omega)
  have ht : DataW.Trod (H := Unit) (fun _ => ()) Try.prog default 0 (fun _ => true) true 45 (.agg #[.int .i64 (a : Int), .int .i64 (b : Int)]) (.agg [.lit (.int .i64 (a : Int)), .lit (.int .i64 (b : Int))]) [] := by
    refine ⟨2, ?_⟩
    simp [DataW.trod, Try.underlying45, Try.underlying3, Try.cells45, Try.cells3', Value.cells, wa, wb]
  exact (keyOf_asKey Try.deep45 Try.wide45 Try.formed45 ht).1

/-- Some blocks are as they were, and nothing outside has turned. -/
structure Kept (keep : Nat → Prop) (w w' : World) : Prop where
  os : w'.os = w.os
  tape : w'.tape = w.tape
  output : w'.output = w.output
  size : w.heap.size ≤ w'.heap.size
  block : ∀ k, keep k → w'.heap[k]? = w.heap[k]?

theorem Kept.refl (keep : Nat → Prop) (w : World) : Kept keep w w := ⟨rfl, rfl, rfl, Nat.le_refl _, fun _ _ => rfl⟩
theorem Kept.trans {keep : Nat → Prop} {a b c : World} (h : Kept keep a b) (k : Kept keep b c) : Kept keep a c :=
  ⟨k.os.trans h.os, k.tape.trans h.tape, k.output.trans h.output, Nat.le_trans h.size k.size, fun i hi => (k.block i hi).trans (h.block i hi)⟩
theorem Kept.drewN {keep : Nat → Prop} {a b : World} (h : Kept keep a b) (n : Nat) : Kept keep a (b.drewN n) := ⟨h.os, h.tape, h.output, h.size, h.block⟩
theorem Kept.cell {keep : Nat → Prop} {w w' : World} (h : Kept keep w w') {a : Addr} (ha : keep a.block) : w'.cell? a = w.cell? a := World.cell?_of_block (w := w) (h.block a.block ha)
theorem Kept.frozen {keep : Nat → Prop} {w w' : World} (h : Kept keep w w') {a : Addr} (ha : keep a.block) : w'.frozen? a = w.frozen? a := World.frozen?_of_block (w := w) (h.block a.block ha)

/-- The cells of the pairs. -/
def pcells (ord : List (Nat × Nat)) : List Value := ord.flatMap fun q => [.int .i64 (q.1 : Int), .int .i64 (q.2 : Int)]

/-- Two values by their place. -/
def v2 (a b : Value) : Nat → Value := fun i => if i = 0 then a else b

/-- What is known: the struct at kb, its map at mb, its order ov; the blocks of keep are none of these. -/
structure Kn (w : World) (kb mb : Nat) (ov : Value) (D : DataW Unit) (ord : List (Nat × Nat)) (keep : Nat → Prop) : Prop where
  row : w.rowIs kb 64 2 (v2 (.map (some mb)) ov)
  mlt : mb < kb
  map : w.ownsMap Try.prog 45 (plainElem Try.prog 3) mb ord.length D
  has : ∀ a b, a < 4611686018427387904 → b < 4611686018427387904 → Maps.has D (kl a b) = ord.contains (a, b)
  own : w.ownsRow (kb + 1) 45 2 ov ord.length (pcells ord)
  far : ∀ k, keep k → k < w.heap.size ∧ k ≠ kb ∧ k ≠ mb ∧ some k ≠ ov.ownBlock

theorem row2 (w : World) (a b : Value) (t : TypeId) : (w.alloc (.cells #[a, b] t)).rowIs w.heap.size t 2 (v2 a b) :=
  World.rowIs_alloc w #[a, b] t _ (fun i hi => by
    match i, hi with
    | 0, _ => rfl
    | 1, _ => rfl)

set_option maxHeartbeats 1000000 in
theorem c25 (w : World) (keep : Nat → Prop) (hk : ∀ k, keep k → k < w.heap.size) :
    Calls Try.prog 25 #[] w fun e w' => e = .returned (.pointer (some ⟨w.heap.size + 1, 0, none⟩)) ∧ Kn w' (w.heap.size + 1) w.heap.size (.slice none 0 0) (.map []) [] keep ∧ Kept keep w w' := by
  have hmm := @run_makeMap Try.prog
  go_enter Try.func25, Try.ntmps25
  go_wp2
  go_ret
  have R := row2 (w.alloc (.map #[] 0)) (.map (some w.heap.size)) (.slice none 0 0) 64
  simp only [World.size_alloc] at R
  refine ⟨rfl, ⟨R, by omega, (World.ownsMap_made w Try.prog 45 (plainElem Try.prog 3)).alloc _, fun a b _ _ => rfl, World.ownsRow_nil _ _ _ _, fun k h => ?_⟩, ?_⟩
  · have := hk k h
    exact ⟨by simp; omega, by omega, by omega, by simp [Value.ownBlock]⟩
  · have := bel2 w (.map #[] 0) (.cells #[.map (some w.heap.size), .slice none 0 0] 64)
    exact ⟨this.os, this.tape, this.output, this.size, fun k h => this.block k (hk k h)⟩

theorem look_all {w : World} {mb n : Nat} {D : DataW Unit} {a b : Nat} (h : w.ownsMap Try.prog 45 (plainElem Try.prog 3) mb n D) (ha : a < 4611686018427387904) (hb : b < 4611686018427387904) :
    ∃ v : Int, ∀ m, (Instr.lookup 61 (.map (some mb)) (.agg #[.int .i64 (a : Int), .int .i64 (b : Int)]) true).run Try.prog (w.drewN m) = .ok (.tuple #[.int .i64 v, .bool (Maps.has D (kl a b))]) (w.drewN m) := by
  have hz : plainElem (H := Unit) Try.prog 3 (.int .i64 0) = some (.lit (.int .i64 0), []) := plainElem_int Try.underlying3 (by decide)
  have each : ∀ m, ∃ v : Int, (Instr.lookup 61 (.map (some mb)) (.agg #[.int .i64 (a : Int), .int .i64 (b : Int)]) true).run Try.prog (w.drewN m) = .ok (.tuple #[.int .i64 v, .bool (Maps.has D (kl a b))]) (w.drewN m) ∧ D.atKey (kl a b) (.lit (.int .i64 0)) = .lit (.int .i64 v) := fun m => by
    have h' : (w.drewN m).ownsMap Try.prog 45 (plainElem Try.prog 3) mb n D := h
    obtain ⟨v, ps, hrun, hR⟩ := h'.look_ok Try.law45 Try.underlying61 (Try.zero3 _) hz (key_of ha hb)
    obtain ⟨x, rfl, hx, _⟩ := plainElem_int_inv Try.underlying3 hR
    simp only [Prod.mk.injEq] at hx
    exact ⟨x, hrun, hx.1⟩
  obtain ⟨v, _, hv⟩ := each 0
  refine ⟨v, fun m => ?_⟩
  obtain ⟨v', hrun, hv'⟩ := each m
  rw [hv] at hv'
  simp only [DataW.lit.injEq, Lit.int.injEq, true_and] at hv'
  rw [hv']; exact hrun

theorem own_form {w : World} {base : Nat} {e : TypeId} {size : Nat} {v : Value} {n : Nat} {xs : List Value} (h : w.ownsRow base e size v n xs) : ∃ oa cap, v = .slice oa n cap := by
  rcases h.2 with ⟨rfl, rfl⟩ | ⟨g, cap, _, rfl, _⟩
  · exact ⟨none, 0, rfl⟩
  · exact ⟨_, cap, rfl⟩

theorem own_kept {w w' : World} {base : Nat} {e : TypeId} {size : Nat} {v : Value} {n : Nat} {xs : List Value} {row : Option Nat} (h : w.ownsRow base e size v n xs) (hg : w.grownBy w' row) (hne : ∀ k, row = some k → k < base) : w'.ownsRow base e size v n xs := by
  obtain ⟨h1, h2⟩ := h
  refine ⟨h1, ?_⟩
  rcases h2 with h2 | ⟨g, cap, cur, hv, hb, hh, r⟩
  · exact Or.inl h2
  · obtain ⟨hlt, _⟩ := Array.getElem?_eq_some_iff.1 hh
    exact Or.inr ⟨g, cap, cur, hv, hb, (hg.block g hlt (fun e => by have := hne g e.symm; omega)).trans hh, r⟩

theorem kl_inj {a b x y : Nat} (ha : a < 4611686018427387904) (hb : b < 4611686018427387904) (hx : x < 4611686018427387904) (hy : y < 4611686018427387904) (e : kl x y = kl a b) : x = a ∧ y = b := by
  have h := Try.law45.inj (key_of hx hy) (by rw [e]; exact key_of ha hb)
  simp at h
  omega

theorem pcells_snoc (ord : List (Nat × Nat)) (a b : Nat) : pcells (ord ++ [(a, b)]) = pcells ord ++ [.int .i64 (a : Int), .int .i64 (b : Int)] := by simp [pcells]

theorem kn_step {w w1 w2 w3 : World} {kb mb : Nat} {oa : Option Addr} {cap gg cap3 : Nat} {D d : DataW Unit} {ord : List (Nat × Nat)} {keep : Nat → Prop} {a b : Nat} {o2 : Obj}
    (h : Kn w kb mb (.slice oa ord.length cap) D ord keep) (ha : a < 4611686018427387904) (hb : b < 4611686018427387904) (hc : ord.contains (a, b) = false) (hw1 : Kept (fun k => k < w.heap.size) w w1) (hs1 : w1.heap.size = w.heap.size + 1)
    (hown2 : w2.ownsMap Try.prog 45 (plainElem Try.prog 3) mb (ord.length + 1) (D.put (kl a b) d)) (hg2 : w1.grownBy w2 (some mb))
    (hown3 : w3.ownsRow (kb + 1) 45 2 (.slice (some ⟨gg, 0, none⟩) (ord.length + 1) cap3) (ord.length + 1) (pcells ord ++ [.int .i64 (a : Int), .int .i64 (b : Int)]))
    (hg3 : ((w2.alloc o2).drew).grownBy w3 (Value.slice oa ord.length cap).ownBlock) (hat : (Value.slice oa ord.length cap).ownBlock = some gg ∨ gg = w2.heap.size + 1) :
    Kn (w3.setCell ⟨kb, 1, none⟩ (.slice (some ⟨gg, 0, none⟩) (ord.length + 1) cap3)) kb mb (.slice (some ⟨gg, 0, none⟩) (ord.length + 1) cap3) (D.put (kl a b) d) (addP ord (a, b)) keep ∧
    Kept keep w (w3.setCell ⟨kb, 1, none⟩ (.slice (some ⟨gg, 0, none⟩) (ord.length + 1) cap3)) := by
  have hA : addP ord (a, b) = ord ++ [(a, b)] := by unfold addP; rw [hc]; rfl
  have hs2 := hg2.size
  have hs3 := hg3.size
  have e3 : ((w2.alloc o2).drew).heap.size = w2.heap.size + 1 := by simp
  have hkl := h.row.lt
  have hml := h.mlt
  have n1 : some kb ≠ (Value.slice oa ord.length cap).ownBlock := fun e => by have := (h.own.lt kb e.symm).1; omega
  have nm : some mb ≠ (Value.slice oa ord.length cap).ownBlock := fun e => by have := (h.own.lt mb e.symm).1; omega
  have b3 : ∀ k, k < w2.heap.size → some k ≠ (Value.slice oa ord.length cap).ownBlock → w3.heap[k]? = w2.heap[k]? := fun k hk hn => (hg3.block k (by rw [e3]; omega) hn).trans (Below.heap_alloc _ _ _ hk)
  have rk : w3.rowIs kb 64 2 (v2 (.map (some mb)) (.slice oa ord.length cap)) :=
    h.row.of_block (((b3 kb (by omega) n1).trans (hg2.block kb (by omega) (fun e => by cases e; omega))).trans (hw1.block kb hkl))
  rw [hA]
  refine ⟨⟨(rk.set 1 _).congr (fun i hi => ?_), h.mlt, ?_, fun x y hx hy => ?_, ?_, fun k hk => ?_⟩, ?_⟩
  · match i, hi with
    | 0, _ => rfl
    | 1, _ => rfl
  · have hm : w3.ownsMap Try.prog 45 (plainElem Try.prog 3) mb (ord.length + 1) (D.put (kl a b) d) := ((hown2.alloc o2).drew).kept hg3 nm
    have hm' := hm.setCell (a := ⟨kb, 1, none⟩) (by show mb ≠ kb; omega) (.slice (some ⟨gg, 0, none⟩) (ord.length + 1) cap3)
    simpa using hm'
  · by_cases q : x = a ∧ y = b
    · obtain ⟨rfl, rfl⟩ := q
      rw [Maps.has_put_same h.map.isMap (Try.law45.key (key_of hx hy))]
      simp
    · have hne : kl x y ≠ kl a b := fun e => q (kl_inj ha hb hx hy e)
      rw [Maps.has_put_other hne, h.has x y hx hy]
      rw [Bool.eq_iff_iff]
      simp only [List.contains_iff_mem, List.mem_append, List.mem_singleton, Prod.mk.injEq]
      exact ⟨Or.inl, fun z => z.elim id (fun z => absurd z q)⟩
  · rw [pcells_snoc]
    have := ownsRow_setCell_below hown3 (a := ⟨kb, 1, none⟩) (by show kb < kb + 1; omega) (.slice (some ⟨gg, 0, none⟩) (ord.length + 1) cap3)
    simpa using this
  · obtain ⟨f1, f2, f3, f4⟩ := h.far k hk
    refine ⟨by simp [World.setCell]; omega, f2, f3, ?_⟩
    rcases hat with hat | hat
    · rw [hat] at f4; simpa [Value.ownBlock] using f4
    · simp [Value.ownBlock]; omega
  · refine ⟨?_, ?_, ?_, by simp [World.setCell]; omega, fun k hk => ?_⟩
    · exact hg3.os.trans (hg2.os.trans hw1.os)
    · exact hg3.tape.trans (hg2.tape.trans hw1.tape)
    · exact hg3.output.trans (hg2.output.trans hw1.output)
    · obtain ⟨f1, f2, f3, f4⟩ := h.far k hk
      rw [Below.heap_setCell _ _ _ _ (by show k ≠ kb; exact f2), b3 k (by omega) f4, hg2.block k (by omega) (fun e => by cases e; exact f3 rfl), hw1.block k f1]

set_option maxRecDepth 100000 in
set_option maxHeartbeats 4000000 in
theorem c26 (kb mb : Nat) (ov : Value) (D : DataW Unit) (ord : List (Nat × Nat)) (keep : Nat → Prop) (a b : Nat) (w : World) (h : Kn w kb mb ov D ord keep) (ha : a < 4611686018427387904) (hb : b < 4611686018427387904) (ho : ord.length ≤ 100000000) :
    Calls Try.prog 26 #[.pointer (some ⟨kb, 0, none⟩), .agg #[.int .i64 (a : Int), .int .i64 (b : Int)]] w fun e w' =>
      ∃ (x : Int) (ov' : Value) (D' : DataW Unit), e = .returned (.tuple #[.int .i64 x, .bool (!ord.contains (a, b))]) ∧ Kn w' kb mb ov' D' (addP ord (a, b)) keep ∧ Kept keep w w' := by
  obtain ⟨v, hlk⟩ := look_all (h.map.alloc (.cells #[.int .i64 (a : Int), .int .i64 (b : Int)] 45)) ha hb
  rw [h.has a b ha hb] at hlk
  obtain ⟨oa, cap, rfl⟩ := own_form h.own
  have hR := h.row.alloc (.cells #[.int .i64 (a : Int), .int .i64 (b : Int)] 45)
  have c0 : (w.alloc (.cells #[.int .i64 (a : Int), .int .i64 (b : Int)] 45)).cell? ⟨kb, 0, none⟩ = some (.map (some mb)) := hR.cell (i := 0) (by omega)
  have c1 : (w.alloc (.cells #[.int .i64 (a : Int), .int .i64 (b : Int)] 45)).cell? ⟨kb, 1, none⟩ = some (.slice oa ord.length cap) := hR.cell (i := 1) (by omega)
  have HH : Hid (Kn w kb mb (.slice oa ord.length cap) D ord keep) := h
  have hkl := h.row.lt
  clear h hR
  cases hcon : ord.contains (a, b)
  · have HC : Hid (ord.contains (a, b) = false) := hcon
    rw [hcon] at hlk
    clear hcon
    go_enter Try.func26, Try.ntmps26
    go_wp2
    go_quiet (fail)
    go_wp2
    obtain ⟨i0, hi0, hz0, hz1, hz2⟩ := info_parts Try.info45
    have hM : ((w.alloc (.cells #[.int .i64 (a : Int), .int .i64 (b : Int)] 45)).drewN (nq + 1)).ownsMap Try.prog 45 (plainElem Try.prog 3) mb ord.length D := HH.out.map.alloc _
    obtain ⟨w2, hrun, hown2, hg2⟩ := hM.update Try.law45 Try.underlying61 (by unfold maxLen; omega) (key_of ha hb) (plainElem_int Try.underlying3 (a := (ord.length : Int)) (WalkArith.wf_i64 (by omega)))
    clear hM hlk
    go_region
    go_wp2
    have hK := HH.out
    have hs0 : ((w.alloc (.cells #[.int .i64 (a : Int), .int .i64 (b : Int)] 45)).drewN (nq + 1)).heap.size = w.heap.size + 1 := by simp
    have hs2 := hg2.size
    have hml := hK.mlt
    have OWN : w2.ownsRow (kb + 1) 45 2 (.slice oa ord.length cap) ord.length (pcells ord) := own_kept (w := (w.alloc (.cells #[.int .i64 (a : Int), .int .i64 (b : Int)] 45)).drewN (nq + 1)) (hK.own.alloc _) hg2 (fun k e => by cases e; omega)
    have r2 : w2.rowIs kb 64 2 (v2 (.map (some mb)) (.slice oa ord.length cap)) := (hK.row.alloc (.cells #[.int .i64 (a : Int), .int .i64 (b : Int)] 45)).of_block (hg2.block kb (by rw [hs0]; omega) (fun e => by cases e; omega))
    have rB : w2.rowIs w.heap.size 45 2 (v2 (.int .i64 (a : Int)) (.int .i64 (b : Int))) := (row2 w (.int .i64 (a : Int)) (.int .i64 (b : Int)) 45).of_block (hg2.block w.heap.size (by rw [hs0]; omega) (fun e => by cases e; omega))
    have n1 : some kb ≠ (Value.slice oa ord.length cap).ownBlock := fun e => by have := (hK.own.lt kb e.symm).1; omega
    have nB : some w.heap.size ≠ (Value.slice oa ord.length cap).ownBlock := fun e => by have := (hK.own.lt w.heap.size e.symm).2; omega
    have d1 : w2.cell? ⟨kb, 1, none⟩ = some (.slice oa ord.length cap) := r2.cell (i := 1) (by omega)
    have d2 := r2.frozen 1
    have d1' : ((w2.alloc (.cells #[.int .i64 (a : Int), .int .i64 (b : Int)] 45)).drew).cell? ⟨kb, 1, none⟩ = some (.slice oa ord.length cap) := (r2.alloc (.cells #[.int .i64 (a : Int), .int .i64 (b : Int)] 45)).cell (i := 1) (by omega)
    have d2' : ((w2.alloc (.cells #[.int .i64 (a : Int), .int .i64 (b : Int)] 45)).drew).frozen? ⟨kb, 1, none⟩ = false := (r2.alloc (.cells #[.int .i64 (a : Int), .int .i64 (b : Int)] 45)).frozen 1
    have e0 : w2.cell? ⟨w.heap.size, 0, none⟩ = some (.int .i64 (a : Int)) := rB.cell (i := 0) (by omega)
    have e1 : w2.cell? ⟨w.heap.size, 1, none⟩ = some (.int .i64 (b : Int)) := rB.cell (i := 1) (by omega)
    have hlt2 : w.heap.size < w2.heap.size := by omega
    have hkl2 : kb < w2.heap.size := by omega
    have hbs : kb + 1 ≤ w2.heap.size := by omega
    have hbb : (ord.length + 1) * 16 ≤ 140737488355328 := by omega
    have hml2 : ord.length + 1 ≤ maxLen := by unfold maxLen; omega
    clear hrun c0 c1 hK hs0 hs2
    go_region_law (refine step_append_lies _ (by rfl) _ _ _ (by rfl) (kb + 1) 45 i0 _ 2 16 Try.underlying62 hi0 hz0 hz1 hz2 rfl (by omega) (.slice oa ord.length cap) ord.length (pcells ord) (by rfl) ((OWN.alloc _).drew) ⟨w2.heap.size, 0, none⟩ 1 1 [.int .i64 (a : Int), .int .i64 (b : Int)] (by rfl) (by rfl) (World.news_of_block (cs := #[.int .i64 (a : Int), .int .i64 (b : Int)]) (t := 45) (fr := (0, 0)) (heap_alloc_new w2 _)) (by simp [Value.oneCell']) (by omega) hml2 hbb (by simp; omega) (w2.heap.size + 1) (by simp) ?_; intro gg cap3 w3 hown3 hg3 hat hlt3; have f1 : w3.cell? ⟨kb, 1, none⟩ = some (.slice oa ord.length cap) := (hg3.cell_far ⟨kb, 1, none⟩ (by simp; omega) n1).trans d1'; have f2 : w3.frozen? ⟨kb, 1, none⟩ = false := (hg3.frozen_far ⟨kb, 1, none⟩ (by simp; omega) n1).trans d2')
    all_goals
      have FIN := kn_step HH.out ha hb HC.out (w1 := (w.alloc (.cells #[.int .i64 (a : Int), .int .i64 (b : Int)] 45)).drewN (nq + 1)) ⟨rfl, rfl, rfl, by simp, fun k hk => Below.heap_alloc _ _ _ hk⟩ (by simp) hown2 hg2 hown3 hg3 hat
      clear hown2 hg2 hown3 hg3 hat f1 f2 d1 d2 e0 e1 d1' d2' OWN r2 rB
      go_wp2
      go_ret2
      exact ⟨_, _, _, rfl, FIN.1, FIN.2⟩
  · have HA : Hid (addP ord (a, b) = ord) := by show (if ord.contains (a, b) then ord else _) = ord; rw [if_pos hcon]
    rw [hcon] at hlk
    clear hcon
    go_enter Try.func26, Try.ntmps26
    go_wp2
    go_quiet (fail)
    go_wp2
    go_ret2
    have hK := HH.out
    refine ⟨v, .slice oa ord.length cap, D, rfl, ?_, ?_⟩
    · rw [HA.out]
      refine ⟨hK.row.alloc _, hK.mlt, hK.map.alloc _, hK.has, hK.own.alloc _, fun k hk => ?_⟩
      obtain ⟨f1, f2, f3, f4⟩ := hK.far k hk
      exact ⟨by simp; omega, f2, f3, f4⟩
    · exact ⟨rfl, rfl, rfl, by simp, fun k hk => Below.heap_alloc _ _ _ (hK.far k hk).1⟩

end Go.Proofs.Ytdgbcblajgmpcaa
