/-
  The program's record of two records: what holds while it grows.
-/
import Derived.Test.YtpbpbppimkeodaaGreatDoorJoO
import Derived.Test.YtpbpbppimkeodaaGreatDoorJoQ
namespace Go.Proofs.YtpbpbppimkeodaaGreatDoor
open Go.RowKit Go.Maps

theorem KnQ.other {w w' : World} {kb mb : Nat} {ov : Value} {D : DataW Unit} {ord : List Qn} {keep keep' : Nat → Prop} (h : KnQ w kb mb ov D ord keep) (hb : w'.heap[kb]? = w.heap[kb]?) (hm : w'.heap[mb]? = w.heap[mb]?) (ho : ∀ k, ov.ownBlock = some k → w'.heap[k]? = w.heap[k]?)
    (hk : ∀ k, keep' k → k < w'.heap.size ∧ k ≠ kb ∧ k ≠ mb ∧ some k ≠ ov.ownBlock) : KnQ w' kb mb ov D ord keep' := by
  refine ⟨h.row.of_block hb, h.mlt, ?_, h.has, h.val, own_block h.own (fun k e => ho k e.symm), hk⟩
  obtain ⟨es, c, h1, h2⟩ := h.map
  exact ⟨es, c, hm.trans h1, h2⟩
theorem KnQ.below {w w' : World} {kb mb : Nat} {ov : Value} {D : DataW Unit} {ord : List Qn} {keep : Nat → Prop} (h : KnQ w kb mb ov D ord keep) (hb : Below w.heap.size w w') : KnQ w' kb mb ov D ord keep :=
  h.other (hb.block _ h.row.lt) (hb.block _ (Nat.lt_trans h.mlt h.row.lt)) (fun k e => hb.block k (h.own.lt k e).2) (fun k hk => by obtain ⟨f1, f2⟩ := h.far k hk; exact ⟨Nat.lt_of_lt_of_le f1 hb.size, f2⟩)

/-- What a record's making keeps: what was kept before it, its four boxes, its two lists. -/
def rkeep (keep : Nat → Prop) (b : Nat) (vn vk : Value) : Nat → Prop := fun j => keep j ∨ (b ≤ j ∧ j < b + 4) ∨ vn.ownBlock = some j ∨ vk.ownBlock = some j

structure RcI (w wr : World) (keep : Nat → Prop) (kb mb n : Nat) (x y : ND) (px py : NP) (L0 : List Qn) (na : Option Addr) (nc : Nat) (ka : Option Addr) (kc m : Nat) (dn : List (ByteArray × Kq)) (ov : Value) (D : DataW Unit) : Prop where
  len : dn.length = m
  two : Two (w.heap.size + 4) wr (.slice na m nc) (.slice ka m kc) (dn.map Prod.fst) ((dn.map Prod.snd).map fun k => (numK n (addAll L0 (dn.map Prod.snd)) k : Int)) m
  kn : KnQ wr kb mb ov D ((addAll L0 (dn.map Prod.snd)).map flipQ) (rkeep keep w.heap.size (.slice na m nc) (.slice ka m kc))
  bx : wr.rowIs w.heap.size 48 3 (v3 (.int .i64 x.kind) (.slice px.a1 x.nn px.c1) (.slice px.a2 x.nk px.c2))
  bY : wr.rowIs (w.heap.size + 1) 48 3 (v3 (.int .i64 y.kind) (.slice py.a1 y.nn py.c1) (.slice py.a2 y.nk py.c2))
  br : wr.rowIs (w.heap.size + 1 + 1) 48 3 (v3 (.int .i64 0) (.slice none 0 0) (.slice none 0 0))
  bo : wr.rowIs (w.heap.size + 1 + 1 + 1) 48 3 (v3 (.int .i64 3) (.slice na m nc) (.slice ka m kc))
  kept : Kept keep w wr
  old : ∀ j, keep j → j < w.heap.size

theorem Two.other {b : Nat} {w w' : World} {vn vk : Value} {S : List ByteArray} {K : List Int} {m : Nat} (h : Two b w vn vk S K m) (h1 : ∀ k, vn.ownBlock = some k → w'.heap[k]? = w.heap[k]?) (h2 : ∀ k, vk.ownBlock = some k → w'.heap[k]? = w.heap[k]?) : Two b w' vn vk S K m :=
  ⟨own_block h.own1 (fun k e => h1 k e.symm), own_block h.own2 (fun k e => h2 k e.symm), h.ne⟩

theorem RcI.drew {w wr : World} {keep : Nat → Prop} {kb mb n : Nat} {x y : ND} {px py : NP} {L0 : List Qn} {na : Option Addr} {nc : Nat} {ka : Option Addr} {kc m : Nat} {dn : List (ByteArray × Kq)} {ov : Value} {D : DataW Unit} (h : RcI w wr keep kb mb n x y px py L0 na nc ka kc m dn ov D) (t : Nat) : RcI w (wr.drewN t) keep kb mb n x y px py L0 na nc ka kc m dn ov D :=
  ⟨h.len, h.two.other (fun _ _ => rfl) (fun _ _ => rfl), h.kn.below (below_drewN' _ _), h.bx.of_block rfl, h.bY.of_block rfl, h.br.of_block rfl, h.bo.of_block rfl, ⟨h.kept.os, h.kept.tape, h.kept.output, h.kept.size, h.kept.block⟩, h.old⟩

theorem rc_start {w : World} {keep : Nat → Prop} {kb mb n : Nat} {x y : ND} {px py : NP} {L0 : List Qn} {ov : Value} {D : DataW Unit} (h : KnQ w kb mb ov D (L0.map flipQ) keep) :
    RcI w ((((w.alloc (.cells #[.int .i64 x.kind, .slice px.a1 x.nn px.c1, .slice px.a2 x.nk px.c2] 48)).alloc (.cells #[.int .i64 y.kind, .slice py.a1 y.nn py.c1, .slice py.a2 y.nk py.c2] 48)).alloc (.cells #[.int .i64 0, .slice none 0 0, .slice none 0 0] 48)).alloc (.cells #[.int .i64 3, .slice none 0 0, .slice none 0 0] 48)) keep kb mb n x y px py L0 none 0 none 0 0 [] ov D := by
  obtain ⟨W, hW⟩ : ∃ W, W = ((((w.alloc (.cells #[.int .i64 x.kind, .slice px.a1 x.nn px.c1, .slice px.a2 x.nk px.c2] 48)).alloc (.cells #[.int .i64 y.kind, .slice py.a1 y.nn py.c1, .slice py.a2 y.nk py.c2] 48)).alloc (.cells #[.int .i64 0, .slice none 0 0, .slice none 0 0] 48)).alloc (.cells #[.int .i64 3, .slice none 0 0, .slice none 0 0] 48)) := ⟨_, rfl⟩
  have hs : W.heap.size = w.heap.size + 4 := by rw [hW]; simp
  have hb : Below w.heap.size w W := by rw [hW]; exact (bel3 _ _ _ _).alloc (by simp; omega) _
  rw [← hW]
  have r1 := row3 w (.int .i64 x.kind) (.slice px.a1 x.nn px.c1) (.slice px.a2 x.nk px.c2) 48
  have r2 := row3 (w.alloc (.cells #[.int .i64 x.kind, .slice px.a1 x.nn px.c1, .slice px.a2 x.nk px.c2] 48)) (.int .i64 y.kind) (.slice py.a1 y.nn py.c1) (.slice py.a2 y.nk py.c2) 48
  have r3 := row3 ((w.alloc (.cells #[.int .i64 x.kind, .slice px.a1 x.nn px.c1, .slice px.a2 x.nk px.c2] 48)).alloc (.cells #[.int .i64 y.kind, .slice py.a1 y.nn py.c1, .slice py.a2 y.nk py.c2] 48)) (.int .i64 0) (.slice none 0 0) (.slice none 0 0) 48
  have r4 := row3 (((w.alloc (.cells #[.int .i64 x.kind, .slice px.a1 x.nn px.c1, .slice px.a2 x.nk px.c2] 48)).alloc (.cells #[.int .i64 y.kind, .slice py.a1 y.nn py.c1, .slice py.a2 y.nk py.c2] 48)).alloc (.cells #[.int .i64 0, .slice none 0 0, .slice none 0 0] 48)) (.int .i64 3) (.slice none 0 0) (.slice none 0 0) 48
  simp only [World.size_alloc] at r2 r3 r4
  have q1 := ((r1.alloc (.cells #[.int .i64 y.kind, .slice py.a1 y.nn py.c1, .slice py.a2 y.nk py.c2] 48)).alloc (.cells #[.int .i64 0, .slice none 0 0, .slice none 0 0] 48)).alloc (.cells #[.int .i64 3, .slice none 0 0, .slice none 0 0] 48)
  have q2 := (r2.alloc (.cells #[.int .i64 0, .slice none 0 0, .slice none 0 0] 48)).alloc (.cells #[.int .i64 3, .slice none 0 0, .slice none 0 0] 48)
  have q3 := r3.alloc (.cells #[.int .i64 3, .slice none 0 0, .slice none 0 0] 48)
  rw [← hW] at q1 q2 q3 r4
  refine ⟨rfl, ⟨World.ownsRow_nil _ _ _ _, World.ownsRow_nil _ _ _ _, fun b e => by simp [Value.ownBlock] at e⟩, ?_, q1, q2, q3, r4, ⟨hb.os, hb.tape, hb.output, hb.size, fun k hk => hb.block k (h.far k hk).1⟩, fun j hj => (h.far j hj).1⟩
  have hB := h.below hb
  have hkl := h.row.lt
  have hml := h.mlt
  refine ⟨hB.row, hB.mlt, hB.map, hB.has, hB.val, hB.own, fun k hk => ?_⟩
  rcases hk with hk | hk | hk | hk
  · exact hB.far k hk
  · refine ⟨by omega, by omega, by omega, fun e => ?_⟩
    have := (h.own.lt k e.symm).2
    omega
  · simp [Value.ownBlock] at hk
  · simp [Value.ownBlock] at hk

/-- A field more. -/
theorem rc_step {w wr w1 w2 : World} {keep : Nat → Prop} {kb mb n : Nat} {x y : ND} {px py : NP} {L0 : List Qn} {na : Option Addr} {nc : Nat} {ka : Option Addr} {kc m : Nat} {dn : List (ByteArray × Kq)} {ov ov1 : Value} {D D1 : DataW Unit} {k : Kq} {s : ByteArray} {gg c1 hh c2 : Nat} {z : Int}
    (h : RcI w wr keep kb mb n x y px py L0 na nc ka kc m dn ov D) (hk1 : KnQ w1 kb mb ov1 D1 ((addQ (addAll L0 (dn.map Prod.snd)) k).map flipQ) (rkeep keep w.heap.size (.slice na m nc) (.slice ka m kc)))
    (hkp : Kept (rkeep keep w.heap.size (.slice na m nc) (.slice ka m kc)) wr w1) (hz : z = (numK n (addQ (addAll L0 (dn.map Prod.snd)) k) k : Int))
    (ht : Two (w.heap.size + 4) w2 (.slice (some ⟨gg, 0, none⟩) (m + 1) c1) (.slice (some ⟨hh, 0, none⟩) (m + 1) c2) (dn.map Prod.fst ++ [s]) (((dn.map Prod.snd).map fun k => (numK n (addAll L0 (dn.map Prod.snd)) k : Int)) ++ [z]) (m + 1))
    (hbt : But2 w1 w2 (Value.slice na m nc).ownBlock (Value.slice ka m kc).ownBlock) (hgg : (Value.slice na m nc).ownBlock = some gg ∨ w1.heap.size ≤ gg) (hhh : (Value.slice ka m kc).ownBlock = some hh ∨ w1.heap.size ≤ hh) :
    RcI w (((w2.setCell ⟨w.heap.size + 1 + 1 + 1, 0, none⟩ (.int .i64 3)).setCell ⟨w.heap.size + 1 + 1 + 1, 1, none⟩ (.slice (some ⟨gg, 0, none⟩) (m + 1) c1)).setCell ⟨w.heap.size + 1 + 1 + 1, 2, none⟩ (.slice (some ⟨hh, 0, none⟩) (m + 1) c2)) keep kb mb n x y px py L0 (some ⟨gg, 0, none⟩) c1 (some ⟨hh, 0, none⟩) c2 (m + 1) (dn ++ [(s, k)]) ov1 D1 ∧
    (∀ i, i < 3 → w2.cell? ⟨w.heap.size + 1 + 1 + 1, i, none⟩ = some (v3 (.int .i64 3) (.slice na m nc) (.slice ka m kc) i) ∧ w2.frozen? ⟨w.heap.size + 1 + 1 + 1, i, none⟩ = false) ∧
    Kept keep w w2 ∧ w2.rowIs w.heap.size 48 3 (v3 (.int .i64 x.kind) (.slice px.a1 x.nn px.c1) (.slice px.a2 x.nk px.c2)) ∧ w2.rowIs (w.heap.size + 1) 48 3 (v3 (.int .i64 y.kind) (.slice py.a1 y.nn py.c1) (.slice py.a2 y.nk py.c2)) := by
  have nb : ∀ j, j < w.heap.size + 4 → some j ≠ (Value.slice na m nc).ownBlock ∧ some j ≠ (Value.slice ka m kc).ownBlock := fun j hj => ⟨fun e => by have := (h.two.own1.lt j e.symm).1; omega, fun e => by have := (h.two.own2.lt j e.symm).1; omega⟩
  have s1 := hkp.size
  have s2 := hbt.size
  have hsw : w.heap.size + 4 ≤ wr.heap.size := by have := h.bo.lt; omega
  have far := hk1.far
  have kbl := hk1.row.lt
  have mbl := hk1.mlt
  -- blocks that stay
  have st : ∀ j, j < w1.heap.size → some j ≠ (Value.slice na m nc).ownBlock → some j ≠ (Value.slice ka m kc).ownBlock → j ≠ w.heap.size + 1 + 1 + 1 → (((w2.setCell ⟨w.heap.size + 1 + 1 + 1, 0, none⟩ (.int .i64 3)).setCell ⟨w.heap.size + 1 + 1 + 1, 1, none⟩ (.slice (some ⟨gg, 0, none⟩) (m + 1) c1)).setCell ⟨w.heap.size + 1 + 1 + 1, 2, none⟩ (.slice (some ⟨hh, 0, none⟩) (m + 1) c2)).heap[j]? = w1.heap[j]? := fun j hj h1 h2 h3 =>
    (set3 j h3).trans (hbt.block j hj h1 h2)
  have vnf : ∀ j, (Value.slice na m nc).ownBlock = some j → j < w1.heap.size ∧ j ≠ kb ∧ j ≠ mb ∧ some j ≠ ov1.ownBlock := fun j e => far j (Or.inr (Or.inr (Or.inl e)))
  have vkf : ∀ j, (Value.slice ka m kc).ownBlock = some j → j < w1.heap.size ∧ j ≠ kb ∧ j ≠ mb ∧ some j ≠ ov1.ownBlock := fun j e => far j (Or.inr (Or.inr (Or.inr e)))
  have fbox : ∀ j, w.heap.size ≤ j → j < w.heap.size + 4 → j < w1.heap.size ∧ j ≠ kb ∧ j ≠ mb ∧ some j ≠ ov1.ownBlock := fun j h1 h2 => far j (Or.inr (Or.inl ⟨h1, h2⟩))
  obtain ⟨_, o1, o2, o3⟩ := fbox (w.heap.size + 1 + 1 + 1) (by omega) (by omega)
  have bk : ∀ j, w.heap.size ≤ j → j < w.heap.size + 4 → w2.heap[j]? = wr.heap[j]? := fun j h1 h2 => (hbt.block j (by omega) (nb j h2).1 (nb j h2).2).trans (hkp.block j (Or.inr (Or.inl ⟨h1, h2⟩)))
  have bo2 := h.bo.of_block (bk _ (by omega) (by omega))
  have e1 : addAll L0 ((dn ++ [(s, k)]).map Prod.snd) = addQ (addAll L0 (dn.map Prod.snd)) k := by rw [List.map_append]; exact addAll_snoc _ _ _
  have e2 : ((dn ++ [(s, k)]).map Prod.snd).map (fun k' => (numK n (addAll L0 ((dn ++ [(s, k)]).map Prod.snd)) k' : Int)) = ((dn.map Prod.snd).map fun k => (numK n (addAll L0 (dn.map Prod.snd)) k : Int)) ++ [z] := by
    rw [e1, List.map_append, List.map_append, hz]
    congr 1
    refine List.map_congr_left (fun k' hk' => ?_)
    congr 1
    exact (numK_pre (addQ_pre _ _) (fun q e => addAll_has _ _ q (by rw [← e]; exact hk'))).symm
  have gl1 := (ht.own1.lt gg rfl)
  have hl1 := (ht.own2.lt hh rfl)
  have ggne : gg ≠ w.heap.size + 1 + 1 + 1 := by omega
  have hhne : hh ≠ w.heap.size + 1 + 1 + 1 := by omega
  refine ⟨⟨by simp [h.len], ?_, ?_, ?_, ?_, ?_, ?_, ?_, h.old⟩, fun i hi => ⟨bo2.cell (i := i) hi, bo2.frozen i⟩, ⟨hbt.os.trans (hkp.os.trans h.kept.os), hbt.tape.trans (hkp.tape.trans h.kept.tape), hbt.output.trans (hkp.output.trans h.kept.output), by have := h.kept.size; omega, fun j hj => by
    have hlt := h.old j hj
    exact ((hbt.block j (by omega) (nb j (by omega)).1 (nb j (by omega)).2).trans (hkp.block j (Or.inl hj))).trans (h.kept.block j hj)⟩, h.bx.of_block (bk _ (by omega) (by omega)), h.bY.of_block (bk _ (by omega) (by omega))⟩
  · rw [List.map_append, e2]
    exact ht.other (fun j e => by have : gg = j := by simpa [Value.ownBlock] using e
                                  subst this; exact set3 _ ggne) (fun j e => by have : hh = j := by simpa [Value.ownBlock] using e
                                                                                subst this; exact set3 _ hhne)
  · rw [e1]
    refine hk1.other (st kb kbl (fun e => (vnf kb e.symm).2.1 rfl) (fun e => (vkf kb e.symm).2.1 rfl) (Ne.symm o1)) (st mb (by omega) (fun e => (vnf mb e.symm).2.2.1 rfl) (fun e => (vkf mb e.symm).2.2.1 rfl) (Ne.symm o2)) (fun j e => st j (hk1.own.lt j e).2 (fun e2 => (vnf j e2.symm).2.2.2 e.symm) (fun e2 => (vkf j e2.symm).2.2.2 e.symm) (fun e2 => o3 (by rw [← e2]; exact e.symm))) (fun j hj => ?_)
    have hsz : (((w2.setCell ⟨w.heap.size + 1 + 1 + 1, 0, none⟩ (.int .i64 3)).setCell ⟨w.heap.size + 1 + 1 + 1, 1, none⟩ (.slice (some ⟨gg, 0, none⟩) (m + 1) c1)).setCell ⟨w.heap.size + 1 + 1 + 1, 2, none⟩ (.slice (some ⟨hh, 0, none⟩) (m + 1) c2)).heap.size = w2.heap.size := by simp
    have fresh : ∀ j, w1.heap.size ≤ j → j < w2.heap.size → j < w2.heap.size ∧ j ≠ kb ∧ j ≠ mb ∧ some j ≠ ov1.ownBlock := fun j h1 h2 => ⟨h2, by omega, by omega, fun e => by have := (hk1.own.lt j e.symm).2; omega⟩
    rw [hsz]
    rcases hj with hj | hj | hj | hj
    · obtain ⟨f1, f2⟩ := far j (Or.inl hj); exact ⟨by omega, f2⟩
    · obtain ⟨f1, f2⟩ := fbox j hj.1 hj.2; exact ⟨by omega, f2⟩
    · have e : gg = j := by simpa [Value.ownBlock] using hj
      subst e
      rcases hgg with q | q
      · obtain ⟨f1, f2⟩ := vnf gg q; exact ⟨by omega, f2⟩
      · exact fresh gg q gl1.2
    · have e : hh = j := by simpa [Value.ownBlock] using hj
      subst e
      rcases hhh with q | q
      · obtain ⟨f1, f2⟩ := vkf hh q; exact ⟨by omega, f2⟩
      · exact fresh hh q hl1.2
  · exact h.bx.of_block ((set3 _ (by omega)).trans (bk _ (by omega) (by omega)))
  · exact h.bY.of_block ((set3 _ (by omega)).trans (bk _ (by omega) (by omega)))
  · exact h.br.of_block ((set3 _ (by omega)).trans (bk _ (by omega) (by omega)))
  · refine (((bo2.set 0 _).set 1 _).set 2 _).congr (fun i hi => ?_)
    match i, hi with
    | 0, _ => rfl
    | 1, _ => rfl
    | 2, _ => rfl
  · refine ⟨hbt.os.trans (hkp.os.trans h.kept.os), hbt.tape.trans (hkp.tape.trans h.kept.tape), hbt.output.trans (hkp.output.trans h.kept.output), ?_, fun j hj => ?_⟩
    · have := h.kept.size
      simp
      omega
    · have hlt := h.old j hj
      exact ((st j (by omega) (nb j (by omega)).1 (nb j (by omega)).2 (by omega)).trans (hkp.block j (Or.inl hj))).trans (h.kept.block j hj)

end Go.Proofs.YtpbpbppimkeodaaGreatDoor
