/-
  A question is numbered.
-/
import Derived.Test.YtpbpbppimkeodaaGreatDoorJoL
namespace Go.Proofs.YtpbpbppimkeodaaGreatDoor
open Go.RowKit Go.Maps

theorem knq_step {w w1 w2 w3 : World} {kb mb : Nat} {oa : Option Addr} {cap gg cap3 : Nat} {D : DataW Unit} {ord : List Qn} {keep : Nat → Prop} {q : Qn} {o2 : Obj}
    (h : KnQ w kb mb (.slice oa ord.length cap) D ord keep) (hq : SmQ q) (hc : ord.contains q = false) (hw1 : Kept (fun k => k < w.heap.size) w w1) (hs1 : w1.heap.size = w.heap.size + 1)
    (hown2 : w2.ownsMap Tryz.prog 124 (plainElem Tryz.prog 3) mb (ord.length + 1) (D.put (kq q) (.lit (.int .i64 (ord.length : Int))))) (hg2 : w1.grownBy w2 (some mb))
    (hown3 : w3.ownsRow (kb + 1) 124 3 (.slice (some ⟨gg, 0, none⟩) (ord.length + 1) cap3) (ord.length + 1) (qcells ord ++ [.int .i64 (q.a : Int), .int .i64 (q.b : Int), .bool q.up]))
    (hg3 : ((w2.alloc o2).drew).grownBy w3 (Value.slice oa ord.length cap).ownBlock) (hat : (Value.slice oa ord.length cap).ownBlock = some gg ∨ gg = w2.heap.size + 1) :
    KnQ (w3.setCell ⟨kb, 1, none⟩ (.slice (some ⟨gg, 0, none⟩) (ord.length + 1) cap3)) kb mb (.slice (some ⟨gg, 0, none⟩) (ord.length + 1) cap3) (D.put (kq q) (.lit (.int .i64 (ord.length : Int)))) (addM ord q) keep ∧
    Kept keep w (w3.setCell ⟨kb, 1, none⟩ (.slice (some ⟨gg, 0, none⟩) (ord.length + 1) cap3)) := by
  have hA : addM ord q = ord ++ [q] := by unfold addM; rw [hc]; rfl
  have hna : q ∉ ord := fun hm => by rw [List.contains_iff_mem.2 hm] at hc; cases hc
  have hs2 := hg2.size
  have hs3 := hg3.size
  have e3 : ((w2.alloc o2).drew).heap.size = w2.heap.size + 1 := by simp
  have hkl := h.row.lt
  have hml := h.mlt
  have n1 : some kb ≠ (Value.slice oa ord.length cap).ownBlock := fun e => by have := (h.own.lt kb e.symm).1; omega
  have nm : some mb ≠ (Value.slice oa ord.length cap).ownBlock := fun e => by have := (h.own.lt mb e.symm).1; omega
  have b3 : ∀ k, k < w2.heap.size → some k ≠ (Value.slice oa ord.length cap).ownBlock → w3.heap[k]? = w2.heap[k]? := fun k hk hn => (hg3.block k (by rw [e3]; omega) hn).trans (Below.heap_alloc _ _ _ hk)
  have rk : w3.rowIs kb 154 2 (v2 (.map (some mb)) (.slice oa ord.length cap)) :=
    h.row.of_block (((b3 kb (by omega) n1).trans (hg2.block kb (by omega) (fun e => by cases e; omega))).trans (hw1.block kb hkl))
  rw [hA]
  refine ⟨⟨(rk.set 1 _).congr (fun i hi => ?_), h.mlt, ?_, fun x hx => ?_, fun x hx hm => ?_, ?_, fun k hk => ?_⟩, ?_⟩
  · match i, hi with
    | 0, _ => rfl
    | 1, _ => rfl
  · have hm : w3.ownsMap Tryz.prog 124 (plainElem Tryz.prog 3) mb (ord.length + 1) (D.put (kq q) (.lit (.int .i64 (ord.length : Int)))) := ((hown2.alloc o2).drew).kept hg3 nm
    have hm' := hm.setCell (a := ⟨kb, 1, none⟩) (by show mb ≠ kb; omega) (.slice (some ⟨gg, 0, none⟩) (ord.length + 1) cap3)
    simpa using hm'
  · by_cases z : x = q
    · subst z
      rw [Maps.has_put_same h.map.isMap (Tryz.lawM.key (key_q hx.1 hx.2))]
      simp
    · have hne : kq x ≠ kq q := fun e => z (kq_inj hq.1 hq.2 hx.1 hx.2 e)
      rw [Maps.has_put_other hne, h.has x hx]
      rw [Bool.eq_iff_iff]
      simp only [List.contains_iff_mem, List.mem_append, List.mem_singleton]
      exact ⟨Or.inl, fun y => y.elim id (fun y => absurd y z)⟩
  · by_cases z : x = q
    · subst z
      rw [Maps.atKey_put_same h.map.isMap (Tryz.lawM.key (key_q hx.1 hx.2)), List.idxOf_append, if_neg hna]
      simp
    · have hne : kq x ≠ kq q := fun e => z (kq_inj hq.1 hq.2 hx.1 hx.2 e)
      rw [Maps.atKey_put_other hne]
      have hm' : x ∈ ord := by
        rcases List.mem_append.1 hm with y | y
        · exact y
        · simp at y; exact absurd y z
      rw [h.val x hx hm', List.idxOf_append, if_pos hm']
  · rw [qcells_snoc]
    have := ownsRow_setCell_below hown3 (a := ⟨kb, 1, none⟩) (by show kb < kb + 1; omega) (.slice (some ⟨gg, 0, none⟩) (ord.length + 1) cap3)
    simpa using this
  · obtain ⟨f1, f2, f3, f4⟩ := h.far k hk
    refine ⟨by simp [World.setCell]; omega, f2, f3, ?_⟩
    rcases hat with hat | hat
    · rw [hat] at f4; simpa [Value.ownBlock] using f4
    · simp [Value.ownBlock]; omega
  · refine ⟨?_, ?_, ?_, by simp [World.setCell]; omega, fun k hk => ?_⟩
    · exact hg3.os.trans (hg2.os.trans hw1.os)
    · exact hg3.tape.trans (hg2.tape.trans hw1.tape)
    · exact hg3.output.trans (hg2.output.trans hw1.output)
    · obtain ⟨f1, f2, f3, f4⟩ := h.far k hk
      rw [Below.heap_setCell _ _ _ _ (by show k ≠ kb; exact f2), b3 k (by omega) f4, hg2.block k (by omega) (fun e => by cases e; exact f3 rfl), hw1.block k f1]

set_option maxRecDepth 100000 in
set_option maxHeartbeats 4000000 in
theorem kq_number (kb mb : Nat) (ov : Value) (D : DataW Unit) (ord : List Qn) (keep : Nat → Prop) (q : Qn) (w : World) (h : KnQ w kb mb ov D ord keep) (hq : SmQ q) (ho : ord.length ≤ 100000000) :
    Calls Tryz.prog 110 #[.pointer (some ⟨kb, 0, none⟩), .agg #[.int .i64 (q.a : Int), .int .i64 (q.b : Int), .bool q.up]] w fun e w' =>
      ∃ (ov' : Value) (D' : DataW Unit), e = .returned (.tuple #[.int .i64 ((addM ord q).idxOf q : Int), .bool (!ord.contains q)]) ∧ KnQ w' kb mb ov' D' (addM ord q) keep ∧ Kept keep w w' := by
  obtain ⟨v, hlk, hat0⟩ := look_q (h.map.alloc (.cells #[.int .i64 (q.a : Int), .int .i64 (q.b : Int), .bool q.up] 124)) hq
  rw [h.has q hq] at hlk
  obtain ⟨oa, cap, rfl⟩ := own_form h.own
  have hR := h.row.alloc (.cells #[.int .i64 (q.a : Int), .int .i64 (q.b : Int), .bool q.up] 124)
  have c0 : (w.alloc (.cells #[.int .i64 (q.a : Int), .int .i64 (q.b : Int), .bool q.up] 124)).cell? ⟨kb, 0, none⟩ = some (.map (some mb)) := hR.cell (i := 0) (by omega)
  have c1 : (w.alloc (.cells #[.int .i64 (q.a : Int), .int .i64 (q.b : Int), .bool q.up] 124)).cell? ⟨kb, 1, none⟩ = some (.slice oa ord.length cap) := hR.cell (i := 1) (by omega)
  have HH : Hid (KnQ w kb mb (.slice oa ord.length cap) D ord keep) := h
  have hkl := h.row.lt
  clear h hR
  cases hcon : ord.contains q
  · have HC : Hid (ord.contains q = false) := hcon
    have HXN : Hid ((addM ord q).idxOf q = ord.length) := by
      have hna : q ∉ ord := fun hm => by rw [List.contains_iff_mem.2 hm] at hcon; cases hcon
      show (addM ord q).idxOf q = ord.length
      unfold addM; rw [hcon]
      simp [List.idxOf_append, hna]
    rw [hcon] at hlk
    clear hcon
    go_enter Tryz.func110, Tryz.ntmps110
    go_wp2
    go_quiet (fail)
    go_wp2
    obtain ⟨i0, hi0, hz0, hz1, hz2⟩ := info_parts Tryz.infoM
    have hM : ((w.alloc (.cells #[.int .i64 (q.a : Int), .int .i64 (q.b : Int), .bool q.up] 124)).drewN (nq + 1)).ownsMap Tryz.prog 124 (plainElem Tryz.prog 3) mb ord.length D := HH.out.map.alloc _
    obtain ⟨w2, hrun, hown2, hg2⟩ := hM.update Tryz.lawM Tryz.underlying151 (by unfold maxLen; omega) (key_q hq.1 hq.2) (plainElem_int Tryz.underlying3 (a := (ord.length : Int)) (WalkArith.wf_i64 (by omega)))
    simp only [qv] at hrun
    clear hM hlk
    go_region
    go_wp2
    have hK := HH.out
    have hs0 : ((w.alloc (.cells #[.int .i64 (q.a : Int), .int .i64 (q.b : Int), .bool q.up] 124)).drewN (nq + 1)).heap.size = w.heap.size + 1 := by simp
    have hs2 := hg2.size
    have hml := hK.mlt
    have OWN : w2.ownsRow (kb + 1) 124 3 (.slice oa ord.length cap) ord.length (qcells ord) := own_kept (w := (w.alloc (.cells #[.int .i64 (q.a : Int), .int .i64 (q.b : Int), .bool q.up] 124)).drewN (nq + 1)) (hK.own.alloc _) hg2 (fun k e => by cases e; omega)
    have r2 : w2.rowIs kb 154 2 (v2 (.map (some mb)) (.slice oa ord.length cap)) := (hK.row.alloc (.cells #[.int .i64 (q.a : Int), .int .i64 (q.b : Int), .bool q.up] 124)).of_block (hg2.block kb (by rw [hs0]; omega) (fun e => by cases e; omega))
    have rB : w2.rowIs w.heap.size 124 3 (v3 (.int .i64 (q.a : Int)) (.int .i64 (q.b : Int)) (.bool q.up)) := (row3 w (.int .i64 (q.a : Int)) (.int .i64 (q.b : Int)) (.bool q.up) 124).of_block (hg2.block w.heap.size (by rw [hs0]; omega) (fun e => by cases e; omega))
    have n1 : some kb ≠ (Value.slice oa ord.length cap).ownBlock := fun e => by have := (hK.own.lt kb e.symm).1; omega
    have nB : some w.heap.size ≠ (Value.slice oa ord.length cap).ownBlock := fun e => by have := (hK.own.lt w.heap.size e.symm).2; omega
    have d1 : w2.cell? ⟨kb, 1, none⟩ = some (.slice oa ord.length cap) := r2.cell (i := 1) (by omega)
    have d2 := r2.frozen 1
    have d1' : ((w2.alloc (.cells #[.int .i64 (q.a : Int), .int .i64 (q.b : Int), .bool q.up] 124)).drew).cell? ⟨kb, 1, none⟩ = some (.slice oa ord.length cap) := (r2.alloc (.cells #[.int .i64 (q.a : Int), .int .i64 (q.b : Int), .bool q.up] 124)).cell (i := 1) (by omega)
    have d2' : ((w2.alloc (.cells #[.int .i64 (q.a : Int), .int .i64 (q.b : Int), .bool q.up] 124)).drew).frozen? ⟨kb, 1, none⟩ = false := (r2.alloc (.cells #[.int .i64 (q.a : Int), .int .i64 (q.b : Int), .bool q.up] 124)).frozen 1
    have e0 : w2.cell? ⟨w.heap.size, 0, none⟩ = some (.int .i64 (q.a : Int)) := rB.cell (i := 0) (by omega)
    have e2 : w2.cell? ⟨w.heap.size, 2, none⟩ = some (.bool q.up) := rB.cell (i := 2) (by omega)
    have e1 : w2.cell? ⟨w.heap.size, 1, none⟩ = some (.int .i64 (q.b : Int)) := rB.cell (i := 1) (by omega)
    have hlt2 : w.heap.size < w2.heap.size := by omega
    have hkl2 : kb < w2.heap.size := by omega
    have hbs : kb + 1 ≤ w2.heap.size := by omega
    have hbb : (ord.length + 1) * 24 ≤ 140737488355328 := by omega
    have hml2 : ord.length + 1 ≤ maxLen := by unfold maxLen; omega
    clear hrun c0 c1 hK hs0 hs2
    go_region_law (refine step_append_lies _ (by rfl) _ _ _ (by rfl) (kb + 1) 124 i0 _ 3 24 Tryz.underlying152 hi0 hz0 hz1 hz2 rfl (by omega) (.slice oa ord.length cap) ord.length (qcells ord) (by rfl) ((OWN.alloc _).drew) ⟨w2.heap.size, 0, none⟩ 1 1 [.int .i64 (q.a : Int), .int .i64 (q.b : Int), .bool q.up] (by rfl) (by rfl) (World.news_of_block (cs := #[.int .i64 (q.a : Int), .int .i64 (q.b : Int), .bool q.up]) (t := 124) (fr := (0, 0)) (heap_alloc_new w2 _)) (by simp [Value.oneCell']) (by omega) hml2 hbb (by simp; omega) (w2.heap.size + 1) (by simp) ?_; intro gg cap3 w3 hown3 hg3 hat hlt3; have f1 : w3.cell? ⟨kb, 1, none⟩ = some (.slice oa ord.length cap) := (hg3.cell_far ⟨kb, 1, none⟩ (by simp; omega) n1).trans d1'; have f2 : w3.frozen? ⟨kb, 1, none⟩ = false := (hg3.frozen_far ⟨kb, 1, none⟩ (by simp; omega) n1).trans d2')
    all_goals
      have FIN := knq_step HH.out hq HC.out (w1 := (w.alloc (.cells #[.int .i64 (q.a : Int), .int .i64 (q.b : Int), .bool q.up] 124)).drewN (nq + 1)) ⟨rfl, rfl, rfl, by simp, fun k hk => Below.heap_alloc _ _ _ hk⟩ (by simp) hown2 hg2 hown3 hg3 hat
      clear hown2 hg2 hown3 hg3 hat f1 f2 d1 d2 e0 e1 e2 d1' d2' OWN r2 rB
      go_wp2
      go_ret2
      exact ⟨_, _, by rw [HXN.out]; rfl, FIN.1, FIN.2⟩
  · have HXN : Hid (v = (ord.idxOf q : Int)) := by
      have hm : q ∈ ord := by simpa using hcon
      have := HH.out.val q hq hm
      rw [hat0] at this
      show v = (ord.idxOf q : Int)
      simpa using this
    have HA : Hid (addM ord q = ord) := by show (if ord.contains q then ord else _) = ord; rw [if_pos hcon]
    rw [hcon] at hlk
    clear hcon
    go_enter Tryz.func110, Tryz.ntmps110
    go_wp2
    go_quiet (fail)
    go_wp2
    go_ret2
    have hK := HH.out
    refine ⟨.slice oa ord.length cap, D, by rw [HA.out, ← HXN.out]; rfl, ?_, ?_⟩
    · rw [HA.out]
      refine ⟨hK.row.alloc _, hK.mlt, hK.map.alloc _, hK.has, hK.val, hK.own.alloc _, fun k hk => ?_⟩
      obtain ⟨f1, f2, f3, f4⟩ := hK.far k hk
      exact ⟨by simp; omega, f2, f3, f4⟩
    · exact ⟨rfl, rfl, rfl, by simp, fun k hk => Below.heap_alloc _ _ _ (hK.far k hk).1⟩


end Go.Proofs.YtpbpbppimkeodaaGreatDoor
