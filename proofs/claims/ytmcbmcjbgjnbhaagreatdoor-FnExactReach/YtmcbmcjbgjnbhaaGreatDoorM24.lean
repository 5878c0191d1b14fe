/-
  Merged for the claim: ReC ReD RaB RaC.
-/
import Derived.Test.YtmcbmcjbgjnbhaaGreatDoorM23
import Derived.Test.YtmcbmcjbgjnbhaaGreatDoorPfE
namespace Go.Proofs.YtmcbmcjbgjnbhaaGreatDoor
open Go.RowKit Go.Maps

theorem knq_step {w w1 w2 w3 : World} {kb mb : Nat} {oa : Option Addr} {cap gg cap3 : Nat} {D : DataW Unit} {ord : List (Int × List UInt8)} {keep : Nat → Prop} {q : Int × List UInt8} {o2 : Obj}
    (h : KnQ w kb mb (.slice oa ord.length cap) D ord keep) (hq : SmQ q) (hc : ord.contains q = false) (hw1 : Kept (fun k => k < w.heap.size) w w1) (hs1 : w1.heap.size = w.heap.size + 1)
    (hown2 : w2.ownsMap Tryz.prog 77 (plainElem Tryz.prog 3) mb (ord.length + 1) (D.put (kq q) (.lit (.int .i64 (ord.length : Int))))) (hg2 : w1.grownBy w2 (some mb))
    (hown3 : w3.ownsRow (kb + 1) 77 2 (.slice (some ⟨gg, 0, none⟩) (ord.length + 1) cap3) (ord.length + 1) (qcells ord ++ [.int .i64 q.1, .string ⟨q.2.toArray⟩]))
    (hg3 : ((w2.alloc o2).drew).grownBy w3 (Value.slice oa ord.length cap).ownBlock) (hat : (Value.slice oa ord.length cap).ownBlock = some gg ∨ gg = w2.heap.size + 1) :
    KnQ (w3.setCell ⟨kb, 1, none⟩ (.slice (some ⟨gg, 0, none⟩) (ord.length + 1) cap3)) kb mb (.slice (some ⟨gg, 0, none⟩) (ord.length + 1) cap3) (D.put (kq q) (.lit (.int .i64 (ord.length : Int)))) (addM ord q) keep ∧
    Kept keep w (w3.setCell ⟨kb, 1, none⟩ (.slice (some ⟨gg, 0, none⟩) (ord.length + 1) cap3)) := by
  have hA : addM ord q = ord ++ [q] := by unfold addM; rw [hc]; rfl
  have hna : q ∉ ord := fun hm => by rw [List.contains_iff_mem.2 hm] at hc; cases hc
  have hs2 := hg2.size
  have hs3 := hg3.size
  have e3 : ((w2.alloc o2).drew).heap.size = w2.heap.size + 1 := by simp
  have hkl := h.row.lt
  have hml := h.mlt
  have n1 : some kb ≠ (Value.slice oa ord.length cap).ownBlock := fun e => by have := (h.own.lt kb e.symm).1; omega
  have nm : some mb ≠ (Value.slice oa ord.length cap).ownBlock := fun e => by have := (h.own.lt mb e.symm).1; omega
  have b3 : ∀ k, k < w2.heap.size → some k ≠ (Value.slice oa ord.length cap).ownBlock → w3.heap[k]? = w2.heap[k]? := fun k hk hn => (hg3.block k (by rw [e3]; omega) hn).trans (Below.heap_alloc _ _ _ hk)
  have rk : w3.rowIs kb 92 2 (v2 (.map (some mb)) (.slice oa ord.length cap)) :=
    h.row.of_block (((b3 kb (by omega) n1).trans (hg2.block kb (by omega) (fun e => by cases e; omega))).trans (hw1.block kb hkl))
  rw [hA]
  refine ⟨⟨(rk.set 1 _).congr (fun i hi => ?_), h.mlt, ?_, fun x hx => ?_, fun x hx hm => ?_, ?_, fun k hk => ?_⟩, ?_⟩
  · match i, hi with
    | 0, _ => rfl
    | 1, _ => rfl
  · have hm : w3.ownsMap Tryz.prog 77 (plainElem Tryz.prog 3) mb (ord.length + 1) (D.put (kq q) (.lit (.int .i64 (ord.length : Int)))) := ((hown2.alloc o2).drew).kept hg3 nm
    have hm' := hm.setCell (a := ⟨kb, 1, none⟩) (by show mb ≠ kb; omega) (.slice (some ⟨gg, 0, none⟩) (ord.length + 1) cap3)
    simpa using hm'
  · by_cases z : x = q
    · subst z
      rw [Maps.has_put_same h.map.isMap (Tryz.lawM.key (key_q hx))]
      simp
    · have hne : kq x ≠ kq q := fun e => z (kq_inj hq hx e)
      rw [Maps.has_put_other hne, h.has x hx]
      rw [Bool.eq_iff_iff]
      simp only [List.contains_iff_mem, List.mem_append, List.mem_singleton]
      exact ⟨Or.inl, fun y => y.elim id (fun y => absurd y z)⟩
  · by_cases z : x = q
    · subst z
      rw [Maps.atKey_put_same h.map.isMap (Tryz.lawM.key (key_q hx)), List.idxOf_append, if_neg hna]
      simp
    · have hne : kq x ≠ kq q := fun e => z (kq_inj hq hx e)
      rw [Maps.atKey_put_other hne]
      have hm' : x ∈ ord := by
        rcases List.mem_append.1 hm with y | y
        · exact y
        · simp at y; exact absurd y z
      rw [h.val x hx hm', List.idxOf_append, if_pos hm']
  · rw [qcells_snoc]
    have := ownsRow_setCell_below hown3 (a := ⟨kb, 1, none⟩) (by show kb < kb + 1; omega) (.slice (some ⟨gg, 0, none⟩) (ord.length + 1) cap3)
    simpa using this
  · obtain ⟨f1, f2, f3, f4⟩ := h.far k hk
    refine ⟨by simp [World.setCell]; omega, f2, f3, ?_⟩
    rcases hat with hat | hat
    · rw [hat] at f4; simpa [Value.ownBlock] using f4
    · simp [Value.ownBlock]; omega
  · refine ⟨?_, ?_, ?_, by simp [World.setCell]; omega, fun k hk => ?_⟩
    · exact hg3.os.trans (hg2.os.trans hw1.os)
    · exact hg3.tape.trans (hg2.tape.trans hw1.tape)
    · exact hg3.output.trans (hg2.output.trans hw1.output)
    · obtain ⟨f1, f2, f3, f4⟩ := h.far k hk
      rw [Below.heap_setCell _ _ _ _ (by show k ≠ kb; exact f2), b3 k (by omega) f4, hg2.block k (by omega) (fun e => by cases e; exact f3 rfl), hw1.block k f1]

set_option maxRecDepth 100000 in
set_option maxHeartbeats 4000000 in
theorem kq_number (kb mb : Nat) (ov : Value) (D : DataW Unit) (ord : List (Int × List UInt8)) (keep : Nat → Prop) (q : Int × List UInt8) (w : World) (h : KnQ w kb mb ov D ord keep) (hq : SmQ q) (ho : ord.length ≤ 100000000) :
    Calls Tryz.prog 39 #[.pointer (some ⟨kb, 0, none⟩), .agg #[.int .i64 q.1, .string ⟨q.2.toArray⟩]] w fun e w' =>
      ∃ (ov' : Value) (D' : DataW Unit), e = .returned (.tuple #[.int .i64 ((addM ord q).idxOf q : Int), .bool (!ord.contains q)]) ∧ KnQ w' kb mb ov' D' (addM ord q) keep ∧ Kept keep w w' := by
  obtain ⟨v, hlk, hat0⟩ := look_q (h.map.alloc (.cells #[.int .i64 q.1, .string ⟨q.2.toArray⟩] 77)) hq
  rw [h.has q hq] at hlk
  obtain ⟨oa, cap, rfl⟩ := own_form h.own
  have hR := h.row.alloc (.cells #[.int .i64 q.1, .string ⟨q.2.toArray⟩] 77)
  have c0 : (w.alloc (.cells #[.int .i64 q.1, .string ⟨q.2.toArray⟩] 77)).cell? ⟨kb, 0, none⟩ = some (.map (some mb)) := hR.cell (i := 0) (by omega)
  have c1 : (w.alloc (.cells #[.int .i64 q.1, .string ⟨q.2.toArray⟩] 77)).cell? ⟨kb, 1, none⟩ = some (.slice oa ord.length cap) := hR.cell (i := 1) (by omega)
  have HH : Hid (KnQ w kb mb (.slice oa ord.length cap) D ord keep) := h
  have hkl := h.row.lt
  clear h hR
  cases hcon : ord.contains q
  · have HC : Hid (ord.contains q = false) := hcon
    have HXN : Hid ((addM ord q).idxOf q = ord.length) := by
      have hna : q ∉ ord := fun hm => by rw [List.contains_iff_mem.2 hm] at hcon; cases hcon
      show (addM ord q).idxOf q = ord.length
      unfold addM; rw [hcon]
      simp [List.idxOf_append, hna]
    rw [hcon] at hlk
    clear hcon
    go_enter Tryz.func39, Tryz.ntmps39
    go_wp2
    go_quiet (fail)
    go_wp2
    obtain ⟨i0, hi0, hz0, hz1, hz2⟩ := info_parts Tryz.infoM
    have hM : ((w.alloc (.cells #[.int .i64 q.1, .string ⟨q.2.toArray⟩] 77)).drewN (nq + 1)).ownsMap Tryz.prog 77 (plainElem Tryz.prog 3) mb ord.length D := HH.out.map.alloc _
    obtain ⟨w2, hrun, hown2, hg2⟩ := hM.update Tryz.lawM Tryz.underlying89 (by unfold maxLen; omega) (key_q hq) (plainElem_int Tryz.underlying3 (a := (ord.length : Int)) (WalkArith.wf_i64 (by omega)))
    simp only [qv] at hrun
    clear hM hlk
    go_region
    go_wp2
    have hK := HH.out
    have hs0 : ((w.alloc (.cells #[.int .i64 q.1, .string ⟨q.2.toArray⟩] 77)).drewN (nq + 1)).heap.size = w.heap.size + 1 := by simp
    have hs2 := hg2.size
    have hml := hK.mlt
    have OWN : w2.ownsRow (kb + 1) 77 2 (.slice oa ord.length cap) ord.length (qcells ord) := own_kept (w := (w.alloc (.cells #[.int .i64 q.1, .string ⟨q.2.toArray⟩] 77)).drewN (nq + 1)) (hK.own.alloc _) hg2 (fun k e => by cases e; omega)
    have r2 : w2.rowIs kb 92 2 (v2 (.map (some mb)) (.slice oa ord.length cap)) := (hK.row.alloc (.cells #[.int .i64 q.1, .string ⟨q.2.toArray⟩] 77)).of_block (hg2.block kb (by rw [hs0]; omega) (fun e => by cases e; omega))
    have rB : w2.rowIs w.heap.size 77 2 (v2 (.int .i64 q.1) (.string ⟨q.2.toArray⟩)) := (row2 w (.int .i64 q.1) (.string ⟨q.2.toArray⟩) 77).of_block (hg2.block w.heap.size (by rw [hs0]; omega) (fun e => by cases e; omega))
    have n1 : some kb ≠ (Value.slice oa ord.length cap).ownBlock := fun e => by have := (hK.own.lt kb e.symm).1; omega
    have nB : some w.heap.size ≠ (Value.slice oa ord.length cap).ownBlock := fun e => by have := (hK.own.lt w.heap.size e.symm).2; omega
    have d1 : w2.cell? ⟨kb, 1, none⟩ = some (.slice oa ord.length cap) := r2.cell (i := 1) (by omega)
    have d2 := r2.frozen 1
    have d1' : ((w2.alloc (.cells #[.int .i64 q.1, .string ⟨q.2.toArray⟩] 77)).drew).cell? ⟨kb, 1, none⟩ = some (.slice oa ord.length cap) := (r2.alloc (.cells #[.int .i64 q.1, .string ⟨q.2.toArray⟩] 77)).cell (i := 1) (by omega)
    have d2' : ((w2.alloc (.cells #[.int .i64 q.1, .string ⟨q.2.toArray⟩] 77)).drew).frozen? ⟨kb, 1, none⟩ = false := (r2.alloc (.cells #[.int .i64 q.1, .string ⟨q.2.toArray⟩] 77)).frozen 1
    have e0 : w2.cell? ⟨w.heap.size, 0, none⟩ = some (.int .i64 q.1) := rB.cell (i := 0) (by omega)
    have e1 : w2.cell? ⟨w.heap.size, 1, none⟩ = some (.string ⟨q.2.toArray⟩) := rB.cell (i := 1) (by omega)
    have hlt2 : w.heap.size < w2.heap.size := by omega
    have hkl2 : kb < w2.heap.size := by omega
    have hbs : kb + 1 ≤ w2.heap.size := by omega
    have hbb : (ord.length + 1) * 24 ≤ 140737488355328 := by omega
    have hml2 : ord.length + 1 ≤ maxLen := by unfold maxLen; omega
    clear hrun c0 c1 hK hs0 hs2
    go_region_law (refine step_append_lies _ (by rfl) _ _ _ (by rfl) (kb + 1) 77 i0 _ 2 24 Tryz.underlying90 hi0 hz0 hz1 hz2 rfl (by omega) (.slice oa ord.length cap) ord.length (qcells ord) (by rfl) ((OWN.alloc _).drew) ⟨w2.heap.size, 0, none⟩ 1 1 [.int .i64 q.1, .string ⟨q.2.toArray⟩] (by rfl) (by rfl) (World.news_of_block (cs := #[.int .i64 q.1, .string ⟨q.2.toArray⟩]) (t := 77) (fr := (0, 0)) (heap_alloc_new w2 _)) (by simp [Value.oneCell']) (by omega) hml2 hbb (by simp; omega) (w2.heap.size + 1) (by simp) ?_; intro gg cap3 w3 hown3 hg3 hat hlt3; have f1 : w3.cell? ⟨kb, 1, none⟩ = some (.slice oa ord.length cap) := (hg3.cell_far ⟨kb, 1, none⟩ (by simp; omega) n1).trans d1'; have f2 : w3.frozen? ⟨kb, 1, none⟩ = false := (hg3.frozen_far ⟨kb, 1, none⟩ (by simp; omega) n1).trans d2')
    all_goals
      have FIN := knq_step HH.out hq HC.out (w1 := (w.alloc (.cells #[.int .i64 q.1, .string ⟨q.2.toArray⟩] 77)).drewN (nq + 1)) ⟨rfl, rfl, rfl, by simp, fun k hk => Below.heap_alloc _ _ _ hk⟩ (by simp) hown2 hg2 hown3 hg3 hat
      clear hown2 hg2 hown3 hg3 hat f1 f2 d1 d2 e0 e1 d1' d2' OWN r2 rB
      go_wp2
      go_ret2
      exact ⟨_, _, by rw [HXN.out]; rfl, FIN.1, FIN.2⟩
  · have HXN : Hid (v = (ord.idxOf q : Int)) := by
      have hm : q ∈ ord := by simpa using hcon
      have := HH.out.val q hq hm
      rw [hat0] at this
      show v = (ord.idxOf q : Int)
      simpa using this
    have HA : Hid (addM ord q = ord) := by show (if ord.contains q then ord else _) = ord; rw [if_pos hcon]
    rw [hcon] at hlk
    clear hcon
    go_enter Tryz.func39, Tryz.ntmps39
    go_wp2
    go_quiet (fail)
    go_wp2
    go_ret2
    have hK := HH.out
    refine ⟨.slice oa ord.length cap, D, by rw [HA.out, ← HXN.out]; rfl, ?_, ?_⟩
    · rw [HA.out]
      refine ⟨hK.row.alloc _, hK.mlt, hK.map.alloc _, hK.has, hK.val, hK.own.alloc _, fun k hk => ?_⟩
      obtain ⟨f1, f2, f3, f4⟩ := hK.far k hk
      exact ⟨by simp; omega, f2, f3, f4⟩
    · exact ⟨rfl, rfl, rfl, by simp, fun k hk => Below.heap_alloc _ _ _ (hK.far k hk).1⟩


end Go.Proofs.YtmcbmcjbgjnbhaaGreatDoor

namespace Go.Proofs.YtmcbmcjbgjnbhaaGreatDoor
open Go.RowKit Go.Maps

def KnU (w : World) (kb mb : Nat) (ov : Value) (ord : List (Int × List UInt8)) : Prop := ∃ D, KnQ w kb mb ov D ord (fun _ => False)

theorem KnU.ids {w : World} {kb mb : Nat} {ov : Value} {ord : List (Int × List UInt8)} (h : KnU w kb mb ov ord) : mb < kb ∧ kb < w.heap.size ∧ ∀ b, ov.ownBlock = some b → kb < b ∧ b < w.heap.size := by
  obtain ⟨D, h⟩ := h
  exact ⟨h.mlt, h.row.lt, fun b e => ⟨by have := (h.own.lt b e).1; omega, (h.own.lt b e).2⟩⟩
theorem KnU.but {S : List Nat} {w w' : World} {kb mb : Nat} {ov : Value} {ord : List (Int × List UInt8)} (h : KnU w kb mb ov ord) (hb : But S w w') (h1 : kb ∉ S) (h2 : mb ∉ S) (h3 : ∀ b, ov.ownBlock = some b → b ∉ S) : KnU w' kb mb ov ord := by
  obtain ⟨D, h⟩ := h
  refine ⟨D, h.row.of_block (hb.block kb h.row.lt h1), h.mlt, ?_, h.has, h.val, ?_, fun k hk => hk.elim⟩
  · obtain ⟨es, clock, he, F, hn, hD⟩ := h.map
    have hlt := h.map.lt
    exact ⟨es, clock, (hb.block mb hlt h2).trans he, F, hn, hD⟩
  · exact own_block h.own (fun k e => hb.block k (h.own.lt k e.symm).2 (h3 k e.symm))
theorem KnQ.all {w : World} {kb mb : Nat} {ov : Value} {D : DataW Unit} {ord : List (Int × List UInt8)} {keep : Nat → Prop} (h : KnQ w kb mb ov D ord keep) : KnQ w kb mb ov D ord (fun k => k < w.heap.size ∧ k ≠ kb ∧ k ≠ mb ∧ some k ≠ ov.ownBlock) :=
  ⟨h.row, h.mlt, h.map, h.has, h.val, h.own, fun _ hk => hk⟩
theorem KnU.own {w : World} {kb mb : Nat} {ov : Value} {ord : List (Int × List UInt8)} (h : KnU w kb mb ov ord) : w.ownsRow (kb + 1) 77 2 ov ord.length (qcells ord) := by
  obtain ⟨D, h⟩ := h
  exact h.own

theorem ku_new (w : World) : Calls Tryz.prog 38 #[] w fun e w' => e = .returned (.pointer (some ⟨w.heap.size + 1, 0, none⟩)) ∧ KnU w' (w.heap.size + 1) w.heap.size (.slice none 0 0) [] ∧ But [] w w' := by
  refine (kq_new w (fun k => k < w.heap.size) (fun _ h => h)).mono ?_
  rintro e w' ⟨he, hk, hp⟩
  exact ⟨he, ⟨_, hk.row, hk.mlt, hk.map, hk.has, hk.val, hk.own, fun _ h => h.elim⟩, ⟨hp.os, hp.tape, hp.output, hp.size, fun k hk _ => hp.block k hk⟩⟩
theorem ku_number (kb mb : Nat) (ov : Value) (ord : List (Int × List UInt8)) (q : Int × List UInt8) (w : World) (h : KnU w kb mb ov ord) (hq : SmQ q) (ho : ord.length ≤ 100000000) :
    Calls Tryz.prog 39 #[.pointer (some ⟨kb, 0, none⟩), .agg #[.int .i64 q.1, .string ⟨q.2.toArray⟩]] w fun e w' =>
      ∃ (x : Int) (ov' : Value), e = .returned (.tuple #[.int .i64 x, .bool (!ord.contains q)]) ∧ KnU w' kb mb ov' (addM ord q) ∧ But (kb :: mb :: ov.ownBlock.toList) w w' ∧ ∀ b, ov'.ownBlock = some b → ov.ownBlock = some b ∨ w.heap.size ≤ b := by
  obtain ⟨D, h⟩ := h
  refine (kq_number kb mb ov D ord _ q w h.all hq ho).mono ?_
  rintro e w' ⟨ov', D', he, hk, hp⟩
  refine ⟨_, ov', he, ⟨D', hk.row, hk.mlt, hk.map, hk.has, hk.val, hk.own, fun _ h => h.elim⟩, ⟨hp.os, hp.tape, hp.output, hp.size, fun k hk hn => hp.block k ⟨hk, fun e => hn (by simp [e]), fun e => hn (by simp [e]), fun e => hn (by simp [← e])⟩⟩, fun b e => ?_⟩
  by_cases hb : b < w.heap.size
  · by_cases h2 : some b = ov.ownBlock
    · exact Or.inl h2.symm
    · have h3 := (hk.own.lt b e).1
      have := hk.mlt
      exact absurd e.symm (hk.far b ⟨hb, by omega, by omega, h2⟩).2.2.2
  · exact Or.inr (by omega)

theorem fstK_cons (ord : List (Int × List UInt8)) (d : DC) (l : List DC) : fstK ord (d :: l) = (!ord.contains (dkey d)) :: fstK (addM ord (dkey d)) l := by
  rw [fstK, addM]
  cases h : ord.contains (dkey d)
  · rfl
  · rfl
theorem fstK_len : ∀ (l : List DC) (ord : List (Int × List UInt8)), (fstK ord l).length = l.length
  | [], _ => rfl
  | d :: l, ord => by rw [fstK_cons, List.length_cons, List.length_cons, fstK_len l]
theorem addM_len (ord : List (Int × List UInt8)) (q : Int × List UInt8) : (addM ord q).length ≤ ord.length + 1 := by
  unfold addM
  split
  · omega
  · simp
/-- Rows of different types lie in different blocks. -/
theorem own_ne {B B' : Nat} {w : World} {v v' : Value} {n n' k k' : Nat} {xs xs' : List Value} {t t' : TypeId} (h : w.ownsRow B t k v n xs) (h' : w.ownsRow B' t' k' v' n' xs') (hne : t ≠ t') {b : Nat} (hb : v.ownBlock = some b) (hb' : v'.ownBlock = some b) : False := by
  rcases h.2 with ⟨rfl, rfl⟩ | ⟨g, cap, cur, rfl, _, hh, _⟩
  · cases hb
  · rcases h'.2 with ⟨rfl, rfl⟩ | ⟨g', cap', cur', rfl, _, hh', _⟩
    · cases hb'
    · have e1 : g = b := by simpa [Value.ownBlock] using hb
      have e2 : g' = b := by simpa [Value.ownBlock] using hb'
      subst e1
      subst e2
      rw [hh] at hh'
      simp only [Option.some.injEq, Obj.cells.injEq] at hh'
      exact hne hh'.2.1
/-- The lists of declarations are lists. -/
def Fm (xs : List (DC × DPl)) : Prop := ∀ x, x ∈ xs → (∃ ta tn tc, x.2.tv = .slice ta tn tc) ∧ ∃ ea en ec, x.2.ev = .slice ea en ec
theorem OD.fm {B : Nat} {w : World} {v : Value} {xs : List (DC × DPl)} (h : OD B w v xs) : Fm xs := fun x hx => by
  obtain ⟨ta, tc, htv⟩ := own_form (h.ok x hx).ty.own
  obtain ⟨ea, ec, hev⟩ := own_form (h.ok x hx).ex.own
  exact ⟨⟨_, _, _, htv⟩, ⟨_, _, _, hev⟩⟩
/-- The four cells of a declaration. -/
theorem dk4 {B : Nat} {w : World} {a : Option Addr} {c n : Nat} {xs : List (DC × DPl)} (h : w.ownsRow B 67 4 (.slice a n c) n (dcsC xs)) (hn : n = xs.length) (hf : Fm xs) {k : Nat} (hk : k < n) : ∃ (g : Nat) (x : DC × DPl) (ta : Option Addr) (tn tc : Nat) (ea : Option Addr) (en ec : Nat), a = some ⟨g, 0, none⟩ ∧ g < w.heap.size ∧ w.cell? ⟨g, k * 4, none⟩ = some (.int .i64 x.1.kind) ∧ w.cell? ⟨g, k * 4 + 1, none⟩ = some (.string x.1.nm) ∧ w.cell? ⟨g, k * 4 + 2, none⟩ = some (.slice ta tn tc) ∧ w.cell? ⟨g, k * 4 + 3, none⟩ = some (.slice ea en ec) ∧ xs[k]? = some x ∧ dcC x = [.int .i64 x.1.kind, .string x.1.nm, .slice ta tn tc, .slice ea en ec] := by
  subst hn
  obtain ⟨g, gc, ev, _, hlt, _⟩ := own_blk h (show 0 < xs.length by omega)
  simp only [Value.slice.injEq] at ev
  obtain ⟨rfl, -, rfl⟩ := ev
  obtain ⟨⟨ta, tn, tc, htv⟩, ea, en, ec, hev⟩ := hf xs[k] (List.getElem_mem hk)
  have hd : dcC xs[k] = [.int .i64 xs[k].1.kind, .string xs[k].1.nm, .slice ta tn tc, .slice ea en ec] := by unfold dcC; rw [htv, hev]
  refine ⟨g, xs[k], ta, tn, tc, ea, en, ec, rfl, hlt, own_at (f := dcC) dcC_len h (j := k) (r := 0) rfl hk (by omega) rfl, own_at (f := dcC) dcC_len h rfl hk (by omega) rfl, ?_, ?_, List.getElem?_eq_getElem hk, hd⟩
  · exact own_at (f := dcC) dcC_len h (j := k) (r := 2) rfl hk (by omega) (by rw [hd]; rfl)
  · exact own_at (f := dcC) dcC_len h (j := k) (r := 3) rfl hk (by omega) (by rw [hd]; rfl)

end Go.Proofs.YtmcbmcjbgjnbhaaGreatDoor

namespace Go.Proofs.YtmcbmcjbgjnbhaaGreatDoor

theorem bl_irr : ∀ a : List UInt8, Op.bytesLess a a = false
  | [] => rfl
  | c :: a => by
    have h : ¬ c < c := by intro h; exact absurd h (by simp)
    simp [Op.bytesLess, bl_irr a]
theorem bl_tri : ∀ a b : List UInt8, Op.bytesLess a b = true ∨ a = b ∨ Op.bytesLess b a = true
  | [], [] => .inr (.inl rfl)
  | [], _ :: _ => .inl rfl
  | _ :: _, [] => .inr (.inr rfl)
  | c :: a, d :: b => by
    rcases Nat.lt_trichotomy c.toNat d.toNat with h | h | h
    · left
      have h1 : c < d := h
      simp [Op.bytesLess, h1]
    · have e : c = d := UInt8.toNat.inj h
      subst e
      rcases bl_tri a b with h1 | h1 | h1
      · left; simp [Op.bytesLess, h1]
      · right; left; rw [h1]
      · right; right; simp [Op.bytesLess, h1]
    · right; right
      have h1 : d < c := h
      simp [Op.bytesLess, h1]
theorem bl_trans : ∀ {a b c : List UInt8}, Op.bytesLess a b = true → Op.bytesLess b c = true → Op.bytesLess a c = true
  | [], [], _, h, _ => by cases h
  | [], _ :: _, [], _, h => by simp [Op.bytesLess] at h
  | [], _ :: _, _ :: _, _, _ => rfl
  | _ :: _, [], _, h, _ => by simp [Op.bytesLess] at h
  | _ :: _, _ :: _, [], _, h => by simp [Op.bytesLess] at h
  | x :: a, y :: b, z :: c, h1, h2 => by
    simp only [Op.bytesLess, Bool.or_eq_true, decide_eq_true_eq, Bool.and_eq_true, beq_iff_eq] at h1 h2 ⊢
    rcases h1 with h1 | ⟨rfl, h1⟩
    · rcases h2 with h2 | ⟨rfl, _⟩
      · exact .inl (UInt8.lt_trans h1 h2)
      · exact .inl h1
    · rcases h2 with h2 | ⟨rfl, h2⟩
      · exact .inl h2
      · exact .inr ⟨rfl, bl_trans h1 h2⟩
theorem lt_irr (a : ByteArray) : lt a a = false := bl_irr _
theorem lt_tr {a b c : ByteArray} (h1 : lt a b = true) (h2 : lt b c = true) : lt a c = true := bl_trans h1 h2
theorem lt_tri (a b : ByteArray) : lt a b = true ∨ a = b ∨ lt b a = true := by
  rcases bl_tri a.toList b.toList with h | h | h
  · exact .inl h
  · right; left
    rw [ByteArray.toList_eq, ByteArray.toList_eq] at h
    exact ba_ext h
  · exact .inr (.inr h)
/-- The least of those that are left. -/
def bestN (out : List ByteArray) : List ByteArray → Option ByteArray → Option ByteArray
  | [], b => b
  | x :: l, b => bestN out l (if hasN out x then b else match b with
    | none => some x
    | some y => if lt x y then some x else some y)
theorem bestN_snoc (out l : List ByteArray) (x : ByteArray) (b : Option ByteArray) : bestN out (l ++ [x]) b = (if hasN out x then bestN out l b else match bestN out l b with
    | none => some x
    | some y => if lt x y then some x else some y) := by
  induction l generalizing b with
  | nil => rfl
  | cons a l ih => exact ih _
/-- What the least is. -/
structure Best (out l : List ByteArray) (r : Option ByteArray) : Prop where
  non : r = none → ∀ x, x ∈ l → x ∈ out
  mem : ∀ y, r = some y → y ∈ l ∧ y ∉ out
  least : ∀ y, r = some y → ∀ x, x ∈ l → x ∉ out → lt x y = false
theorem best_all (out : List ByteArray) : ∀ l : List ByteArray, Best out l (bestN out l none) := by
  have key : ∀ n (l : List ByteArray), l.length = n → Best out l (bestN out l none) := by
    intro n
    induction n with
    | zero =>
      intro l hl
      have : l = [] := List.eq_nil_of_length_eq_zero hl
      subst this
      exact ⟨(fun _ x hx => by cases hx), (fun y h => by cases h), (fun y h => by cases h)⟩
    | succ n ih =>
      intro l hl
      have hne : l ≠ [] := by rintro rfl; simp at hl
      obtain ⟨l0, x, rfl⟩ : ∃ l0 x, l = l0 ++ [x] := ⟨l.dropLast, l.getLast hne, (List.dropLast_concat_getLast hne).symm⟩
      have I := ih l0 (by simp at hl; exact hl)
      rw [bestN_snoc]
      obtain ⟨r, hr⟩ : ∃ r, r = bestN out l0 none := ⟨_, rfl⟩
      rw [← hr] at I ⊢
      by_cases hx : hasN out x = true
      · rw [if_pos hx]
        have hxo := hasN_iff.1 hx
        refine ⟨fun e y hy => ?_, fun y e => ?_, fun y e z hz hzo => ?_⟩
        · rcases List.mem_append.1 hy with h | h
          · exact I.non e y h
          · rw [List.mem_singleton.1 h]; exact hxo
        · exact ⟨List.mem_append_left _ (I.mem y e).1, (I.mem y e).2⟩
        · rcases List.mem_append.1 hz with h | h
          · exact I.least y e z h hzo
          · rw [List.mem_singleton.1 h] at hzo; exact absurd hxo hzo
      · rw [if_neg hx]
        have hxo : x ∉ out := fun h => hx (hasN_iff.2 h)
        cases r with
        | none =>
          refine ⟨(fun e => by cases e), fun y e => ?_, fun y e z hz hzo => ?_⟩
          · cases e; exact ⟨List.mem_append_right _ (List.mem_singleton.2 rfl), hxo⟩
          · cases e
            rcases List.mem_append.1 hz with h | h
            · exact absurd (I.non rfl z h) hzo
            · rw [List.mem_singleton.1 h]; exact lt_irr _
        | some y0 =>
          show Best out (l0 ++ [x]) (if lt x y0 = true then some x else some y0)
          split
          · rename_i hlt
            refine ⟨(fun e => by cases e), fun y e => ?_, fun y e z hz hzo => ?_⟩
            · cases e; exact ⟨List.mem_append_right _ (List.mem_singleton.2 rfl), hxo⟩
            · cases e
              rcases List.mem_append.1 hz with h | h
              · have h1 := I.least y0 rfl z h hzo
                cases h2 : lt z x with
                | false => rfl
                | true => rw [lt_tr h2 hlt] at h1; cases h1
              · rw [List.mem_singleton.1 h]; exact lt_irr _
          · rename_i hlt
            refine ⟨(fun e => by cases e), fun y e => ?_, fun y e z hz hzo => ?_⟩
            · cases e; exact ⟨List.mem_append_left _ (I.mem y0 rfl).1, (I.mem y0 rfl).2⟩
            · cases e
              rcases List.mem_append.1 hz with h | h
              · exact I.least y0 rfl z h hzo
              · rw [List.mem_singleton.1 h]
                cases h2 : lt x y0 with
                | false => rfl
                | true => exact absurd h2 hlt
  exact fun l => key _ l rfl
/-- In order. -/
def Srt (S : List ByteArray) : Prop := S.Pairwise fun a b => lt a b = true
/-- The least of those that are left is the next one. -/
theorem best_next {xs S : List ByteArray} (hp : S.Perm xs) (hs : Srt S) {k : Nat} (hk : k < S.length) : bestN (S.take k) xs none = some S[k] := by
  have B := best_all (S.take k) xs
  have hnd : ∀ j (hj : j < S.length), k ≤ j → S[j] ∉ S.take k := fun j hj hkj hm => by
    obtain ⟨i, hi, e⟩ := List.getElem_of_mem hm
    rw [List.length_take] at hi
    rw [List.getElem_take] at e
    have h := List.pairwise_iff_getElem.1 hs i j (by omega) hj (by omega)
    rw [e, lt_irr] at h
    cases h
  cases hb : bestN (S.take k) xs none with
  | none =>
    exact absurd (B.non hb S[k] (hp.mem_iff.1 (List.getElem_mem hk))) (hnd k hk (Nat.le_refl _))
  | some y =>
    obtain ⟨hy1, hy2⟩ := B.mem y hb
    obtain ⟨j, hj, e⟩ := List.getElem_of_mem (hp.mem_iff.2 hy1)
    have hkj : k ≤ j := by
      rcases Nat.lt_or_ge j k with h | h
      · exfalso
        refine hy2 ?_
        rw [← e]
        exact List.mem_take_iff_getElem.2 ⟨j, by omega, rfl⟩
      · exact h
    rcases Nat.lt_or_ge k j with h | h
    · exfalso
      have h1 := List.pairwise_iff_getElem.1 hs k j hk hj h
      have h2 := B.least y hb S[k] (hp.mem_iff.1 (List.getElem_mem hk)) (hnd k hk (Nat.le_refl _))
      rw [e] at h1
      rw [h1] at h2
      cases h2
    · have : j = k := by omega
      subst this
      rw [e]

end Go.Proofs.YtmcbmcjbgjnbhaaGreatDoor

namespace Go.Proofs.YtmcbmcjbgjnbhaaGreatDoor

theorem bl_iff : ∀ a b : List UInt8, Op.bytesLess a b = true ↔ a < b
  | [], [] => by simp [Op.bytesLess]
  | [], _ :: _ => by simp [Op.bytesLess]
  | _ :: _, [] => by simp [Op.bytesLess]
  | x :: a, y :: b => by
    rw [List.cons_lt_cons_iff]
    simp only [Op.bytesLess, Bool.or_eq_true, decide_eq_true_eq, Bool.and_eq_true, beq_iff_eq, bl_iff a b]
def srtN (xs : List ByteArray) : List ByteArray := ((xs.map fun s => s.data.toList).mergeSort fun x y => decide (x ≤ y)).map fun l => ⟨l.toArray⟩
theorem srtN_perm (xs : List ByteArray) : (srtN xs).Perm xs := by
  unfold srtN
  have h := (List.mergeSort_perm (xs.map fun s => s.data.toList) fun x y => decide (x ≤ y)).map fun l : List UInt8 => (⟨l.toArray⟩ : ByteArray)
  refine h.trans ?_
  rw [List.map_map]
  have e : ((fun l : List UInt8 => (⟨l.toArray⟩ : ByteArray)) ∘ fun s : ByteArray => s.data.toList) = id := by
    funext s
    exact ba_ext rfl
  rw [e, List.map_id]
theorem srtN_len (xs : List ByteArray) : (srtN xs).length = xs.length := (srtN_perm xs).length_eq
theorem srtN_srt {xs : List ByteArray} (hn : xs.Nodup) : Srt (srtN xs) := by
  have hnd : (srtN xs).Nodup := (srtN_perm xs).nodup_iff.2 hn
  have hle : ((xs.map fun s => s.data.toList).mergeSort fun x y => decide (x ≤ y)).Pairwise fun x y => x ≤ y := by
    have h := List.pairwise_mergeSort (le := fun x y : List UInt8 => decide (x ≤ y)) (fun a b c h1 h2 => decide_eq_true (List.le_trans (of_decide_eq_true h1) (of_decide_eq_true h2))) (fun a b => by
      rcases List.le_total a b with h | h
      · simp [h]
      · simp [h]) (xs.map fun s => s.data.toList)
    exact h.imp fun h => of_decide_eq_true h
  unfold Srt
  have h1 : (srtN xs).Pairwise fun a b => a.data.toList ≤ b.data.toList := by
    unfold srtN
    rw [List.pairwise_map]
    exact hle
  refine (h1.and hnd).imp fun {a b} h => ?_
  rcases lt_tri a b with h2 | h2 | h2
  · exact h2
  · exact absurd h2 h.2
  · exfalso
    have h3 : b.data.toList < a.data.toList := by
      have := (bl_iff b.toList a.toList).1 h2
      rwa [ByteArray.toList_eq, ByteArray.toList_eq] at this
    exact absurd h.1 (List.not_le.2 h3)

end Go.Proofs.YtmcbmcjbgjnbhaaGreatDoor

