/-
  Merged for the claim: ReC ReD RbP ReE.
-/
import Derived.Test.YtdjkgilohhjfoaaGreatDoorM24
import Derived.Test.YtdjkgilohhjfoaaGreatDoorPfE
import Derived.Test.YtdjkgilohhjfoaaGreatDoorM01
import Derived.Test.YtdjkgilohhjfoaaGreatDoorM02
namespace Go.Proofs.YtdjkgilohhjfoaaGreatDoor
open Go.RowKit Go.Maps

theorem knq_step {w w1 w2 w3 : World} {kb mb : Nat} {oa : Option Addr} {cap gg cap3 : Nat} {D : DataW Unit} {ord : List (Int × List UInt8)} {keep : Nat → Prop} {q : Int × List UInt8} {o2 : Obj}
    (h : KnQ w kb mb (.slice oa ord.length cap) D ord keep) (hq : SmQ q) (hc : ord.contains q = false) (hw1 : Kept (fun k => k < w.heap.size) w w1) (hs1 : w1.heap.size = w.heap.size + 1)
    (hown2 : w2.ownsMap Tryz.prog 77 (plainElem Tryz.prog 3) mb (ord.length + 1) (D.put (kq q) (.lit (.int .i64 (ord.length : Int))))) (hg2 : w1.grownBy w2 (some mb))
    (hown3 : w3.ownsRow (kb + 1) 77 2 (.slice (some ⟨gg, 0, none⟩) (ord.length + 1) cap3) (ord.length + 1) (qcells ord ++ [.int .i64 q.1, .string ⟨q.2.toArray⟩]))
    (hg3 : ((w2.alloc o2).drew).grownBy w3 (Value.slice oa ord.length cap).ownBlock) (hat : (Value.slice oa ord.length cap).ownBlock = some gg ∨ gg = w2.heap.size + 1) :
    KnQ (w3.setCell ⟨kb, 1, none⟩ (.slice (some ⟨gg, 0, none⟩) (ord.length + 1) cap3)) kb mb (.slice (some ⟨gg, 0, none⟩) (ord.length + 1) cap3) (D.put (kq q) (.lit (.int .i64 (ord.length : Int)))) (addM ord q) keep ∧
    Kept keep w (w3.setCell ⟨kb, 1, none⟩ (.slice (some ⟨gg, 0, none⟩) (ord.length + 1) cap3)) := by
  have hA : addM ord q = ord ++ [q] := by unfold addM; rw [hc]; rfl
  have hna : q ∉ ord := fun hm => by rw [List.contains_iff_mem.2 hm] at hc; cases hc
  have hs2 := hg2.size
  have hs3 := hg3.size
  have e3 : ((w2.alloc o2).drew).heap.size = w2.heap.size + 1 := by simp
  have hkl := h.row.lt
  have hml := h.mlt
  have n1 : some kb ≠ (Value.slice oa ord.length cap).ownBlock := fun e => by have := (h.own.lt kb e.symm).1; omega
  have nm : some mb ≠ (Value.slice oa ord.length cap).ownBlock := fun e => by have := (h.own.lt mb e.symm).1; omega
  have b3 : ∀ k, k < w2.heap.size → some k ≠ (Value.slice oa ord.length cap).ownBlock → w3.heap[k]? = w2.heap[k]? := fun k hk hn => (hg3.block k (by rw [e3]; omega) hn).trans (Below.heap_alloc _ _ _ hk)
  have rk : w3.rowIs kb 95 2 (v2 (.map (some mb)) (.slice oa ord.length cap)) :=
    h.row.of_block (((b3 kb (by omega) n1).trans (hg2.block kb (by omega) (fun e => by cases e; omega))).trans (hw1.block kb hkl))
  rw [hA]
  refine ⟨⟨(rk.set 1 _).congr (fun i hi => ?_), h.mlt, ?_, fun x hx => ?_, fun x hx hm => ?_, ?_, fun k hk => ?_⟩, ?_⟩
  · match i, hi with
    | 0, _ => rfl
    | 1, _ => rfl
  · have hm : w3.ownsMap Tryz.prog 77 (plainElem Tryz.prog 3) mb (ord.length + 1) (D.put (kq q) (.lit (.int .i64 (ord.length : Int)))) := ((hown2.alloc o2).drew).kept hg3 nm
    have hm' := hm.setCell (a := ⟨kb, 1, none⟩) (by show mb ≠ kb; omega) (.slice (some ⟨gg, 0, none⟩) (ord.length + 1) cap3)
    simpa using hm'
  · by_cases z : x = q
    · subst z
      rw [Maps.has_put_same h.map.isMap (Tryz.lawM.key (key_q hx))]
      simp
    · have hne : kq x ≠ kq q := fun e => z (kq_inj hq hx e)
      rw [Maps.has_put_other hne, h.has x hx]
      rw [Bool.eq_iff_iff]
      simp only [List.contains_iff_mem, List.mem_append, List.mem_singleton]
      exact ⟨Or.inl, fun y => y.elim id (fun y => absurd y z)⟩
  · by_cases z : x = q
    · subst z
      rw [Maps.atKey_put_same h.map.isMap (Tryz.lawM.key (key_q hx)), List.idxOf_append, if_neg hna]
      simp
    · have hne : kq x ≠ kq q := fun e => z (kq_inj hq hx e)
      rw [Maps.atKey_put_other hne]
      have hm' : x ∈ ord := by
        rcases List.mem_append.1 hm with y | y
        · exact y
        · simp at y; exact absurd y z
      rw [h.val x hx hm', List.idxOf_append, if_pos hm']
  · rw [qcells_snoc]
    have := ownsRow_setCell_below hown3 (a := ⟨kb, 1, none⟩) (by show kb < kb + 1; omega) (.slice (some ⟨gg, 0, none⟩) (ord.length + 1) cap3)
    simpa using this
  · obtain ⟨f1, f2, f3, f4⟩ := h.far k hk
    refine ⟨by simp [World.setCell]; omega, f2, f3, ?_⟩
    rcases hat with hat | hat
    · rw [hat] at f4; simpa [Value.ownBlock] using f4
    · simp [Value.ownBlock]; omega
  · refine ⟨?_, ?_, ?_, by simp [World.setCell]; omega, fun k hk => ?_⟩
    · exact hg3.os.trans (hg2.os.trans hw1.os)
    · exact hg3.tape.trans (hg2.tape.trans hw1.tape)
    · exact hg3.output.trans (hg2.output.trans hw1.output)
    · obtain ⟨f1, f2, f3, f4⟩ := h.far k hk
      rw [Below.heap_setCell _ _ _ _ (by show k ≠ kb; exact f2), b3 k (by omega) f4, hg2.block k (by omega) (fun e => by cases e; exact f3 rfl), hw1.block k f1]

set_option maxRecDepth 100000 in
set_option maxHeartbeats 4000000 in
theorem kq_number (kb mb : Nat) (ov : Value) (D : DataW Unit) (ord : List (Int × List UInt8)) (keep : Nat → Prop) (q : Int × List UInt8) (w : World) (h : KnQ w kb mb ov D ord keep) (hq : SmQ q) (ho : ord.length ≤ 100000000) :
    Calls Tryz.prog 40 #[.pointer (some ⟨kb, 0, none⟩), .agg #[.int .i64 q.1, .string ⟨q.2.toArray⟩]] w fun e w' =>
      ∃ (ov' : Value) (D' : DataW Unit), e = .returned (.tuple #[.int .i64 ((addM ord q).idxOf q : Int), .bool (!ord.contains q)]) ∧ KnQ w' kb mb ov' D' (addM ord q) keep ∧ Kept keep w w' := by
  obtain ⟨v, hlk, hat0⟩ := look_q (h.map.alloc (.cells #[.int .i64 q.1, .string ⟨q.2.toArray⟩] 77)) hq
  rw [h.has q hq] at hlk
  obtain ⟨oa, cap, rfl⟩ := own_form h.own
  have hR := h.row.alloc (.cells #[.int .i64 q.1, .string ⟨q.2.toArray⟩] 77)
  have c0 : (w.alloc (.cells #[.int .i64 q.1, .string ⟨q.2.toArray⟩] 77)).cell? ⟨kb, 0, none⟩ = some (.map (some mb)) := hR.cell (i := 0) (by omega)
  have c1 : (w.alloc (.cells #[.int .i64 q.1, .string ⟨q.2.toArray⟩] 77)).cell? ⟨kb, 1, none⟩ = some (.slice oa ord.length cap) := hR.cell (i := 1) (by omega)
  have HH : Hid (KnQ w kb mb (.slice oa ord.length cap) D ord keep) := h
  have hkl := h.row.lt
  clear h hR
  cases hcon : ord.contains q
  · have HC : Hid (ord.contains q = false) := hcon
    have HXN : Hid ((addM ord q).idxOf q = ord.length) := by
      have hna : q ∉ ord := fun hm => by rw [List.contains_iff_mem.2 hm] at hcon; cases hcon
      show (addM ord q).idxOf q = ord.length
      unfold addM; rw [hcon]
      simp [List.idxOf_append, hna]
    rw [hcon] at hlk
    clear hcon
    go_enter Tryz.func40, Tryz.ntmps40
    go_wp2
    go_quiet (fail)
    go_wp2
    obtain ⟨i0, hi0, hz0, hz1, hz2⟩ := info_parts Tryz.infoM
    have hM : ((w.alloc (.cells #[.int .i64 q.1, .string ⟨q.2.toArray⟩] 77)).drewN (nq + 1)).ownsMap Tryz.prog 77 (plainElem Tryz.prog 3) mb ord.length D := HH.out.map.alloc _
    obtain ⟨w2, hrun, hown2, hg2⟩ := hM.update Tryz.lawM Tryz.underlying92 (by unfold maxLen; omega) (key_q hq) (plainElem_int Tryz.underlying3 (a := (ord.length : Int)) (WalkArith.wf_i64 (by omega)))
    simp only [qv] at hrun
    clear hM hlk
    go_region
    go_wp2
    have hK := HH.out
    have hs0 : ((w.alloc (.cells #[.int .i64 q.1, .string ⟨q.2.toArray⟩] 77)).drewN (nq + 1)).heap.size = w.heap.size + 1 := by simp
    have hs2 := hg2.size
    have hml := hK.mlt
    have OWN : w2.ownsRow (kb + 1) 77 2 (.slice oa ord.length cap) ord.length (qcells ord) := own_kept (w := (w.alloc (.cells #[.int .i64 q.1, .string ⟨q.2.toArray⟩] 77)).drewN (nq + 1)) (hK.own.alloc _) hg2 (fun k e => by cases e; omega)
    have r2 : w2.rowIs kb 95 2 (v2 (.map (some mb)) (.slice oa ord.length cap)) := (hK.row.alloc (.cells #[.int .i64 q.1, .string ⟨q.2.toArray⟩] 77)).of_block (hg2.block kb (by rw [hs0]; omega) (fun e => by cases e; omega))
    have rB : w2.rowIs w.heap.size 77 2 (v2 (.int .i64 q.1) (.string ⟨q.2.toArray⟩)) := (row2 w (.int .i64 q.1) (.string ⟨q.2.toArray⟩) 77).of_block (hg2.block w.heap.size (by rw [hs0]; omega) (fun e => by cases e; omega))
    have n1 : some kb ≠ (Value.slice oa ord.length cap).ownBlock := fun e => by have := (hK.own.lt kb e.symm).1; omega
    have nB : some w.heap.size ≠ (Value.slice oa ord.length cap).ownBlock := fun e => by have := (hK.own.lt w.heap.size e.symm).2; omega
    have d1 : w2.cell? ⟨kb, 1, none⟩ = some (.slice oa ord.length cap) := r2.cell (i := 1) (by omega)
    have d2 := r2.frozen 1
    have d1' : ((w2.alloc (.cells #[.int .i64 q.1, .string ⟨q.2.toArray⟩] 77)).drew).cell? ⟨kb, 1, none⟩ = some (.slice oa ord.length cap) := (r2.alloc (.cells #[.int .i64 q.1, .string ⟨q.2.toArray⟩] 77)).cell (i := 1) (by omega)
    have d2' : ((w2.alloc (.cells #[.int .i64 q.1, .string ⟨q.2.toArray⟩] 77)).drew).frozen? ⟨kb, 1, none⟩ = false := (r2.alloc (.cells #[.int .i64 q.1, .string ⟨q.2.toArray⟩] 77)).frozen 1
    have e0 : w2.cell? ⟨w.heap.size, 0, none⟩ = some (.int .i64 q.1) := rB.cell (i := 0) (by omega)
    have e1 : w2.cell? ⟨w.heap.size, 1, none⟩ = some (.string ⟨q.2.toArray⟩) := rB.cell (i := 1) (by omega)
    have hlt2 : w.heap.size < w2.heap.size := by omega
    have hkl2 : kb < w2.heap.size := by omega
    have hbs : kb + 1 ≤ w2.heap.size := by omega
    have hbb : (ord.length + 1) * 24 ≤ 140737488355328 := by omega
    have hml2 : ord.length + 1 ≤ maxLen := by unfold maxLen; omega
    clear hrun c0 c1 hK hs0 hs2
    go_region_law (refine step_append_lies _ (by rfl) _ _ _ (by rfl) (kb + 1) 77 i0 _ 2 24 Tryz.underlying93 hi0 hz0 hz1 hz2 rfl (by omega) (.slice oa ord.length cap) ord.length (qcells ord) (by rfl) ((OWN.alloc _).drew) ⟨w2.heap.size, 0, none⟩ 1 1 [.int .i64 q.1, .string ⟨q.2.toArray⟩] (by rfl) (by rfl) (World.news_of_block (cs := #[.int .i64 q.1, .string ⟨q.2.toArray⟩]) (t := 77) (fr := (0, 0)) (heap_alloc_new w2 _)) (by simp [Value.oneCell']) (by omega) hml2 hbb (by simp; omega) (w2.heap.size + 1) (by simp) ?_; intro gg cap3 w3 hown3 hg3 hat hlt3; have f1 : w3.cell? ⟨kb, 1, none⟩ = some (.slice oa ord.length cap) := (hg3.cell_far ⟨kb, 1, none⟩ (by simp; omega) n1).trans d1'; have f2 : w3.frozen? ⟨kb, 1, none⟩ = false := (hg3.frozen_far ⟨kb, 1, none⟩ (by simp; omega) n1).trans d2')
    all_goals
      have FIN := knq_step HH.out hq HC.out (w1 := (w.alloc (.cells #[.int .i64 q.1, .string ⟨q.2.toArray⟩] 77)).drewN (nq + 1)) ⟨rfl, rfl, rfl, by simp, fun k hk => Below.heap_alloc _ _ _ hk⟩ (by simp) hown2 hg2 hown3 hg3 hat
      clear hown2 hg2 hown3 hg3 hat f1 f2 d1 d2 e0 e1 d1' d2' OWN r2 rB
      go_wp2
      go_ret2
      exact ⟨_, _, by rw [HXN.out]; rfl, FIN.1, FIN.2⟩
  · have HXN : Hid (v = (ord.idxOf q : Int)) := by
      have hm : q ∈ ord := by simpa using hcon
      have := HH.out.val q hq hm
      rw [hat0] at this
      show v = (ord.idxOf q : Int)
      simpa using this
    have HA : Hid (addM ord q = ord) := by show (if ord.contains q then ord else _) = ord; rw [if_pos hcon]
    rw [hcon] at hlk
    clear hcon
    go_enter Tryz.func40, Tryz.ntmps40
    go_wp2
    go_quiet (fail)
    go_wp2
    go_ret2
    have hK := HH.out
    refine ⟨.slice oa ord.length cap, D, by rw [HA.out, ← HXN.out]; rfl, ?_, ?_⟩
    · rw [HA.out]
      refine ⟨hK.row.alloc _, hK.mlt, hK.map.alloc _, hK.has, hK.val, hK.own.alloc _, fun k hk => ?_⟩
      obtain ⟨f1, f2, f3, f4⟩ := hK.far k hk
      exact ⟨by simp; omega, f2, f3, f4⟩
    · exact ⟨rfl, rfl, rfl, by simp, fun k hk => Below.heap_alloc _ _ _ (hK.far k hk).1⟩


end Go.Proofs.YtdjkgilohhjfoaaGreatDoor

namespace Go.Proofs.YtdjkgilohhjfoaaGreatDoor
open Go.RowKit Go.Maps

def KnU (w : World) (kb mb : Nat) (ov : Value) (ord : List (Int × List UInt8)) : Prop := ∃ D, KnQ w kb mb ov D ord (fun _ => False)

theorem KnU.ids {w : World} {kb mb : Nat} {ov : Value} {ord : List (Int × List UInt8)} (h : KnU w kb mb ov ord) : mb < kb ∧ kb < w.heap.size ∧ ∀ b, ov.ownBlock = some b → kb < b ∧ b < w.heap.size := by
  obtain ⟨D, h⟩ := h
  exact ⟨h.mlt, h.row.lt, fun b e => ⟨by have := (h.own.lt b e).1; omega, (h.own.lt b e).2⟩⟩
theorem KnU.but {S : List Nat} {w w' : World} {kb mb : Nat} {ov : Value} {ord : List (Int × List UInt8)} (h : KnU w kb mb ov ord) (hb : But S w w') (h1 : kb ∉ S) (h2 : mb ∉ S) (h3 : ∀ b, ov.ownBlock = some b → b ∉ S) : KnU w' kb mb ov ord := by
  obtain ⟨D, h⟩ := h
  refine ⟨D, h.row.of_block (hb.block kb h.row.lt h1), h.mlt, ?_, h.has, h.val, ?_, fun k hk => hk.elim⟩
  · obtain ⟨es, clock, he, F, hn, hD⟩ := h.map
    have hlt := h.map.lt
    exact ⟨es, clock, (hb.block mb hlt h2).trans he, F, hn, hD⟩
  · exact own_block h.own (fun k e => hb.block k (h.own.lt k e.symm).2 (h3 k e.symm))
theorem KnQ.all {w : World} {kb mb : Nat} {ov : Value} {D : DataW Unit} {ord : List (Int × List UInt8)} {keep : Nat → Prop} (h : KnQ w kb mb ov D ord keep) : KnQ w kb mb ov D ord (fun k => k < w.heap.size ∧ k ≠ kb ∧ k ≠ mb ∧ some k ≠ ov.ownBlock) :=
  ⟨h.row, h.mlt, h.map, h.has, h.val, h.own, fun _ hk => hk⟩
theorem KnU.own {w : World} {kb mb : Nat} {ov : Value} {ord : List (Int × List UInt8)} (h : KnU w kb mb ov ord) : w.ownsRow (kb + 1) 77 2 ov ord.length (qcells ord) := by
  obtain ⟨D, h⟩ := h
  exact h.own

theorem ku_new (w : World) : Calls Tryz.prog 39 #[] w fun e w' => e = .returned (.pointer (some ⟨w.heap.size + 1, 0, none⟩)) ∧ KnU w' (w.heap.size + 1) w.heap.size (.slice none 0 0) [] ∧ But [] w w' := by
  refine (kq_new w (fun k => k < w.heap.size) (fun _ h => h)).mono ?_
  rintro e w' ⟨he, hk, hp⟩
  exact ⟨he, ⟨_, hk.row, hk.mlt, hk.map, hk.has, hk.val, hk.own, fun _ h => h.elim⟩, ⟨hp.os, hp.tape, hp.output, hp.size, fun k hk _ => hp.block k hk⟩⟩
theorem ku_number (kb mb : Nat) (ov : Value) (ord : List (Int × List UInt8)) (q : Int × List UInt8) (w : World) (h : KnU w kb mb ov ord) (hq : SmQ q) (ho : ord.length ≤ 100000000) :
    Calls Tryz.prog 40 #[.pointer (some ⟨kb, 0, none⟩), .agg #[.int .i64 q.1, .string ⟨q.2.toArray⟩]] w fun e w' =>
      ∃ (x : Int) (ov' : Value), e = .returned (.tuple #[.int .i64 x, .bool (!ord.contains q)]) ∧ KnU w' kb mb ov' (addM ord q) ∧ But (kb :: mb :: ov.ownBlock.toList) w w' ∧ ∀ b, ov'.ownBlock = some b → ov.ownBlock = some b ∨ w.heap.size ≤ b := by
  obtain ⟨D, h⟩ := h
  refine (kq_number kb mb ov D ord _ q w h.all hq ho).mono ?_
  rintro e w' ⟨ov', D', he, hk, hp⟩
  refine ⟨_, ov', he, ⟨D', hk.row, hk.mlt, hk.map, hk.has, hk.val, hk.own, fun _ h => h.elim⟩, ⟨hp.os, hp.tape, hp.output, hp.size, fun k hk hn => hp.block k ⟨hk, fun e => hn (by simp [e]), fun e => hn (by simp [e]), fun e => hn (by simp [← e])⟩⟩, fun b e => ?_⟩
  by_cases hb : b < w.heap.size
  · by_cases h2 : some b = ov.ownBlock
    · exact Or.inl h2.symm
    · have h3 := (hk.own.lt b e).1
      have := hk.mlt
      exact absurd e.symm (hk.far b ⟨hb, by omega, by omega, h2⟩).2.2.2
  · exact Or.inr (by omega)

theorem fstK_cons (ord : List (Int × List UInt8)) (d : DC) (l : List DC) : fstK ord (d :: l) = (!ord.contains (dkey d)) :: fstK (addM ord (dkey d)) l := by
  rw [fstK, addM]
  cases h : ord.contains (dkey d)
  · rfl
  · rfl
theorem fstK_len : ∀ (l : List DC) (ord : List (Int × List UInt8)), (fstK ord l).length = l.length
  | [], _ => rfl
  | d :: l, ord => by rw [fstK_cons, List.length_cons, List.length_cons, fstK_len l]
theorem addM_len (ord : List (Int × List UInt8)) (q : Int × List UInt8) : (addM ord q).length ≤ ord.length + 1 := by
  unfold addM
  split
  · omega
  · simp
/-- Rows of different types lie in different blocks. -/
theorem own_ne {B B' : Nat} {w : World} {v v' : Value} {n n' k k' : Nat} {xs xs' : List Value} {t t' : TypeId} (h : w.ownsRow B t k v n xs) (h' : w.ownsRow B' t' k' v' n' xs') (hne : t ≠ t') {b : Nat} (hb : v.ownBlock = some b) (hb' : v'.ownBlock = some b) : False := by
  rcases h.2 with ⟨rfl, rfl⟩ | ⟨g, cap, cur, rfl, _, hh, _⟩
  · cases hb
  · rcases h'.2 with ⟨rfl, rfl⟩ | ⟨g', cap', cur', rfl, _, hh', _⟩
    · cases hb'
    · have e1 : g = b := by simpa [Value.ownBlock] using hb
      have e2 : g' = b := by simpa [Value.ownBlock] using hb'
      subst e1
      subst e2
      rw [hh] at hh'
      simp only [Option.some.injEq, Obj.cells.injEq] at hh'
      exact hne hh'.2.1
/-- The lists of declarations are lists. -/
def Fm (xs : List (DC × DPl)) : Prop := ∀ x, x ∈ xs → (∃ ta tn tc, x.2.tv = .slice ta tn tc) ∧ ∃ ea en ec, x.2.ev = .slice ea en ec
theorem OD.fm {B : Nat} {w : World} {v : Value} {xs : List (DC × DPl)} (h : OD B w v xs) : Fm xs := fun x hx => by
  obtain ⟨ta, tc, htv⟩ := own_form (h.ok x hx).ty.own
  obtain ⟨ea, ec, hev⟩ := own_form (h.ok x hx).ex.own
  exact ⟨⟨_, _, _, htv⟩, ⟨_, _, _, hev⟩⟩
/-- The four cells of a declaration. -/
theorem dk4 {B : Nat} {w : World} {a : Option Addr} {c n : Nat} {xs : List (DC × DPl)} (h : w.ownsRow B 58 4 (.slice a n c) n (dcsC xs)) (hn : n = xs.length) (hf : Fm xs) {k : Nat} (hk : k < n) : ∃ (g : Nat) (x : DC × DPl) (ta : Option Addr) (tn tc : Nat) (ea : Option Addr) (en ec : Nat), a = some ⟨g, 0, none⟩ ∧ g < w.heap.size ∧ w.cell? ⟨g, k * 4, none⟩ = some (.int .i64 x.1.kind) ∧ w.cell? ⟨g, k * 4 + 1, none⟩ = some (.string x.1.nm) ∧ w.cell? ⟨g, k * 4 + 2, none⟩ = some (.slice ta tn tc) ∧ w.cell? ⟨g, k * 4 + 3, none⟩ = some (.slice ea en ec) ∧ xs[k]? = some x ∧ dcC x = [.int .i64 x.1.kind, .string x.1.nm, .slice ta tn tc, .slice ea en ec] := by
  subst hn
  obtain ⟨g, gc, ev, _, hlt, _⟩ := own_blk h (show 0 < xs.length by omega)
  simp only [Value.slice.injEq] at ev
  obtain ⟨rfl, -, rfl⟩ := ev
  obtain ⟨⟨ta, tn, tc, htv⟩, ea, en, ec, hev⟩ := hf xs[k] (List.getElem_mem hk)
  have hd : dcC xs[k] = [.int .i64 xs[k].1.kind, .string xs[k].1.nm, .slice ta tn tc, .slice ea en ec] := by unfold dcC; rw [htv, hev]
  refine ⟨g, xs[k], ta, tn, tc, ea, en, ec, rfl, hlt, own_at (f := dcC) dcC_len h (j := k) (r := 0) rfl hk (by omega) rfl, own_at (f := dcC) dcC_len h rfl hk (by omega) rfl, ?_, ?_, List.getElem?_eq_getElem hk, hd⟩
  · exact own_at (f := dcC) dcC_len h (j := k) (r := 2) rfl hk (by omega) (by rw [hd]; rfl)
  · exact own_at (f := dcC) dcC_len h (j := k) (r := 3) rfl hk (by omega) (by rw [hd]; rfl)

end Go.Proofs.YtdjkgilohhjfoaaGreatDoor

namespace Go.Proofs.YtdjkgilohhjfoaaGreatDoor

theorem tx_in (ts : List TK) (i : Nat) : tx ts i = e0 ∨ ∃ t, t ∈ ts ∧ tx ts i = t.txt := by
  unfold tx
  cases h : ts[i]? with
  | none => exact .inl rfl
  | some t => exact .inr ⟨t, List.mem_of_getElem? h, rfl⟩
theorem decl_nm (st : Bool) (ts : List TK) : (declP st ts).nm = e0 ∨ ∃ t, t ∈ ts ∧ (declP st ts).nm = t.txt := by
  have h := tx_in ts 1
  unfold declP
  repeat' split
  all_goals first | exact .inl rfl | exact h
theorem decs_nm (st : Bool) : ∀ (f : Nat) (ts : List TK), (∀ t, t ∈ ts → t.txt.size ≤ 1000) → ∀ d, d ∈ decs st f ts → d.nm.size ≤ 1000
  | 0, _, _, d, hd => by cases hd
  | f + 1, ts, h, d, hd => by
    rw [decs] at hd
    split at hd
    · cases hd
    · cases e : semi ts with
      | none =>
        rw [e] at hd
        rw [List.mem_singleton.1 hd]
        exact Nat.zero_le _
      | some k =>
        rw [e] at hd
        rcases List.mem_cons.1 hd with z | z
        · rw [z]
          rcases decl_nm st (ts.take k) with y | ⟨t, ht, y⟩
          · rw [y]; exact Nat.zero_le _
          · rw [y]; exact h t (List.mem_of_mem_take ht)
        · exact decs_nm st f _ (fun t ht => h t (List.mem_of_mem_drop ht)) d z
end Go.Proofs.YtdjkgilohhjfoaaGreatDoor

namespace Go.Proofs.YtdjkgilohhjfoaaGreatDoor
open Go.RowKit Go.Maps

theorem decl_kind (st : Bool) (ts : List TK) : 0 ≤ (declP st ts).kind ∧ (declP st ts).kind ≤ 3 := by
  unfold declP
  repeat' split
  all_goals first
    | exact ⟨by decide, by decide⟩
    | exact ⟨show (0 : Int) ≤ 1 by decide, show (1 : Int) ≤ 3 by decide⟩
    | exact ⟨show (0 : Int) ≤ 2 by decide, show (2 : Int) ≤ 3 by decide⟩
    | exact ⟨show (0 : Int) ≤ 3 by decide, show (3 : Int) ≤ 3 by decide⟩
theorem decs_kind (st : Bool) : ∀ (f : Nat) (ts : List TK), ∀ d, d ∈ decs st f ts → 0 ≤ d.kind ∧ d.kind ≤ 3
  | 0, _, d, hd => by cases hd
  | f + 1, ts, d, hd => by
    rw [decs] at hd
    split at hd
    · cases hd
    · cases e : semi ts with
      | none =>
        rw [e] at hd
        rw [List.mem_singleton.1 hd]
        exact ⟨by decide, by decide⟩
      | some k =>
        rw [e] at hd
        rcases List.mem_cons.1 hd with z | z
        · rw [z]; exact decl_kind _ _
        · exact decs_kind st f _ d z
/-- The declarations of a text. -/
def dsT (s : ByteArray) : List DC := decs true ((toks s).length + 1) (toks s)
theorem dsT_sm {s : ByteArray} {d : DC} (h : d ∈ dsT s) : SmQ (dkey d) := by
  have h1 := decs_kind true _ _ d h
  have h2 := decs_nm true _ _ (toks_ok s).sz d h
  refine ⟨WalkArith.wf_i64 ?_, ?_⟩
  · show _ ∧ _
    unfold dkey
    omega
  · unfold dkey maxLen
    show d.nm.size ≤ _
    omega
theorem dsT_len (s : ByteArray) : (dsT s).length ≤ 1000 := by
  have := (decs_sm true ((toks s).length + 1) (toks s)).1
  have := toks_len s
  unfold dsT
  omega

/-- The state of newUnit's loop. -/
structure UL (w1 wr : World) (dv fv ov : Value) (ds : List DC) (k : Nat) (ord : List (Int × List UInt8)) (fl : List Bool) : Prop where
  below : Below w1.heap.size w1 wr
  box : wr.rowIs w1.heap.size 52 3 (v3 dv fv (.slice none 0 0))
  kn : KnU wr (w1.heap.size + 2) (w1.heap.size + 1) ov ord
  own : wr.ownsRow (w1.heap.size + 3) 4 1 fv fl.length (fl.map Value.bool)
  is : fl ++ fstK ord (ds.drop k) = fstK [] ds
  len : fl.length = k
  ol : ord.length ≤ k

theorem toBut {w w' : World} (h : Below w.heap.size w w') : But [] w w' := ⟨h.os, h.tape, h.output, h.size, fun k hk _ => h.block k hk⟩

theorem below_but {w wr w2 : World} {L : List Nat} (h : Below w.heap.size w wr) (hb : But L wr w2) (hL : ∀ b, b ∈ L → w.heap.size ≤ b) : Below w.heap.size w w2 :=
  ⟨hb.os.trans h.os, hb.tape.trans h.tape, hb.output.trans h.output, Nat.le_trans h.size hb.size, fun k hk => (hb.block k (Nat.lt_of_lt_of_le hk h.size) (fun z => by have := hL k z; omega)).trans (h.block k hk)⟩
/-- Behind the numbering of a name. -/
theorem UL.on {w1 wr w2 : World} {dv fv ov : Value} {ds : List DC} {k : Nat} {ord : List (Int × List UInt8)} {fl : List Bool} {o : Obj} (h : UL w1 wr dv fv ov ds k ord fl) (hb : But ((w1.heap.size + 2) :: (w1.heap.size + 1) :: ov.ownBlock.toList) (wr.alloc o) w2) : w2.ownsRow (w1.heap.size + 3) 4 1 fv fl.length (fl.map Value.bool) ∧ w2.rowIs w1.heap.size 52 3 (v3 dv fv (.slice none 0 0)) := by
  have hub := h.box.lt
  have hid := h.kn.ids
  refine ⟨own_block (h.own.alloc o) (fun b e => hb.block b (by have := (h.own.lt b e.symm).2; simp only [World.size_alloc]; omega) (fun hm => by
    have h1 := (h.own.lt b e.symm).1
    simp only [List.mem_cons, Option.mem_toList] at hm
    rcases hm with z | z | z
    · omega
    · omega
    · exact own_ne h.own h.kn.own (by decide) e.symm z)), (h.box.alloc o).of_block (hb.block _ (by simp only [World.size_alloc]; omega) (fun hm => ?_))⟩
  simp only [List.mem_cons, Option.mem_toList] at hm
  rcases hm with z | z | z
  · omega
  · omega
  · have := (hid.2.2 _ z).1; omega
theorem UL.next {w1 wr w2 w3 : World} {dv fv ov ov' : Value} {ds : List DC} {k gg cap3 : Nat} {ord : List (Int × List UInt8)} {fl : List Bool} {d : DC} {o o2 : Obj} (h : UL w1 wr dv fv ov ds k ord fl) (hd : ds[k]? = some d)
    (hkn : KnU w2 (w1.heap.size + 2) (w1.heap.size + 1) ov' (addM ord (dkey d))) (hb : But ((w1.heap.size + 2) :: (w1.heap.size + 1) :: ov.ownBlock.toList) (wr.alloc o) w2)
    (hown : w3.ownsRow (w1.heap.size + 3) 4 1 (.slice (some ⟨gg, 0, none⟩) (fl.length + 1) cap3) (fl.length + 1) (fl.map Value.bool ++ [.bool (!ord.contains (dkey d))])) (hg : (w2.alloc o2).grownBy w3 fv.ownBlock) :
    UL w1 (w3.setCell ⟨w1.heap.size, 1, none⟩ (.slice (some ⟨gg, 0, none⟩) (fl.length + 1) cap3)) dv (.slice (some ⟨gg, 0, none⟩) (fl.length + 1) cap3) ov' ds (k + 1) (addM ord (dkey d)) (fl ++ [!ord.contains (dkey d)]) := by
  have hs := h.below.size
  have hbs := hb.size
  have hgs := hg.size
  have hub := h.box.lt
  have hid := h.kn.ids
  simp only [World.size_alloc] at hbs hgs
  have nS : ∀ b, b ≤ w1.heap.size → b ∉ (w1.heap.size + 2) :: (w1.heap.size + 1) :: ov.ownBlock.toList := fun b hb hm => by
    simp only [List.mem_cons, Option.mem_toList] at hm
    rcases hm with z | z | z
    · omega
    · omega
    · have := (hid.2.2 b z).1; omega
  have f1 : ∀ b, b ≤ w1.heap.size → w3.heap[b]? = wr.heap[b]? := fun b hb1 => by
    rw [hg.block b (by simp only [World.size_alloc]; omega) (fun e => by have := (h.own.lt b e.symm).1; omega), Below.heap_alloc _ _ _ (by omega), hb.block b (by simp only [World.size_alloc]; omega) (nS b hb1), Below.heap_alloc _ _ _ (by omega)]
  have hb3 : But [] w2 (w2.alloc o2) := (But.refl [] w2).alloc o2
  have hids := hkn.ids
  have hofl : w2.ownsRow (w1.heap.size + 3) 4 1 fv fl.length (fl.map Value.bool) := own_block (h.own.alloc o) (fun b e => hb.block b (by have := (h.own.lt b e.symm).2; simp only [World.size_alloc]; omega) (fun hm => by
    have h1 := (h.own.lt b e.symm).1
    simp only [List.mem_cons, Option.mem_toList] at hm
    rcases hm with z | z | z
    · omega
    · omega
    · exact own_ne h.own h.kn.own (by decide) e.symm z))
  refine ⟨?_, ?_, ?_, ?_, ?_, ?_, ?_⟩
  · refine ⟨hg.os.trans (hb.os.trans h.below.os), hg.tape.trans (hb.tape.trans h.below.tape), hg.output.trans (hb.output.trans h.below.output), by rw [World.size_setCell]; omega, fun b hb1 => ?_⟩
    rw [Below.heap_setCell _ _ _ _ (by show b ≠ w1.heap.size; omega), f1 b (by omega)]
    exact h.below.block b hb1
  · refine ((h.box.of_block (f1 _ (Nat.le_refl _))).set 1 _).congr (fun i hi => ?_)
    match i, hi with
    | 0, _ => rfl
    | 1, _ => rfl
    | 2, _ => rfl
  · refine KnU.but (S := [w1.heap.size]) (w := w3) ?_ ((But.refl [w1.heap.size] w3).set (fun _ => by simp) 1 _) (by simp) (by simp) (fun b e => by have := (hids.2.2 b e).1; simp; omega)
    refine KnU.but (S := fv.ownBlock.toList) (w := w2.alloc o2) (hkn.but hb3 (by simp) (by simp) (fun b _ => by simp)) ⟨hg.os, hg.tape, hg.output, by simp only [World.size_alloc]; omega, fun b hb1 hn => hg.block b hb1 (fun e => hn (by simp [← e]))⟩ ?_ ?_ ?_
    · intro hm
      have := (h.own.lt _ (by simpa using hm)).1
      omega
    · intro hm
      have := (h.own.lt _ (by simpa using hm)).1
      omega
    · intro b e hm
      exact own_ne hofl hkn.own (by decide) (by simpa using hm) e
  · have := ownsRow_setCell_below hown (a := ⟨w1.heap.size, 1, none⟩) (by show w1.heap.size < w1.heap.size + 3; omega) (.slice (some ⟨gg, 0, none⟩) (fl.length + 1) cap3)
    rw [List.map_append, List.length_append]
    exact this
  · have hdr : ds.drop k = d :: ds.drop (k + 1) := by
      obtain ⟨hk, e⟩ := List.getElem?_eq_some_iff.1 hd
      rw [List.drop_eq_getElem_cons hk, e]
    have hi := h.is
    rw [hdr, fstK_cons] at hi
    rw [List.append_assoc]
    exact hi
  · rw [List.length_append, h.len]; rfl
  · have := addM_len ord (dkey d)
    have := h.ol
    omega

/-- A module in memory of one's own: its declarations, and which are the first. -/
structure UnitO (B : Nat) (w : World) (dv fv : Value) (ds : List DC) (xs : List (DC × DPl)) : Prop where
  od : OD B w dv xs
  is : xs.map Prod.fst = ds
  fl : w.ownsRow B 4 1 fv ds.length ((fstK [] ds).map Value.bool)

/-- What newUnit gives. -/
def UnR (w : World) (ds : List DC) (e : Ending) (w' : World) : Prop := Below w.heap.size w w' ∧ ∃ dv fv xs, e = .returned (.agg #[dv, fv, .slice none 0 0]) ∧ UnitO w.heap.size w' dv fv ds xs

theorem un_ret {W : World} {X : Nat} {f : Nat → Value} (R : W.rowIs X 52 3 f) (a b c : Value) (tmps : Array Value) (h2 : tmps[2]?.getD undef = .pointer (some ⟨X, 0, none⟩)) :
    (results Tryz.f24 tmps).run Tryz.prog (((W.setCell ⟨X, 0, none⟩ a).setCell ⟨X, 1, none⟩ b).setCell ⟨X, 2, none⟩ c) = .ok (.agg #[a, b, c]) (((W.setCell ⟨X, 0, none⟩ a).setCell ⟨X, 1, none⟩ b).setCell ⟨X, 2, none⟩ c) := by
  have r := ((R.set 0 a).set 1 b).set 2 c
  obtain ⟨V, hV⟩ : ∃ V, V = ((W.setCell ⟨X, 0, none⟩ a).setCell ⟨X, 1, none⟩ b).setCell ⟨X, 2, none⟩ c := ⟨_, rfl⟩
  rw [← hV] at r ⊢
  clear hV R
  have c0 : V.cell? ⟨X, 0, none⟩ = some a := r.cell (i := 0) (by omega)
  have c1 : V.cell? ⟨X, 1, none⟩ = some b := r.cell (i := 1) (by omega)
  have c2 : V.cell? ⟨X, 2, none⟩ = some c := r.cell (i := 2) (by omega)
  unfold results
  rw [show Tryz.f24.results = #[.cell 2 52] from rfl]
  simp [go_sem, h2, c0, c1, c2]
theorem Tryz.info4 : (Tryz.prog.info? 4).map (fun i => (i.zero, i.size, i.bytes)) = some (some (.bool false), 1, 1) := by kernel_rfl

end Go.Proofs.YtdjkgilohhjfoaaGreatDoor

