/-
  Merged for the claim: ReF ReG ReH SrcImpl.
-/
import Derived.Test.YtdjkgilohhjfoaaGreatDoorM25
import Derived.Test.YtdjkgilohhjfoaaGreatDoorM05
import Derived.Test.YtdjkgilohhjfoaaGreatDoorM23
import Derived.Test.YtdjkgilohhjfoaaGreatDoorM02
namespace Go.Proofs.YtdjkgilohhjfoaaGreatDoor
open Go.RowKit Go.Maps

set_option maxRecDepth 100000 in
set_option maxHeartbeats 4000000 in
theorem p_newUnit (s : ByteArray) (m : Int) (w : World) (hs : s.size ≤ 9223372036854775807) (hm : w.cell? ⟨1, 0, none⟩ = some (.int .i64 m)) {eT : TypeId} {eV : Value} (hev : w.cell? ⟨0, 0, none⟩ = some (.iface eT eV)) :
    Calls Tryz.prog 24 #[.string s] w (UnR w (dsT s)) := by
  obtain ⟨i0, hi0, hz0, hz1, hz2⟩ := info_parts Tryz.info4
  have h0 := World.block_lt_of_cell? _ _ hev
  have h1 := World.block_lt_of_cell? _ _ hm
  obtain ⟨W1, hW1⟩ : ∃ W1, W1 = w.alloc (.cells #[.slice none 0 0, .slice none 0 0, .slice none 0 0] 52) := ⟨_, rfl⟩
  have B1 : Below w.heap.size w W1 := by rw [hW1]; exact bel1 _ _
  have s1 : W1.heap.size = w.heap.size + 1 := by rw [hW1]; simp
  have R1 : Hid (W1.rowIs w.heap.size 52 3 (v3 (.slice none 0 0) (.slice none 0 0) (.slice none 0 0))) := by rw [hW1]; exact row3 _ _ _ _ _
  have CP : Hid (Calls Tryz.prog 38 #[.string s] W1 (ModR W1 (dsT s))) := p_parse s m W1 hs ((B1.cell (p := ⟨1, 0, none⟩) h1).trans hm) ((B1.cell (p := ⟨0, 0, none⟩) h0).trans hev)
  have HS1 : Hid (W1.heap.size = w.heap.size + 1) := s1
  have HB1 : Hid (Below w.heap.size w W1) := B1
  have HL : Hid ((dsT s).length ≤ 1000) := dsT_len s
  clear hm hev h0 h1 s1 B1
  go_enter Tryz.func24, Tryz.ntmps24
  go_wp2_with fail
  rw [← hW1]
  clear hW1
  refine CP.out.mono ?_
  rintro e w1 ⟨hb, v, xs, rfl, hO, hx⟩
  obtain ⟨da, dc, rfl⟩ := own_form hO.own
  obtain ⟨N, hN⟩ : ∃ N, N = xs.length := ⟨_, rfl⟩
  have hN1 : N ≤ 1000 := by have := HL.out; rw [← hx, List.length_map] at this; omega
  rw [← hN] at hO ⊢
  have HN : Hid (N = xs.length) := hN
  have HX : Hid (xs.map Prod.fst = dsT s) := hx
  have HO : Hid (OD W1.heap.size w1 (.slice da N dc) xs) := hO
  have HB : Hid (Below W1.heap.size W1 w1) := hb
  clear hb hO hx hN CP
  go_wp2
  rw [md_decls]
  have CK := ku_new (w1.alloc (.cells #[.slice da N dc, .slice none 0 0, .slice none 0 0] 52))
  simp only [World.size_alloc] at CK
  have HCK : Hid (Calls Tryz.prog 39 #[] (w1.alloc (.cells #[.slice da N dc, .slice none 0 0, .slice none 0 0] 52)) _) := CK
  clear CK
  go_wp2_with fail
  refine HCK.out.mono ?_
  rintro e w2 ⟨rfl, hK, hB⟩
  have r0 : w2.rowIs w1.heap.size 52 3 (v3 (.slice da N dc) (.slice none 0 0) (.slice none 0 0)) := (row3 w1 _ _ _ _).of_block (hB.block w1.heap.size (by simp) (by simp))
  have c0 : w2.cell? ⟨w1.heap.size, 0, none⟩ = some (.slice da N dc) := r0.cell (i := 0) (by omega)
  have ST : Hid (UL w1 w2 (.slice da N dc) (.slice none 0 0) (.slice none 0 0) (dsT s) 0 [] []) :=
    ⟨(bel1 w1 _).trans ⟨hB.os, hB.tape, hB.output, hB.size, fun k hk => hB.block k (by simp only [World.size_alloc]; omega) (by simp)⟩, r0, hK, World.ownsRow_nil _ _ _ _, rfl, rfl, Nat.le_refl _⟩
  clear hK hB r0 HCK
  go_wp2
  go_loopw [17] (fun i wr => ∃ (k : Nat) (fv ov : Value) (ord : List (Int × List UInt8)) (fl : List Bool), k ≤ N ∧ i = .int .i64 k ∧ Hid (UL w1 wr (.slice da N dc) fv ov (dsT s) k ord fl)) (fun i _ => N - (intOf i).toNat)
  case atStart => exact ⟨0, _, _, _, _, Nat.zero_le _, rfl, ST⟩
  case round =>
    clear ST c0
    obtain ⟨k, fv, ov, ord, fl, hk, rfl, HI⟩ := hrel
    have OWN := HI.out.own
    rw [HI.out.len] at OWN
    obtain ⟨fa, fc, hv⟩ := own_form OWN
    subst hv
    have hol := HI.out.ol
    have hbx := HI.out.box.lt
    clear OWN
    by_cases hlt : k < N
    · have h1 := HO.out.but (toBut HI.out.below) (fun b _ => by simp) (fun b _ => by simp)
      have h1' := h1.own
      rw [← HN.out] at h1'
      obtain ⟨g, x, ta, tn, tc, ea, en, ec, rfl, hg, c0, c1, c2, c3, hx, hdc⟩ := dk4 h1' HN.out h1.fm hlt
      have hd : (dsT s)[k]? = some x.1 := by rw [← HX.out, List.getElem?_map, hx]; rfl
      have HSM : Hid (SmQ (dkey x.1)) := dsT_sm (List.mem_of_getElem? hd)
      obtain ⟨⟨dk, nm, dt, de⟩, dp⟩ := x
      simp only at c0 c1 hd
      have HD : Hid ((dsT s)[k]? = some ⟨dk, nm, dt, de⟩) := hd
      obtain ⟨nb, hnb⟩ : ∃ nb, nb = !ord.contains (dkey ⟨dk, nm, dt, de⟩) := ⟨_, rfl⟩
      have HNB : Hid ((!ord.contains (dkey ⟨dk, nm, dt, de⟩)) = nb) := hnb.symm
      have HC : Hid (Calls Tryz.prog 40 #[.pointer (some ⟨w1.heap.size + 2, 0, none⟩), .agg #[.int .i64 dk, .string nm]] (wr.alloc (.cells #[.int .i64 dk, .string nm, .slice ta tn tc, .slice ea en ec] 58)) fun e w' =>
        ∃ (x : Int) (ov' : Value), e = .returned (.tuple #[.int .i64 x, .bool nb]) ∧ KnU w' (w1.heap.size + 2) (w1.heap.size + 1) ov' (addM ord (dkey ⟨dk, nm, dt, de⟩)) ∧ But ((w1.heap.size + 2) :: (w1.heap.size + 1) :: ov.ownBlock.toList) (wr.alloc (.cells #[.int .i64 dk, .string nm, .slice ta tn tc, .slice ea en ec] 58)) w') := by
        refine (ku_number (w1.heap.size + 2) (w1.heap.size + 1) ov ord (dkey ⟨dk, nm, dt, de⟩) _ (HI.out.kn.but ((But.refl [] _).alloc _) (by simp) (by simp) (fun b _ => by simp)) HSM.out (by omega)).mono ?_
        rintro e w' ⟨x, ov', he, h2, h3, _⟩
        rw [HNB.out] at he
        exact ⟨x, ov', he, h2, h3⟩
      clear h1 h1' hx hdc hd hnb
      go_wp2_with fail
      refine HC.out.mono ?_
      rintro e w2 ⟨x, ov2, rfl, hkn, hbt⟩
      obtain ⟨OWN2, r2⟩ := HI.out.on hbt
      rw [HI.out.len] at OWN2
      have hs2 := hbt.size
      simp only [World.size_alloc] at hs2
      have d1 : w2.cell? ⟨w1.heap.size, 1, none⟩ = some (.slice fa k fc) := r2.cell (i := 1) (by omega)
      have d1' : (w2.alloc (.cells #[.bool nb] 4)).cell? ⟨w1.heap.size, 1, none⟩ = some (.slice fa k fc) := (r2.alloc (.cells #[.bool nb] 4)).cell (i := 1) (by omega)
      have d2' := (r2.alloc (.cells #[.bool nb] 4)).frozen 1
      have n1 : some w1.heap.size ≠ (Value.slice fa k fc).ownBlock := fun e => by have := (OWN2.lt w1.heap.size e.symm).1; omega
      have HKN : Hid (KnU w2 (w1.heap.size + 2) (w1.heap.size + 1) ov2 (addM ord (dkey ⟨dk, nm, dt, de⟩))) := hkn
      have HBT : Hid (But ((w1.heap.size + 2) :: (w1.heap.size + 1) :: ov.ownBlock.toList) (wr.alloc (.cells #[.int .i64 dk, .string nm, .slice ta tn tc, .slice ea en ec] 58)) w2) := hbt
      clear hkn hbt HC r2
      have hlw : w1.heap.size < w2.heap.size := by omega
      go_wp2_with (first | (at_builtin; refine wpList_append_lies _ rfl _ _ 50 rfl (w1.heap.size + 3) 4 i0 _ 1 1 Tryz.underlying50 hi0 hz0 hz1 hz2 rfl (by omega) (.slice fa k fc) k (fl.map Value.bool) rfl (OWN2.alloc _) ⟨w2.heap.size, 0, none⟩ 1 1 [.bool nb] rfl rfl (cell_one_new _ _ _) (by simp [Value.oneCell']) (by omega) (by unfold maxLen; omega) (by omega) (by simp; omega) (w2.heap.size + 1) (by simp) ?_; intro gg cap3 w3 hown3 hg3 hat hlt3; have f1 : w3.cell? ⟨w1.heap.size, 1, none⟩ = some (.slice fa k fc) := (hg3.cell_far ⟨w1.heap.size, 1, none⟩ (by simp; omega) n1).trans d1'; have f2 : w3.frozen? ⟨w1.heap.size, 1, none⟩ = false := (hg3.frozen_far ⟨w1.heap.size, 1, none⟩ (by simp; omega) n1).trans d2'))
      have HNX : Hid (UL w1 (w3.setCell ⟨w1.heap.size, 1, none⟩ (.slice (some ⟨gg, 0, none⟩) (k + 1) cap3)) (.slice (some ⟨g, 0, none⟩) N dc) (.slice (some ⟨gg, 0, none⟩) (k + 1) cap3) ov2 (dsT s) (k + 1) (addM ord (dkey ⟨dk, nm, dt, de⟩)) (fl ++ [nb])) := by
        have := HI.out.next (gg := gg) (cap3 := cap3) (w3 := w3) HD.out HKN.out HBT.out (by rw [HI.out.len, HNB.out]; exact hown3) hg3
        rw [HI.out.len, HNB.out] at this
        exact this
      clear hown3 hg3 hat hlt3 OWN2 d1 d1' d2'
      go_wp2
      exact ⟨⟨k + 1, _, _, _, _, by omega, by go_num, HNX⟩, by simp [intOf]; omega⟩
    · have hkn : k = N := by omega
      subst hkn
      have r0 := HI.out.box
      have c0 : wr.cell? ⟨w1.heap.size, 0, none⟩ = some (.slice da k dc) := r0.cell (i := 0) (by omega)
      have c1 : wr.cell? ⟨w1.heap.size, 1, none⟩ = some (.slice fa k fc) := r0.cell (i := 1) (by omega)
      have c2 : wr.cell? ⟨w1.heap.size, 2, none⟩ = some (.slice none 0 0) := r0.cell (i := 2) (by omega)
      have hs1 := HB.out.size
      have hs0 := HS1.out
      have R2 : wr.rowIs w.heap.size 52 3 (v3 (.slice none 0 0) (.slice none 0 0) (.slice none 0 0)) := R1.out.of_block ((HI.out.below.block w.heap.size (by omega)).trans (HB.out.block w.heap.size (by omega)))
      have x0 : wr.cell? ⟨w.heap.size, 0, none⟩ = some (.slice none 0 0) := R2.cell (i := 0) (by omega)
      have x1 : wr.cell? ⟨w.heap.size, 1, none⟩ = some (.slice none 0 0) := R2.cell (i := 1) (by omega)
      have x2 : wr.cell? ⟨w.heap.size, 2, none⟩ = some (.slice none 0 0) := R2.cell (i := 2) (by omega)
      have y0 := R2.frozen 0
      have y1 := R2.frozen 1
      have y2 := R2.frozen 2
      have HR2 : Hid (wr.rowIs w.heap.size 52 3 (v3 (.slice none 0 0) (.slice none 0 0) (.slice none 0 0))) := R2
      clear R2 r0
      go_wp2
      refine bodyPost_ret (un_ret HR2.out _ _ _ _ rfl) rfl ?_
      have hbt : But [w.heap.size] wr (((wr.setCell ⟨w.heap.size, 0, none⟩ (.slice da k dc)).setCell ⟨w.heap.size, 1, none⟩ (.slice fa k fc)).setCell ⟨w.heap.size, 2, none⟩ (.slice none 0 0)) :=
        (((But.refl [w.heap.size] wr).set (fun _ => by simp) 0 _).set (fun _ => by simp) 1 _).set (fun _ => by simp) 2 _
      have hB : Below w.heap.size w wr := (HB1.out.trans (HB.out.mono (by omega))).trans (HI.out.below.mono (by omega))
      have hod := HO.out.but (toBut HI.out.below) (fun b _ => by simp) (fun b _ => by simp)
      have hfl : fl = fstK [] (dsT s) := by
        have := HI.out.is
        rw [List.drop_of_length_le (by rw [← HX.out, List.length_map]; exact Nat.le_of_eq HN.out.symm), fstK, List.append_nil] at this
        exact this
      have hle : (dsT s).length = k := by rw [← HX.out, List.length_map]; exact HN.out.symm
      refine ⟨below_but hB hbt (fun b hb => Nat.le_of_eq (List.mem_singleton.1 hb).symm), _, _, xs, rfl, (hod.low hbt (fun b hb => Or.inl (by have := List.mem_singleton.1 hb; omega))).mono (by omega), HX.out, ?_⟩
      have ho := HI.out.own
      rw [HI.out.len, hfl] at ho
      rw [hle]
      exact own_mono (own_block ho (fun b e => hbt.block b (ho.lt b e.symm).2 (fun hm => by have := (ho.lt b e.symm).1; have := List.mem_singleton.1 hm; omega))) (by omega)

end Go.Proofs.YtdjkgilohhjfoaaGreatDoor

namespace Go.Proofs.YtdjkgilohhjfoaaGreatDoor
open Go.RowKit Go.Maps

/-- The first ones of a kind. -/
def fsX (kd : Int) : List (DC × DPl) → List Bool → List (DC × DPl)
  | x :: l, f :: fs => if x.1.kind == kd && f then x :: fsX kd l fs else fsX kd l fs
  | _, _ => []
theorem fsX_names : ∀ (xs : List (DC × DPl)) (fl : List Bool), (fsX 1 xs fl).map (fun x => x.1.nm) = fstI (xs.map Prod.fst) fl
  | [], fl => by cases fl <;> rfl
  | x :: l, [] => rfl
  | x :: l, f :: fs => by
    rw [fsX, List.map_cons, fstI]
    split
    · rw [List.map_cons, fsX_names l fs]
    · exact fsX_names l fs
theorem fsX_sub (kd : Int) : ∀ (xs : List (DC × DPl)) (fl : List Bool) (x : DC × DPl), x ∈ fsX kd xs fl → x ∈ xs
  | [], fl, x, h => by cases fl <;> cases h
  | y :: l, [], x, h => by cases h
  | y :: l, f :: fs, x, h => by
    rw [fsX] at h
    split at h
    · rcases List.mem_cons.1 h with z | z
      · rw [z]; exact List.mem_cons_self ..
      · exact List.mem_cons_of_mem _ (fsX_sub kd l fs x z)
    · exact List.mem_cons_of_mem _ (fsX_sub kd l fs x h)
theorem fsX_len (kd : Int) : ∀ (xs : List (DC × DPl)) (fl : List Bool), (fsX kd xs fl).length ≤ xs.length
  | [], fl => by cases fl <;> exact Nat.zero_le _
  | y :: l, [] => Nat.zero_le _
  | y :: l, f :: fs => by
    rw [fsX]
    have := fsX_len kd l fs
    split
    · rw [List.length_cons, List.length_cons]; omega
    · rw [List.length_cons]; omega

/-- The state of firsts' loop. -/
structure FsL (w wr : World) (dv fv r v : Value) (kd : Int) (xs ys : List (DC × DPl)) (fl : List Bool) (k : Nat) : Prop where
  below : Below w.heap.size w wr
  box : wr.rowIs w.heap.size 52 3 (v3 dv fv r)
  own : wr.ownsRow (w.heap.size + 1) 58 4 v ys.length (dcsC ys)
  is : ys ++ fsX kd (xs.drop k) (fl.drop k) = fsX kd xs fl
  len : ys.length ≤ k

theorem FsL.skip {w wr : World} {dv fv r v : Value} {kd : Int} {xs ys : List (DC × DPl)} {fl : List Bool} {k : Nat} {x : DC × DPl} {f : Bool} {o : Obj} (h : FsL w wr dv fv r v kd xs ys fl k) (hx : xs[k]? = some x) (hf : fl[k]? = some f) (hn : (x.1.kind == kd && f) = false) : FsL w (wr.alloc o) dv fv r v kd xs ys fl (k + 1) := by
  refine ⟨h.below.alloc h.below.size _, h.box.alloc _, h.own.alloc _, ?_, by have := h.len; omega⟩
  obtain ⟨h1, e1⟩ := List.getElem?_eq_some_iff.1 hx
  obtain ⟨h2, e2⟩ := List.getElem?_eq_some_iff.1 hf
  have hi := h.is
  rw [List.drop_eq_getElem_cons h1, List.drop_eq_getElem_cons h2, e1, e2, fsX, hn] at hi
  exact hi
theorem FsL.take {w wr w3 : World} {dv fv r v : Value} {kd : Int} {xs ys : List (DC × DPl)} {fl : List Bool} {k gg cap3 : Nat} {x : DC × DPl} {f : Bool} {o o2 : Obj} (h : FsL w wr dv fv r v kd xs ys fl k) (hx : xs[k]? = some x) (hf : fl[k]? = some f) (hn : (x.1.kind == kd && f) = true)
    (hown : w3.ownsRow (w.heap.size + 1) 58 4 (.slice (some ⟨gg, 0, none⟩) (ys.length + 1) cap3) (ys.length + 1) (dcsC ys ++ dcC x)) (hg : ((wr.alloc o).alloc o2).grownBy w3 v.ownBlock) : FsL w w3 dv fv r (.slice (some ⟨gg, 0, none⟩) (ys.length + 1) cap3) kd xs (ys ++ [x]) fl (k + 1) := by
  have hs := h.below.size
  have hb : ∀ b, b ≤ w.heap.size → w3.heap[b]? = wr.heap[b]? := fun b hb => by
    have hw := h.box.lt
    rw [hg.block b (by simp only [World.size_alloc]; omega) (fun e => by have := (h.own.lt b e.symm).1; omega), Below.heap_alloc _ _ _ (by simp only [World.size_alloc]; omega), Below.heap_alloc _ _ _ (by omega)]
  refine ⟨⟨hg.os.trans h.below.os, hg.tape.trans h.below.tape, hg.output.trans h.below.output, by have := hg.size; simp only [World.size_alloc] at this; omega, fun b hb1 => (hb b (by omega)).trans (h.below.block b hb1)⟩, h.box.of_block (hb _ (Nat.le_refl _)), ?_, ?_, by have := h.len; rw [List.length_append]; simp; omega⟩
  · rw [dcsC_snoc, List.length_append]; exact hown
  · obtain ⟨h1, e1⟩ := List.getElem?_eq_some_iff.1 hx
    obtain ⟨h2, e2⟩ := List.getElem?_eq_some_iff.1 hf
    have hi := h.is
    rw [List.drop_eq_getElem_cons h1, List.drop_eq_getElem_cons h2, e1, e2, fsX, hn] at hi
    rw [List.append_assoc]
    exact hi
theorem FsL.ends {w wr : World} {dv fv r v : Value} {kd : Int} {xs ys : List (DC × DPl)} {fl : List Bool} {k : Nat} (h : FsL w wr dv fv r v kd xs ys fl k) (hk : xs.length ≤ k) : ys = fsX kd xs fl := by
  have hi := h.is
  rw [List.drop_of_length_le hk, fsX, List.append_nil] at hi
  · exact hi
  · intro x l f fs e; cases e

theorem bl_len (f : Bool) : ([Value.bool f]).length = 1 := rfl
theorem map_bools : ∀ fl : List Bool, fl.map Value.bool = fl.flatMap (fun f => [Value.bool f])
  | [] => rfl
  | a :: l => by rw [List.map_cons, List.flatMap_cons, map_bools l]; rfl
/-- A flag in memory. -/
theorem fl_cell {B n : Nat} {w : World} {a : Option Addr} {c : Nat} {fl : List Bool} (h : w.ownsRow B 4 1 (.slice a n c) n (fl.map Value.bool)) (hn : n = fl.length) {k : Nat} (hk : k < n) : ∃ g f, a = some ⟨g, 0, none⟩ ∧ g < w.heap.size ∧ fl[k]? = some f ∧ w.cell? ⟨g, k, none⟩ = some (.bool f) := by
  subst hn
  obtain ⟨g, gc, ev, _, hlt, _⟩ := own_blk h (show 0 < fl.length by omega)
  simp only [Value.slice.injEq] at ev
  obtain ⟨rfl, -, rfl⟩ := ev
  refine ⟨g, fl[k], rfl, hlt, List.getElem?_eq_getElem hk, ?_⟩
  rw [map_bools] at h
  have := own_at (f := fun f : Bool => [Value.bool f]) bl_len h (j := k) (r := 0) (u := .bool fl[k]) rfl hk (by omega) rfl
  rw [Nat.mul_one, Nat.add_zero] at this
  exact this

/-- What firsts gives. -/
def FsR (w : World) (ys : List (DC × DPl)) (e : Ending) (w' : World) : Prop := Below w.heap.size w w' ∧ ∃ v, e = .returned v ∧ w'.ownsRow w.heap.size 58 4 v ys.length (dcsC ys)

end Go.Proofs.YtdjkgilohhjfoaaGreatDoor

namespace Go.Proofs.YtdjkgilohhjfoaaGreatDoor
open Go.RowKit Go.Maps

set_option maxRecDepth 100000 in
set_option maxHeartbeats 4000000 in
theorem p_firsts (w : World) {B : Nat} {dv fv : Value} {ra : Option Addr} {rn rc : Nat} {ds : List DC} {xs : List (DC × DPl)} (h : UnitO B w dv fv ds xs) (hl : ds.length ≤ 1000) (kd : Int) :
    Calls Tryz.prog 25 #[.agg #[dv, fv, .slice ra rn rc], .int .i64 kd] w (FsR w (fsX kd xs (fstK [] ds))) := by
  obtain ⟨i0, hi0, hz0, hz1, hz2⟩ := info_parts Tryz.infoDC
  obtain ⟨N, hN⟩ : ∃ N, N = xs.length := ⟨_, rfl⟩
  have hdl : ds.length = N := by rw [← h.is, List.length_map, hN]
  obtain ⟨da, dc, rfl⟩ := own_form h.od.own
  obtain ⟨fa, fc, rfl⟩ := own_form h.fl
  obtain ⟨fl, hfl⟩ : ∃ fl, fl = fstK [] ds := ⟨_, rfl⟩
  have hfn : N = fl.length := by rw [hfl, fstK_len, hdl]
  have HU : Hid (∀ W, Below w.heap.size w W → OD B W (.slice da N dc) xs ∧ W.ownsRow B 4 1 (.slice fa N fc) N (fl.map Value.bool)) := fun W hb => by
    have h1 := h.od.but (toBut hb) (fun b _ => by simp) (fun b _ => by simp)
    have h2 := own_block h.fl (fun k e => hb.block k (h.fl.lt k e.symm).2)
    rw [← hN] at h1
    rw [hdl, ← hfl] at h2
    exact ⟨h1, h2⟩
  rw [hdl] at hl ⊢
  rw [← hfl, ← hN]
  have HN : Hid (N = xs.length) := hN
  have HF : Hid (N = fl.length) := hfn
  clear h hN hdl hfl hfn
  have R0 : Hid (FsL w (w.alloc (.cells #[.slice da N dc, .slice fa N fc, .slice ra rn rc] 52)) (.slice da N dc) (.slice fa N fc) (.slice ra rn rc) (.slice none 0 0) kd xs [] fl 0) := ⟨bel1 _ _, row3 _ _ _ _ _, World.ownsRow_nil _ _ _ _, rfl, Nat.le_refl _⟩
  go_enter Tryz.func25, Tryz.ntmps25
  go_wp2
  go_loopw [5, 11] (fun v i wr => ∃ (k : Nat) (ys : List (DC × DPl)), k ≤ N ∧ i = .int .i64 k ∧ Hid (FsL w wr (.slice da N dc) (.slice fa N fc) (.slice ra rn rc) v kd xs ys fl k)) (fun _ i _ => N - (intOf i).toNat)
  case atStart => exact ⟨0, [], Nat.zero_le _, rfl, R0⟩
  case round =>
    clear R0
    obtain ⟨k, ys, hk, rfl, HI⟩ := hrel
    have OWN := HI.out.own
    obtain ⟨n, hn⟩ : ∃ n, n = ys.length := ⟨_, rfl⟩
    have hnk : n ≤ k := by rw [hn]; exact HI.out.len
    rw [← hn] at OWN
    have HNN : Hid (n = ys.length) := hn
    clear hn
    obtain ⟨va, vc, hv⟩ := own_form OWN
    subst hv
    have HO : Hid (wr.ownsRow (w.heap.size + 1) 58 4 (.slice va n vc) n (dcsC ys)) := OWN
    clear OWN
    have hsz := HI.out.below.size
    have hbx := HI.out.box.lt
    by_cases hlt : k < N
    · obtain ⟨h1, h2⟩ := HU.out wr HI.out.below
      have h1' := h1.own
      rw [← HN.out] at h1'
      obtain ⟨g, x, ta, tn, tc, ea, en, ec, rfl, hg, c0, c1, c2, c3, hx, hdc⟩ := dk4 h1' HN.out h1.fm hlt
      obtain ⟨g2, f, rfl, hg2, hf, cf⟩ := fl_cell h2 HF.out hlt
      obtain ⟨⟨dk, nm, dt, de⟩, dp⟩ := x
      simp only at c0 c1 hdc
      have HC : Hid (dcC (⟨dk, nm, dt, de⟩, dp) = [.int .i64 dk, .string nm, .slice ta tn tc, .slice ea en ec]) := hdc
      have HX : Hid (xs[k]? = some (⟨dk, nm, dt, de⟩, dp)) := hx
      have HFK : Hid (fl[k]? = some f) := hf
      have cb : (wr.alloc (.cells #[.int .i64 dk, .string nm, .slice ta tn tc, .slice ea en ec] 58)).cell? ⟨w.heap.size, 1, none⟩ = some (.slice (some ⟨g2, 0, none⟩) N fc) := (HI.out.box.alloc (.cells #[.int .i64 dk, .string nm, .slice ta tn tc, .slice ea en ec] 58)).cell (i := 1) (by omega)
      have cf' : (wr.alloc (.cells #[.int .i64 dk, .string nm, .slice ta tn tc, .slice ea en ec] 58)).cell? ⟨g2, k, none⟩ = some (.bool f) := ((bel1 wr _).cell (p := ⟨g2, k, none⟩) hg2).trans cf
      clear hx hdc hf h1 h1' h2 cf
      cases hkk : (dk == kd)
      case false =>
        have HNX : Hid (FsL w (wr.alloc (.cells #[.int .i64 dk, .string nm, .slice ta tn tc, .slice ea en ec] 58)) (.slice (some ⟨g, 0, none⟩) N dc) (.slice (some ⟨g2, 0, none⟩) N fc) (.slice ra rn rc) (.slice va n vc) kd xs ys fl (k + 1)) := HI.out.skip HX.out HFK.out (by show (dk == kd && f) = false; rw [hkk]; rfl)
        go_wp2
        exact ⟨⟨k + 1, ys, by omega, by go_num, HNX⟩, by simp [intOf]; omega⟩
      case true =>
        cases f
        case false =>
          have HNX : Hid (FsL w (wr.alloc (.cells #[.int .i64 dk, .string nm, .slice ta tn tc, .slice ea en ec] 58)) (.slice (some ⟨g, 0, none⟩) N dc) (.slice (some ⟨g2, 0, none⟩) N fc) (.slice ra rn rc) (.slice va n vc) kd xs ys fl (k + 1)) := HI.out.skip HX.out HFK.out (by rw [Bool.and_false])
          go_wp2
          exact ⟨⟨k + 1, ys, by omega, by go_num, HNX⟩, by simp [intOf]; omega⟩
        case true =>
          have hnew : ((wr.alloc (.cells #[.int .i64 dk, .string nm, .slice ta tn tc, .slice ea en ec] 58)).alloc (.cells #[.int .i64 dk, .string nm, .slice ta tn tc, .slice ea en ec] 58)).heap[wr.heap.size + 1]? = some (.cells #[.int .i64 dk, .string nm, .slice ta tn tc, .slice ea en ec] 58) := by
            have := heap_alloc_new (wr.alloc (.cells #[.int .i64 dk, .string nm, .slice ta tn tc, .slice ea en ec] 58)) (.cells #[.int .i64 dk, .string nm, .slice ta tn tc, .slice ea en ec] 58)
            simp only [World.size_alloc] at this
            exact this
          go_wp2_with (first | (at_builtin; refine wpList_append_lies _ rfl _ _ 49 rfl (w.heap.size + 1) 58 i0 _ 4 72 Tryz.underlying49 hi0 hz0 hz1 hz2 rfl (by omega) (.slice va n vc) n (dcsC ys) rfl ((HO.out.alloc _).alloc _) ⟨wr.heap.size + 1, 0, none⟩ 1 1 [.int .i64 dk, .string nm, .slice ta tn tc, .slice ea en ec] rfl rfl (World.news_of_block (cs := #[.int .i64 dk, .string nm, .slice ta tn tc, .slice ea en ec]) (t := 58) (fr := (0, 0)) hnew) (by simp [Value.oneCell']) (by omega) (by unfold maxLen; omega) (by omega) (by simp only [World.size_alloc]; omega) (wr.heap.size + 2) (by simp) ?_; intro gg cap3 w5 hown3 hg3 hat3 hlt3))
          have HNX : Hid (FsL w w5 (.slice (some ⟨g, 0, none⟩) N dc) (.slice (some ⟨g2, 0, none⟩) N fc) (.slice ra rn rc) (.slice (some ⟨gg, 0, none⟩) (n + 1) cap3) kd xs (ys ++ [(⟨dk, nm, dt, de⟩, dp)]) fl (k + 1)) := by
            have := HI.out.take (gg := gg) (cap3 := cap3) (w3 := w5) HX.out HFK.out (by show (dk == kd && true) = true; rw [hkk]; rfl) (by rw [HC.out, ← HNN.out]; exact hown3) hg3
            rw [← HNN.out] at this
            exact this
          clear hown3 hg3 hat3 hlt3 hnew
          go_wp2
          exact ⟨⟨k + 1, _, by omega, by go_num, HNX⟩, by simp [intOf]; omega⟩
    · have hkn : k = N := by omega
      subst hkn
      have HE : Hid (ys = fsX kd xs fl) := HI.out.ends (Nat.le_of_eq HN.out.symm)
      go_wp2
      go_ret
      exact ⟨HI.out.below, _, rfl, by rw [← HE.out, ← HNN.out]; exact own_mono HO.out (by omega)⟩

end Go.Proofs.YtdjkgilohhjfoaaGreatDoor

namespace Go.Proofs.YtdjkgilohhjfoaaGreatDoor
open Go.RowKit

theorem KnS.box {w : World} {kb mb : Nat} {ov : Value} {D : DataW Unit} {ord : List (List UInt8)} {keep : Nat → Prop} (h : KnS w kb mb ov D ord keep) (o : Obj) :
    KnS (w.alloc o) kb mb ov D ord (fun k => keep k ∨ k = w.heap.size) := by
  have hk := h.row.lt
  have hm := h.mlt
  refine ⟨h.row.alloc _, h.mlt, h.map.alloc _, h.has, h.val, h.own.alloc _, fun k hk' => ?_⟩
  rcases hk' with hk' | rfl
  · obtain ⟨f1, f2, f3, f4⟩ := h.far k hk'
    exact ⟨by simp; omega, f2, f3, f4⟩
  · exact ⟨by simp, by omega, by omega, fun e => by have := (h.own.lt _ e.symm).2; omega⟩

theorem KnS.less {w : World} {kb mb : Nat} {ov : Value} {D : DataW Unit} {ord : List (List UInt8)} {keep keep' : Nat → Prop} (h : KnS w kb mb ov D ord keep) (hk : ∀ k, keep' k → keep k) : KnS w kb mb ov D ord keep' :=
  ⟨h.row, h.mlt, h.map, h.has, h.val, h.own, fun k x => h.far k (hk k x)⟩

theorem Kept.less {keep keep' : Nat → Prop} {w w' : World} (h : Kept keep w w') (hk : ∀ k, keep' k → keep k) : Kept keep' w w' := ⟨h.os, h.tape, h.output, h.size, fun k x => h.block k (hk k x)⟩

theorem Kept.toBelow {w w' : World} (h : Kept (fun k => k < w.heap.size) w w') : Below w.heap.size w w' := ⟨h.os, h.tape, h.output, h.size, fun k x => h.block k x⟩

/-- The names of the first k sources. -/
def nml (S : Nat → ByteArray) (k : Nat) : List (List UInt8) := (List.range k).map fun i => (S i).data.toList

theorem nml_length (S : Nat → ByteArray) (k : Nat) : (nml S k).length = k := by simp [nml]
theorem nml_yes {S : Nat → ByteArray} {k : Nat} (h : (nml S k).contains (S k).data.toList = true) : ∃ j, j < k ∧ (S k).toList = (S j).toList := by
  simp only [nml, List.contains_iff_mem, List.mem_map, List.mem_range] at h
  obtain ⟨j, hj, e⟩ := h
  exact ⟨j, hj, by rw [ByteArray.toList_eq, ByteArray.toList_eq, e]⟩
theorem nml_no {S : Nat → ByteArray} {k : Nat} (h : (nml S k).contains (S k).data.toList = false) : ∀ j, j < k → (S k).toList ≠ (S j).toList := by
  intro j hj e
  rw [ByteArray.toList_eq, ByteArray.toList_eq] at e
  have : (nml S k).contains (S k).data.toList = true := by
    simp only [nml, List.contains_iff_mem, List.mem_map, List.mem_range]
    exact ⟨j, hj, e.symm⟩
  rw [this] at h; cases h
theorem nml_next {S : Nat → ByteArray} {k : Nat} (h : (nml S k).contains (S k).data.toList = false) : addS (nml S k) (S k).data.toList = nml S (k + 1) := by
  unfold addS; rw [h]; simp [nml, List.range_succ]

set_option maxHeartbeats 4000000 in
theorem sc7 (ao : Option Addr) (b o n c : Nat) (S T : Nat → ByteArray) (w : World) (h1 : SrcsAt w ao b o n S T) (hS : ∀ i, i < n → (S i).size ≤ 1048576) :
    Calls Tryz.prog 20 #[.slice ao n c] w fun e w' => e = .returned (.bool (vsr n S T)) ∧ Below w.heap.size w w' := by
  have hlen := h1.len
  have A1 := h1.at_
  have HB : Hid (∀ w', Below w.heap.size w w' → SrcsAt w' ao b o n S T) := fun w' hb => h1.below hb
  have HS : Hid (∀ i, i < n → (S i).size ≤ 1048576) := hS
  clear h1 hS
  by_cases hbig : 8 < n
  · have HV : Hid (vsr n S T = false) := vsr_big hbig
    go_enter Tryz.func20, Tryz.ntmps20
    go_wp2
    go_ret
    exact ⟨ret_bool HV.out.symm, Below.refl _ _⟩
  go_enter Tryz.func20, Tryz.ntmps20
  go_wp2_with fail
  refine (kn_new w (fun k => k < w.heap.size) (fun _ h => h)).mono ?_
  rintro e w1 ⟨rfl, hK, hKe⟩
  have HK : Hid (KnS w1 (w.heap.size + 1) w.heap.size (.slice none 0 0) (.map []) [] (fun k => k < w.heap.size) ∧ Kept (fun k => k < w.heap.size) w w1) := ⟨hK, hKe⟩
  clear hK hKe
  go_wp2
  go_loopw [14] (fun i wr => ∃ (k : Nat) (ov : Value) (D : DataW Unit), k ≤ n ∧ i = .int .i64 k ∧ Hid (KnS wr (w.heap.size + 1) w.heap.size ov D (nml S k) (fun k => k < w.heap.size) ∧ Kept (fun k => k < w.heap.size) w wr) ∧ Hid (∀ j, j < k → sok S T j = true)) (fun i _ => n - (intOf i).toNat)
  case atStart => exact ⟨0, _, _, Nat.zero_le _, rfl, HK, fun j h => absurd h (Nat.not_lt_zero _)⟩
  case round =>
    clear HK
    obtain ⟨k, ov, D, hk, rfl, HK, HA⟩ := hrel
    by_cases hlt : k < n
    · have e1 := A1 (by omega)
      have q1 := HB.out wr HK.out.2.toBelow
      have g0 := q1.c0 k hlt
      have g1 := q1.c1 k hlt
      have z0 := HS.out k hlt
      have z1 := q1.sizeT k hlt
      clear q1
      subst e1
      go_wp2_with fail
      have hka := HK.out.1.box (.cells #[.string (S k), .string (T k)] 45)
      have hz0 : (S k).data.toList.length = (S k).size := rfl
      refine (kn_number (w.heap.size + 1) w.heap.size ov D (nml S k) _ (S k).data.toList _ hka (by unfold maxLen; omega) (by rw [nml_length]; omega)).mono ?_
      rintro e w2 ⟨ov2, D2, rfl, hK2, hKe2⟩
      have r0 := row2 wr (.string (S k)) (.string (T k)) 45
      have r1 := r0.of_block (hKe2.block wr.heap.size (Or.inr rfl))
      have d0 : w2.cell? ⟨wr.heap.size, 0, none⟩ = some (.string (S k)) := r1.cell (i := 0) (by omega)
      have d1 : w2.cell? ⟨wr.heap.size, 1, none⟩ = some (.string (T k)) := r1.cell (i := 1) (by omega)
      have B0 : Kept (fun k => k < w.heap.size) wr (wr.alloc (.cells #[.string (S k), .string (T k)] 45)) := ⟨rfl, rfl, rfl, by simp, fun i hi => Below.heap_alloc _ _ _ (by have := HK.out.2.size; omega)⟩
      have HE : Hid (Kept (fun k => k < w.heap.size) w w2) := (HK.out.2.trans B0).trans (hKe2.less (fun _ h => Or.inl h))
      have HK2 : Hid (KnS w2 (w.heap.size + 1) w.heap.size ov2 D2 (addS (nml S k) (S k).data.toList) (fun k => k < w.heap.size)) := hK2.less (fun _ h => Or.inl h)
      clear hka hK2 hKe2 r0 r1 B0
      cases hc : (nml S k).contains (S k).data.toList
      case true =>
        have HF : Hid (vsr n S T = false) := by
          obtain ⟨j, hj, e⟩ := nml_yes hc
          exact vsr_no k hlt (sok_twice j hj e)
        go_wp2
        go_ret
        exact ⟨ret_bool HF.out.symm, HE.out.toBelow⟩
      case false =>
        have HC : Hid ((nml S k).contains (S k).data.toList = false) := hc
        cases hg : gn (S k)
        · have HF : Hid (vsr n S T = false) := vsr_no k hlt (sok_name hg)
          go_wp2_with (go_at_call 34; refine (c40 _ _ (by omega)).mono ?_; rintro e w' ⟨rfl, rfl⟩)
          go_ret
          exact ⟨ret_bool HF.out.symm, HE.out.toBelow⟩
        by_cases ht : 1000 < (T k).size
        · have HF : Hid (vsr n S T = false) := vsr_no k hlt (sok_text ht)
          go_wp2_with (go_at_call 34; refine (c40 _ _ (by omega)).mono ?_; rintro e w' ⟨rfl, rfl⟩)
          go_ret
          exact ⟨ret_bool HF.out.symm, HE.out.toBelow⟩
        have HJ : Hid (sok S T k = true) := sok_yes hg (by omega) (nml_no HC.out)
        go_wp2_with (go_at_call 34; refine (c40 _ _ (by omega)).mono ?_; rintro e w' ⟨rfl, rfl⟩)
        go_roundw
        case rel => exact ⟨k + 1, ov2, D2, by omega, by go_num, ⟨by rw [← nml_next HC.out]; exact HK2.out, HE.out⟩, fun j hj => by
          by_cases e : j = k
          · subst e; exact HJ.out
          · exact HA.out j (by omega)⟩
        case measure => simp [intOf]; omega
    · have HF : Hid (vsr n S T = true) := vsr_yes (by omega) (fun j hj => HA.out j (by omega))
      have HE : Hid (Below w.heap.size w wr) := HK.out.2.toBelow
      go_wp2
      go_ret
      exact ⟨ret_bool HF.out.symm, HE.out⟩

end Go.Proofs.YtdjkgilohhjfoaaGreatDoor

