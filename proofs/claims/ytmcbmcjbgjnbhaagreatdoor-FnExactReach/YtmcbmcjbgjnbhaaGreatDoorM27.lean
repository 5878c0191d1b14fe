/-
  Merged for the claim: ReL SrcImpl ReM ReF.
-/
import Derived.Test.YtmcbmcjbgjnbhaaGreatDoorM26
import Derived.Test.YtmcbmcjbgjnbhaaGreatDoorM04
import Derived.Test.YtmcbmcjbgjnbhaaGreatDoorM22
import Derived.Test.YtmcbmcjbgjnbhaaGreatDoorM01
import Derived.Test.YtmcbmcjbgjnbhaaGreatDoorM25
namespace Go.Proofs.YtmcbmcjbgjnbhaaGreatDoor
open Go.RowKit Go.Maps Go.Sort

theorem addN_own : ∀ (l out : List ByteArray), (out ++ l).Nodup → addN out l = out ++ l
  | [], out, _ => by rw [List.append_nil]; rfl
  | s :: l, out, h => by
    have hn : hasN out s = false := by
      rw [Bool.eq_false_iff]
      intro e
      rw [List.nodup_append] at h
      exact h.2.2 s (hasN_iff.1 e) s (List.mem_cons_self ..) rfl
    have h2 : out ++ s :: l = (out ++ [s]) ++ l := by rw [List.append_assoc]; rfl
    rw [addN, hn, h2]
    rw [h2] at h
    exact addN_own l _ h
theorem KnT.row {w : World} {kb mb : Nat} {ov : Value} {ord : List (List UInt8)} (h : KnT w kb mb ov ord) : w.rowIs kb 70 2 (v2 (.map (some mb)) ov) := by
  obtain ⟨D, h⟩ := h
  exact h.row
theorem dsOf_nm {S T : Nat → ByteArray} {n : Nat} {s : ByteArray} {d : DC} (h : d ∈ dsOf S T n s) : d.nm.size ≤ 1000 := by
  unfold dsOf at h
  split at h
  · cases h
  · exact decs_nm false _ _ (toks_ok _).sz d h

/-- The state of allFrom's loop. -/
structure AL (w wr : World) (ov : Value) (S T : Nat → ByteArray) (n : Nat) (s : ByteArray) (k : Nat) (NL : List ByteArray) : Prop where
  below : Below w.heap.size w wr
  kn : KnT wr (w.heap.size + 1) w.heap.size ov (NL.map tl)
  met : Met (impU T n) NL
  le : k ≤ NL.length
  rest : rch (impO S T n) (8001 - k) k NL = rchO S T n s

theorem KnT.low {w : World} {kb mb : Nat} {ov : Value} {ord : List (List UInt8)} {L : Nat} (h : KnT w kb mb ov ord) (hL : L ≤ mb) : ∀ b, b ∈ kb :: mb :: ov.ownBlock.toList → L ≤ b := fun b hm => by
  have hid := h.ids
  simp only [List.mem_cons, Option.mem_toList] at hm
  rcases hm with z | z | z
  · omega
  · omega
  · have := (hid.2.2 b z).1
    omega
theorem AL.next {w wr w2 : World} {ov ov2 : Value} {S T : Nat → ByteArray} {n : Nat} {s : ByteArray} {k : Nat} {NL : List ByteArray} (h : AL w wr ov S T n s k NL) (hk : k < NL.length) (hk8 : k ≤ 8000)
    (hkn : KnT w2 (w.heap.size + 1) w.heap.size ov2 ((addN NL (impO S T n (NL.getD k ByteArray.empty))).map tl)) (hb : But ((w.heap.size + 1) :: w.heap.size :: ov.ownBlock.toList) wr w2) : AL w w2 ov2 S T n s (k + 1) (addN NL (impO S T n (NL.getD k ByteArray.empty))) := by
  refine ⟨below_but h.below hb (h.kn.low (Nat.le_refl _)), hkn, h.met.add (fun x hx => impO_sub _ x hx), ?_, ?_⟩
  · obtain ⟨r, hr⟩ := addN_pre (impO S T n (NL.getD k ByteArray.empty)) NL
    rw [hr, List.length_append]; omega
  · have hr := h.rest
    have e8 : 8001 - k = 8001 - (k + 1) + 1 := by omega
    rw [e8, rch_step hk] at hr
    exact hr

set_option maxRecDepth 100000 in
set_option maxHeartbeats 4000000 in
theorem p_allFrom (w : World) {mb n' n : Nat} {S T : Nat → ByteArray} {U : List UInt8 → Value} (h : PA w mb n' (fun a => dsOf S T n ⟨a.toArray⟩) U) (hn8 : n ≤ 8) (s : ByteArray) (hs : s.size ≤ 9223372036854775807) :
    Calls Tryz.prog 30 #[.pointer (some ⟨mb + 2, 0, none⟩), .string s] w (ImpR w (srtN (rchO S T n s))) := by
  have HU : Hid ((impU T n).length ≤ 8000) := by show _ ≤ _; have := impU_len T n; omega
  have HM : Hid (∀ (W : World) (kb kmb : Nat) (ov : Value) (NL : List ByteArray) (x : ByteArray), Below w.heap.size w W → KnT W kb kmb ov (NL.map tl) → x.size ≤ 9223372036854775807 → NL.length ≤ 8000 → Calls Tryz.prog 40 #[.pointer (some ⟨mb + 2, 0, none⟩), .string x, .pointer (some ⟨kb, 0, none⟩)] W fun e w' => e = .returned (.tuple #[]) ∧ ∃ ov', KnT w' kb kmb ov' ((addN NL (impO S T n x)).map tl) ∧ But (kb :: kmb :: ov.ownBlock.toList) W w' ∧ ∀ b, ov'.ownBlock = some b → ov.ownBlock = some b ∨ W.heap.size ≤ b) :=
    fun W kb kmb ov NL x hb hk hx hl => p_meet W (h.on hb) hk x hx (by omega) (fun d hd => dsOf_nm hd)
  clear h
  go_enter Tryz.func30, Tryz.ntmps30
  go_wp2_with fail
  refine (kt_new w).mono ?_
  rintro e w1 ⟨rfl, hK, hB⟩
  have hb1 : Below w.heap.size w w1 := ⟨hB.os, hB.tape, hB.output, hB.size, fun k hk => hB.block k hk (by simp)⟩
  have C1 : Hid (Calls Tryz.prog 40 #[.pointer (some ⟨mb + 2, 0, none⟩), .string s, .pointer (some ⟨w.heap.size + 1, 0, none⟩)] w1 _) := HM.out w1 (w.heap.size + 1) w.heap.size (.slice none 0 0) [] s hb1 hK hs (Nat.zero_le _)
  have HB1 : Hid (Below w.heap.size w w1) := hb1
  clear hK hB hb1
  go_wp2_with fail
  refine C1.out.mono ?_
  rintro e w2 ⟨rfl, ov, hkn, hbt, hnw⟩
  have ST : Hid (AL w w2 ov S T n s 0 (impO S T n s)) := by
    have e0 : addN [] (impO S T n s) = impO S T n s := addN_own _ [] (by rw [List.nil_append]; exact (impO_met S T n s).nd)
    rw [e0] at hkn
    refine ⟨below_but HB1.out hbt (fun b hm => ?_), hkn, impO_met S T n s, Nat.zero_le _, rfl⟩
    simp [Value.ownBlock] at hm
    omega
  clear hkn hbt hnw C1
  go_wp2
  go_loopw [6] (fun i wr => ∃ (k : Nat) (ov : Value) (NL : List ByteArray), k ≤ 8000 ∧ i = .int .i64 k ∧ Hid (AL w wr ov S T n s k NL)) (fun i _ => 8001 - (intOf i).toNat)
  case atStart => exact ⟨0, _, _, Nat.zero_le _, rfl, ST⟩
  case round =>
    clear ST
    obtain ⟨k, ov, NL, hk8, rfl, HI⟩ := hrel
    have hlen := HI.out.met.len
    have hle := HI.out.le
    have hu := HU.out
    have OWN := HI.out.kn.own
    obtain ⟨nl, hnl⟩ : ∃ nl, nl = NL.length := ⟨_, rfl⟩
    rw [← hnl] at OWN hlen hle
    have HNN : Hid (nl = NL.length) := hnl
    clear hnl
    obtain ⟨va, vc, hv⟩ := own_form OWN
    subst hv
    have hl8 : nl ≤ 8000 := by omega
    clear hlen hu
    have c1 : wr.cell? ⟨w.heap.size + 1, 1, none⟩ = some (.slice va nl vc) := HI.out.kn.row.cell (i := 1) (by omega)
    by_cases hlt : k < nl
    · obtain ⟨g, rfl, ck⟩ := st_cell OWN HNN.out hlt
      have hz : (NL.getD k ByteArray.empty).size ≤ 1000 := by
        have hk' : k < NL.length := by rw [← HNN.out]; exact hlt
        rw [List.getD_eq_getElem?_getD, List.getElem?_eq_getElem hk']
        exact impU_size (HI.out.met.sub _ (List.getElem_mem hk'))
      obtain ⟨x, hx⟩ : ∃ x, x = NL.getD k ByteArray.empty := ⟨_, rfl⟩
      rw [← hx] at ck hz
      have C2 : Hid (Calls Tryz.prog 40 #[.pointer (some ⟨mb + 2, 0, none⟩), .string x, .pointer (some ⟨w.heap.size + 1, 0, none⟩)] wr _) := HM.out wr (w.heap.size + 1) w.heap.size _ NL x HI.out.below HI.out.kn (by omega) (by rw [← HNN.out]; exact hl8)
      have HX : Hid (NL.getD k ByteArray.empty = x) := hx.symm
      clear hx OWN
      go_wp2_with fail
      refine C2.out.mono ?_
      rintro e w3 ⟨rfl, ov2, hkn, hbt, hnw⟩
      have HNX : Hid (AL w w3 ov2 S T n s (k + 1) (addN NL (impO S T n x))) := by
        have := HI.out.next (ov2 := ov2) (w2 := w3) (by rw [← HNN.out]; exact hlt) hk8 (by rw [HX.out]; exact hkn) hbt
        rw [HX.out] at this
        exact this
      clear hkn hbt hnw C2
      go_wp2
      exact ⟨⟨k + 1, ov2, _, by omega, by go_num, HNX⟩, by simp [intOf]; omega⟩
    · have hkn : k = nl := by omega
      subst hkn
      have HE : Hid (rchO S T n s = NL) := by
        show _ = _
        rw [← HI.out.rest, rch_end (by rw [← HNN.out]; omega)]
      have CS : Hid (Calls Tryz.prog 41 #[.slice va k vc] wr fun e w' => e = .returned (.tuple #[]) ∧ But (Value.slice va k vc).ownBlock.toList wr w' ∧ w'.ownsRow (w.heap.size + 1 + 1) 9 1 (.slice va k vc) NL.length (sts (srtN NL))) := p_sort wr (by rw [← HNN.out]; exact OWN) (by rw [← HNN.out]; omega)
      have HL : Hid (∀ b, b ∈ (Value.slice va k vc).ownBlock.toList → w.heap.size + 2 ≤ b) := fun b hm => (OWN.lt b (by simpa using hm)).1
      clear OWN
      go_wp2_with fail
      refine CS.out.mono ?_
      rintro e w3 ⟨rfl, hbt, hO3⟩
      have c3 : w3.cell? ⟨w.heap.size + 1, 1, none⟩ = some (.slice va k vc) := hbt.cell c1 (fun hm => by have := HL.out _ hm; omega)
      have HF : Hid (Below w.heap.size w w3) := below_but HI.out.below hbt (fun b hm => by have := HL.out b hm; omega)
      have HO3 : Hid (w3.ownsRow (w.heap.size + 1 + 1) 9 1 (.slice va k vc) NL.length (sts (srtN NL))) := hO3
      clear hbt hO3 c1
      go_wp2
      go_ret
      refine ⟨HF.out, _, rfl, ?_⟩
      rw [HE.out, srtN_len]
      exact own_mono HO3.out (by omega)

end Go.Proofs.YtmcbmcjbgjnbhaaGreatDoor

namespace Go.Proofs.YtmcbmcjbgjnbhaaGreatDoor
open Go.RowKit

theorem KnS.box {w : World} {kb mb : Nat} {ov : Value} {D : DataW Unit} {ord : List (List UInt8)} {keep : Nat → Prop} (h : KnS w kb mb ov D ord keep) (o : Obj) :
    KnS (w.alloc o) kb mb ov D ord (fun k => keep k ∨ k = w.heap.size) := by
  have hk := h.row.lt
  have hm := h.mlt
  refine ⟨h.row.alloc _, h.mlt, h.map.alloc _, h.has, h.val, h.own.alloc _, fun k hk' => ?_⟩
  rcases hk' with hk' | rfl
  · obtain ⟨f1, f2, f3, f4⟩ := h.far k hk'
    exact ⟨by simp; omega, f2, f3, f4⟩
  · exact ⟨by simp, by omega, by omega, fun e => by have := (h.own.lt _ e.symm).2; omega⟩

theorem KnS.less {w : World} {kb mb : Nat} {ov : Value} {D : DataW Unit} {ord : List (List UInt8)} {keep keep' : Nat → Prop} (h : KnS w kb mb ov D ord keep) (hk : ∀ k, keep' k → keep k) : KnS w kb mb ov D ord keep' :=
  ⟨h.row, h.mlt, h.map, h.has, h.val, h.own, fun k x => h.far k (hk k x)⟩

theorem Kept.less {keep keep' : Nat → Prop} {w w' : World} (h : Kept keep w w') (hk : ∀ k, keep' k → keep k) : Kept keep' w w' := ⟨h.os, h.tape, h.output, h.size, fun k x => h.block k (hk k x)⟩

theorem Kept.toBelow {w w' : World} (h : Kept (fun k => k < w.heap.size) w w') : Below w.heap.size w w' := ⟨h.os, h.tape, h.output, h.size, fun k x => h.block k x⟩

/-- The names of the first k sources. -/
def nml (S : Nat → ByteArray) (k : Nat) : List (List UInt8) := (List.range k).map fun i => (S i).data.toList

theorem nml_length (S : Nat → ByteArray) (k : Nat) : (nml S k).length = k := by simp [nml]
theorem nml_yes {S : Nat → ByteArray} {k : Nat} (h : (nml S k).contains (S k).data.toList = true) : ∃ j, j < k ∧ (S k).toList = (S j).toList := by
  simp only [nml, List.contains_iff_mem, List.mem_map, List.mem_range] at h
  obtain ⟨j, hj, e⟩ := h
  exact ⟨j, hj, by rw [ByteArray.toList_eq, ByteArray.toList_eq, e]⟩
theorem nml_no {S : Nat → ByteArray} {k : Nat} (h : (nml S k).contains (S k).data.toList = false) : ∀ j, j < k → (S k).toList ≠ (S j).toList := by
  intro j hj e
  rw [ByteArray.toList_eq, ByteArray.toList_eq] at e
  have : (nml S k).contains (S k).data.toList = true := by
    simp only [nml, List.contains_iff_mem, List.mem_map, List.mem_range]
    exact ⟨j, hj, e.symm⟩
  rw [this] at h; cases h
theorem nml_next {S : Nat → ByteArray} {k : Nat} (h : (nml S k).contains (S k).data.toList = false) : addS (nml S k) (S k).data.toList = nml S (k + 1) := by
  unfold addS; rw [h]; simp [nml, List.range_succ]

set_option maxHeartbeats 4000000 in
theorem sc7 (ao : Option Addr) (b o n c : Nat) (S T : Nat → ByteArray) (w : World) (h1 : SrcsAt w ao b o n S T) (hS : ∀ i, i < n → (S i).size ≤ 1048576) :
    Calls Tryz.prog 18 #[.slice ao n c] w fun e w' => e = .returned (.bool (vsr n S T)) ∧ Below w.heap.size w w' := by
  have hlen := h1.len
  have A1 := h1.at_
  have HB : Hid (∀ w', Below w.heap.size w w' → SrcsAt w' ao b o n S T) := fun w' hb => h1.below hb
  have HS : Hid (∀ i, i < n → (S i).size ≤ 1048576) := hS
  clear h1 hS
  by_cases hbig : 8 < n
  · have HV : Hid (vsr n S T = false) := vsr_big hbig
    go_enter Tryz.func18, Tryz.ntmps18
    go_wp2
    go_ret
    exact ⟨ret_bool HV.out.symm, Below.refl _ _⟩
  go_enter Tryz.func18, Tryz.ntmps18
  go_wp2_with fail
  refine (kn_new w (fun k => k < w.heap.size) (fun _ h => h)).mono ?_
  rintro e w1 ⟨rfl, hK, hKe⟩
  have HK : Hid (KnS w1 (w.heap.size + 1) w.heap.size (.slice none 0 0) (.map []) [] (fun k => k < w.heap.size) ∧ Kept (fun k => k < w.heap.size) w w1) := ⟨hK, hKe⟩
  clear hK hKe
  go_wp2
  go_loopw [14] (fun i wr => ∃ (k : Nat) (ov : Value) (D : DataW Unit), k ≤ n ∧ i = .int .i64 k ∧ Hid (KnS wr (w.heap.size + 1) w.heap.size ov D (nml S k) (fun k => k < w.heap.size) ∧ Kept (fun k => k < w.heap.size) w wr) ∧ Hid (∀ j, j < k → sok S T j = true)) (fun i _ => n - (intOf i).toNat)
  case atStart => exact ⟨0, _, _, Nat.zero_le _, rfl, HK, fun j h => absurd h (Nat.not_lt_zero _)⟩
  case round =>
    clear HK
    obtain ⟨k, ov, D, hk, rfl, HK, HA⟩ := hrel
    by_cases hlt : k < n
    · have e1 := A1 (by omega)
      have q1 := HB.out wr HK.out.2.toBelow
      have g0 := q1.c0 k hlt
      have g1 := q1.c1 k hlt
      have z0 := HS.out k hlt
      have z1 := q1.sizeT k hlt
      clear q1
      subst e1
      go_wp2_with fail
      have hka := HK.out.1.box (.cells #[.string (S k), .string (T k)] 38)
      have hz0 : (S k).data.toList.length = (S k).size := rfl
      refine (kn_number (w.heap.size + 1) w.heap.size ov D (nml S k) _ (S k).data.toList _ hka (by unfold maxLen; omega) (by rw [nml_length]; omega)).mono ?_
      rintro e w2 ⟨ov2, D2, rfl, hK2, hKe2⟩
      have r0 := row2 wr (.string (S k)) (.string (T k)) 38
      have r1 := r0.of_block (hKe2.block wr.heap.size (Or.inr rfl))
      have d0 : w2.cell? ⟨wr.heap.size, 0, none⟩ = some (.string (S k)) := r1.cell (i := 0) (by omega)
      have d1 : w2.cell? ⟨wr.heap.size, 1, none⟩ = some (.string (T k)) := r1.cell (i := 1) (by omega)
      have B0 : Kept (fun k => k < w.heap.size) wr (wr.alloc (.cells #[.string (S k), .string (T k)] 38)) := ⟨rfl, rfl, rfl, by simp, fun i hi => Below.heap_alloc _ _ _ (by have := HK.out.2.size; omega)⟩
      have HE : Hid (Kept (fun k => k < w.heap.size) w w2) := (HK.out.2.trans B0).trans (hKe2.less (fun _ h => Or.inl h))
      have HK2 : Hid (KnS w2 (w.heap.size + 1) w.heap.size ov2 D2 (addS (nml S k) (S k).data.toList) (fun k => k < w.heap.size)) := hK2.less (fun _ h => Or.inl h)
      clear hka hK2 hKe2 r0 r1 B0
      cases hc : (nml S k).contains (S k).data.toList
      case true =>
        have HF : Hid (vsr n S T = false) := by
          obtain ⟨j, hj, e⟩ := nml_yes hc
          exact vsr_no k hlt (sok_twice j hj e)
        go_wp2
        go_ret
        exact ⟨ret_bool HF.out.symm, HE.out.toBelow⟩
      case false =>
        have HC : Hid ((nml S k).contains (S k).data.toList = false) := hc
        cases hg : gn (S k)
        · have HF : Hid (vsr n S T = false) := vsr_no k hlt (sok_name hg)
          go_wp2_with (go_at_call 28; refine (c40 _ _ (by omega)).mono ?_; rintro e w' ⟨rfl, rfl⟩)
          go_ret
          exact ⟨ret_bool HF.out.symm, HE.out.toBelow⟩
        by_cases ht : 1000 < (T k).size
        · have HF : Hid (vsr n S T = false) := vsr_no k hlt (sok_text ht)
          go_wp2_with (go_at_call 28; refine (c40 _ _ (by omega)).mono ?_; rintro e w' ⟨rfl, rfl⟩)
          go_ret
          exact ⟨ret_bool HF.out.symm, HE.out.toBelow⟩
        have HJ : Hid (sok S T k = true) := sok_yes hg (by omega) (nml_no HC.out)
        go_wp2_with (go_at_call 28; refine (c40 _ _ (by omega)).mono ?_; rintro e w' ⟨rfl, rfl⟩)
        go_roundw
        case rel => exact ⟨k + 1, ov2, D2, by omega, by go_num, ⟨by rw [← nml_next HC.out]; exact HK2.out, HE.out⟩, fun j hj => by
          by_cases e : j = k
          · subst e; exact HJ.out
          · exact HA.out j (by omega)⟩
        case measure => simp [intOf]; omega
    · have HF : Hid (vsr n S T = true) := vsr_yes (by omega) (fun j hj => HA.out j (by omega))
      have HE : Hid (Below w.heap.size w wr) := HK.out.2.toBelow
      go_wp2
      go_ret
      exact ⟨ret_bool HF.out.symm, HE.out⟩

end Go.Proofs.YtmcbmcjbgjnbhaaGreatDoor

namespace Go.Proofs.YtmcbmcjbgjnbhaaGreatDoor
open Go.RowKit Go.Maps Go.Sort

theorem tl_mk (a : List UInt8) : tl ⟨a.toArray⟩ = a := rfl
theorem srcI_succ (S : Nat → ByteArray) (k : Nat) (s : ByteArray) : srcI S (k + 1) s = (srcI S k s).or (if (S k).toList == s.toList then some k else none) := by
  unfold srcI
  rw [List.range_succ, List.find?_append]
  congr 1
  simp only [List.find?_cons, List.find?_nil]
  split <;> simp_all
/-- One more source. -/
theorem dsOf_new {S T : Nat → ByteArray} {k : Nat} (hd : ∀ j, j < k → (S k).toList ≠ (S j).toList) : dsOf S T (k + 1) (S k) = dsT (T k) := by
  have h0 : srcI S k (S k) = none := srcI_no (fun j hj => beq_eq_false_iff_ne.2 (fun e => hd j hj e.symm))
  unfold dsOf
  rw [srcI_succ, h0]
  simp only [Option.none_or, beq_self_eq_true, if_true]
  unfold dsT
  rw [decs_same]
theorem dsOf_old {S T : Nat → ByteArray} {k : Nat} {s : ByteArray} (hd : tl s ≠ tl (S k)) : dsOf S T (k + 1) s = dsOf S T k s := by
  have h0 : ((S k).toList == s.toList) = false := beq_eq_false_iff_ne.2 (fun e => hd (by rw [ByteArray.toList_eq, ByteArray.toList_eq] at e; exact e.symm))
  unfold dsOf
  rw [srcI_succ, h0]
  simp only [Bool.false_eq_true, if_false, Option.or_none]
/-- The map is written. -/
theorem PA.put {w w3 : World} {mb n n' : Nat} {ds ds' : List UInt8 → List DC} {U : List UInt8 → Value} (h : PA w mb n ds U) {a : List UInt8} {v : Value} (hm : MapU w3 mb n' (fun x => if x = a then v else U x)) (hg : w.grownBy w3 (some mb))
    (hv : ∃ (dv fv : Value) (ra : Option Addr) (rn rc : Nat) (xs : List (DC × DPl)), v = .agg #[dv, fv, .slice ra rn rc] ∧ UnitO (mb + 3) w dv fv (ds' a) xs) (hds : ∀ x, x ≠ a → ds' x = ds x) (hf : (ds' a).length ≤ 1000) : PA w3 mb n' ds' (fun x => if x = a then v else U x) := by
  have hb := gr_but hg
  have hl := h.lt
  refine ⟨h.row.of_block (hb.block _ hl (by simp)), hm, fun x => ?_, fun x => ?_⟩
  · by_cases e : x = a
    · subst e
      obtain ⟨dv, fv, ra, rn, rc, xs, e, hu⟩ := hv
      exact ⟨dv, fv, ra, rn, rc, xs, by rw [if_pos rfl]; exact e, hu.but hb (fun b hb => by have := List.mem_singleton.1 hb; omega)⟩
    · obtain ⟨dv, fv, ra, rn, rc, xs, e2, hu⟩ := h.un x
      rw [hds x e]
      exact ⟨dv, fv, ra, rn, rc, xs, by rw [if_neg e]; exact e2, hu.but hb (fun b hb => by have := List.mem_singleton.1 hb; omega)⟩
  · by_cases e : x = a
    · rw [e]; exact hf
    · rw [hds x e]; exact h.few x

/-- The state of readAll's first loop. -/
structure RL1 (w wr : World) (S T : Nat → ByteArray) (k : Nat) (U : List UInt8 → Value) : Prop where
  below : Below w.heap.size w wr
  pa : PA wr w.heap.size k (fun a => dsOf S T k ⟨a.toArray⟩) U
  nl : ∀ a, ∃ dv fv, U a = .agg #[dv, fv, .slice none 0 0]

theorem UnitO.nil (B : Nat) (w : World) : UnitO B w (.slice none 0 0) (.slice none 0 0) [] [] := ⟨OD.nil _ _, rfl, World.ownsRow_nil _ _ _ _⟩
theorem RL1.start {w wr : World} (S T : Nat → ByteArray) (hw : wr = ((w.alloc (.map #[] 0)).alloc (.map #[] 0)).alloc (.cells #[.map (some w.heap.size), .map (some (w.heap.size + 1))] 47)) : RL1 w wr S T 0 (fun _ => u0) := by
  have e1 : ((w.alloc (.map #[] 0)).alloc (.map #[] 0)).heap.size = w.heap.size + 2 := by simp
  have hb1 : Below w.heap.size w ((w.alloc (.map #[] 0)).alloc (.map #[] 0)) := (bel1 w _).alloc (by simp) _
  have hb2 : Below w.heap.size w wr := by rw [hw]; exact hb1.alloc (by rw [e1]; omega) _
  have hb3 : Below (w.heap.size + 1) (w.alloc (.map #[] 0)) wr := by
    have := (bel1 (w.alloc (.map #[] 0)) (.map #[] 0)).alloc (by simp) (.cells #[.map (some w.heap.size), .map (some (w.heap.size + 1))] 47)
    simp only [World.size_alloc] at this
    rw [hw]; exact this
  refine ⟨hb2, ⟨?_, (MapU.new w).of_block (hb3.block _ (by omega)), fun a => ?_, fun a => ?_⟩, fun a => ⟨_, _, rfl⟩⟩
  · have := row2 ((w.alloc (.map #[] 0)).alloc (.map #[] 0)) (.map (some w.heap.size)) (.map (some (w.heap.size + 1))) 47
    rw [e1, ← hw] at this
    exact this
  · exact ⟨_, _, _, _, _, [], rfl, UnitO.nil _ _⟩
  · exact dsOf_len S T 0 _
/-- One more module. -/
theorem RL1.next {w wr w2 w3 : World} {S T : Nat → ByteArray} {k : Nat} {U : List UInt8 → Value} {dv fv : Value} {xs : List (DC × DPl)} (h : RL1 w wr S T k U) (hd : ∀ j, j < k → (S k).toList ≠ (S j).toList) (hb : Below wr.heap.size wr w2) (hu : UnitO wr.heap.size w2 dv fv (dsT (T k)) xs)
    (hm : MapU w3 w.heap.size (k + 1) (fun x => if x = tl (S k) then .agg #[dv, fv, .slice none 0 0] else U x)) (hg : w2.grownBy w3 (some w.heap.size)) : RL1 w w3 S T (k + 1) (fun x => if x = tl (S k) then .agg #[dv, fv, .slice none 0 0] else U x) := by
  have hl := h.pa.lt
  have e : dsOf S T (k + 1) (S k) = dsT (T k) := dsOf_new hd
  refine ⟨?_, (h.pa.on hb).put hm hg ⟨dv, fv, none, 0, 0, xs, rfl, ?_⟩ (fun x hx => dsOf_old (by rw [tl_mk]; exact hx)) (dsOf_len S T (k + 1) _), fun a => ?_⟩
  · exact below_but (h.below.trans (hb.mono h.below.size)) (gr_but hg) (fun b hb => by have := List.mem_singleton.1 hb; omega)
  · show UnitO _ w2 dv fv (dsOf S T (k + 1) (S k)) xs
    rw [e]
    exact ⟨hu.od.mono (by omega), hu.is, own_mono hu.fl (by omega)⟩
  · by_cases ea : a = tl (S k)
    · exact ⟨dv, fv, by rw [if_pos ea]⟩
    · obtain ⟨dv', fv', e'⟩ := h.nl a
      exact ⟨dv', fv', by rw [if_neg ea]; exact e'⟩

/-- What is reached from a module. -/
def rlA (S T : Nat → ByteArray) (n : Nat) (a : List UInt8) : List ByteArray := srtN (rchO S T n ⟨a.toArray⟩)
/-- The state of readAll's second loop. -/
structure RL2 (w wr : World) (S T : Nat → ByteArray) (n q : Nat) (U : List UInt8 → Value) : Prop where
  below : Below w.heap.size w wr
  pa : PA wr w.heap.size (n + q) (fun a => dsOf S T n ⟨a.toArray⟩) U
  re : ∀ a, ∃ dv fv rv, U a = .agg #[dv, fv, rv] ∧ ((∃ j, j < q ∧ tl (S j) = a) → wr.ownsRow (w.heap.size + 3) 9 1 rv (rlA S T n a).length (sts (rlA S T n a))) ∧ ((∀ j, j < q → tl (S j) ≠ a) → rv = .slice none 0 0)

theorem RL2.start {w wr : World} {S T : Nat → ByteArray} {n : Nat} {U : List UInt8 → Value} (h : RL1 w wr S T n U) : RL2 w wr S T n 0 U :=
  ⟨h.below, h.pa, fun a => by
    obtain ⟨dv, fv, e⟩ := h.nl a
    exact ⟨dv, fv, _, e, fun ⟨j, hj, _⟩ => absurd hj (Nat.not_lt_zero _), fun _ => rfl⟩⟩
theorem RL2.next {w wr w4 w5 : World} {S T : Nat → ByteArray} {n q : Nat} {U : List UInt8 → Value} {dv fv : Value} {rv : Value} (h : RL2 w wr S T n q U) (hb : Below wr.heap.size wr w4) (hu : ∃ rv0, U (tl (S q)) = .agg #[dv, fv, rv0])
    (ho : w4.ownsRow wr.heap.size 9 1 rv (rlA S T n (tl (S q))).length (sts (rlA S T n (tl (S q)))))
    (hm : MapU w5 w.heap.size (n + (q + 1)) (fun x => if x = tl (S q) then .agg #[dv, fv, rv] else U x)) (hg : w4.grownBy w5 (some w.heap.size)) : RL2 w w5 S T n (q + 1) (fun x => if x = tl (S q) then .agg #[dv, fv, rv] else U x) := by
  have hl := h.pa.lt
  have hbt := gr_but hg
  have keep : ∀ {v : Value} {m : Nat} {ns : List Value}, w4.ownsRow (w.heap.size + 3) 9 1 v m ns → w5.ownsRow (w.heap.size + 3) 9 1 v m ns := fun {v m ns} ho => own_block ho (fun b e => hbt.block b (ho.lt b e.symm).2 (fun hm => by have := (ho.lt b e.symm).1; have := List.mem_singleton.1 hm; omega))
  refine ⟨?_, ?_, fun a => ?_⟩
  · exact below_but (h.below.trans (hb.mono h.below.size)) hbt (fun b hb => by have := List.mem_singleton.1 hb; omega)
  · refine (h.pa.on hb).put hm hg ?_ (fun x _ => rfl) (dsOf_len S T n _)
    obtain ⟨rv0, hu⟩ := hu
    obtain ⟨dv', fv', ra, rn, rc, xs, e, hu'⟩ := (h.pa.on hb).un (tl (S q))
    rw [hu] at e
    simp only [Value.agg.injEq, Array.mk.injEq, List.cons.injEq, and_true] at e
    obtain ⟨rfl, rfl, _⟩ := e
    obtain ⟨oa, oc, rfl⟩ := own_form ho
    exact ⟨dv, fv, oa, _, oc, xs, rfl, hu'⟩
  · by_cases ea : a = tl (S q)
    · subst ea
      refine ⟨dv, fv, rv, by rw [if_pos rfl], fun _ => keep (own_mono ho (by omega)), fun hn => absurd rfl (hn q (Nat.lt_succ_self q))⟩
    · obtain ⟨dv', fv', rv', e', h1, h2⟩ := h.re a
      refine ⟨dv', fv', rv', by rw [if_neg ea]; exact e', fun ⟨j, hj, hja⟩ => ?_, fun hn => h2 (fun j hj => hn j (Nat.lt_succ_of_lt hj))⟩
      have hjq : j < q := by
        rcases Nat.lt_or_ge j q with z | z
        · exact z
        · exact absurd (by rw [← hja, show j = q by omega]) ea
      have h3 := h1 ⟨j, hjq, hja⟩
      exact keep (own_block h3 (fun b e => hb.block b (h3.lt b e.symm).2))

end Go.Proofs.YtmcbmcjbgjnbhaaGreatDoor

namespace Go.Proofs.YtmcbmcjbgjnbhaaGreatDoor
open Go.RowKit Go.Maps

set_option maxRecDepth 100000 in
set_option maxHeartbeats 4000000 in
theorem p_newUnit (s : ByteArray) (m : Int) (w : World) (hs : s.size ≤ 9223372036854775807) (hm : w.cell? ⟨1, 0, none⟩ = some (.int .i64 m)) {eT : TypeId} {eV : Value} (hev : w.cell? ⟨0, 0, none⟩ = some (.iface eT eV)) :
    Calls Tryz.prog 29 #[.string s] w (UnR w (dsT s)) := by
  obtain ⟨i0, hi0, hz0, hz1, hz2⟩ := info_parts Tryz.info4
  have h0 := World.block_lt_of_cell? _ _ hev
  have h1 := World.block_lt_of_cell? _ _ hm
  obtain ⟨W1, hW1⟩ : ∃ W1, W1 = w.alloc (.cells #[.slice none 0 0, .slice none 0 0, .slice none 0 0] 43) := ⟨_, rfl⟩
  have B1 : Below w.heap.size w W1 := by rw [hW1]; exact bel1 _ _
  have s1 : W1.heap.size = w.heap.size + 1 := by rw [hW1]; simp
  have R1 : Hid (W1.rowIs w.heap.size 43 3 (v3 (.slice none 0 0) (.slice none 0 0) (.slice none 0 0))) := by rw [hW1]; exact row3 _ _ _ _ _
  have CP : Hid (Calls Tryz.prog 37 #[.string s] W1 (ModR W1 (dsT s))) := p_parse s m W1 hs ((B1.cell (p := ⟨1, 0, none⟩) h1).trans hm) ((B1.cell (p := ⟨0, 0, none⟩) h0).trans hev)
  have HS1 : Hid (W1.heap.size = w.heap.size + 1) := s1
  have HB1 : Hid (Below w.heap.size w W1) := B1
  have HL : Hid ((dsT s).length ≤ 1000) := dsT_len s
  clear hm hev h0 h1 s1 B1
  go_enter Tryz.func29, Tryz.ntmps29
  go_wp2_with fail
  rw [← hW1]
  clear hW1
  refine CP.out.mono ?_
  rintro e w1 ⟨hb, v, xs, rfl, hO, hx⟩
  obtain ⟨da, dc, rfl⟩ := own_form hO.own
  obtain ⟨N, hN⟩ : ∃ N, N = xs.length := ⟨_, rfl⟩
  have hN1 : N ≤ 1000 := by have := HL.out; rw [← hx, List.length_map] at this; omega
  rw [← hN] at hO ⊢
  have HN : Hid (N = xs.length) := hN
  have HX : Hid (xs.map Prod.fst = dsT s) := hx
  have HO : Hid (OD W1.heap.size w1 (.slice da N dc) xs) := hO
  have HB : Hid (Below W1.heap.size W1 w1) := hb
  clear hb hO hx hN CP
  go_wp2
  rw [md_decls]
  have CK := ku_new (w1.alloc (.cells #[.slice da N dc, .slice none 0 0, .slice none 0 0] 43))
  simp only [World.size_alloc] at CK
  have HCK : Hid (Calls Tryz.prog 38 #[] (w1.alloc (.cells #[.slice da N dc, .slice none 0 0, .slice none 0 0] 43)) _) := CK
  clear CK
  go_wp2_with fail
  refine HCK.out.mono ?_
  rintro e w2 ⟨rfl, hK, hB⟩
  have r0 : w2.rowIs w1.heap.size 43 3 (v3 (.slice da N dc) (.slice none 0 0) (.slice none 0 0)) := (row3 w1 _ _ _ _).of_block (hB.block w1.heap.size (by simp) (by simp))
  have c0 : w2.cell? ⟨w1.heap.size, 0, none⟩ = some (.slice da N dc) := r0.cell (i := 0) (by omega)
  have ST : Hid (UL w1 w2 (.slice da N dc) (.slice none 0 0) (.slice none 0 0) (dsT s) 0 [] []) :=
    ⟨(bel1 w1 _).trans ⟨hB.os, hB.tape, hB.output, hB.size, fun k hk => hB.block k (by simp only [World.size_alloc]; omega) (by simp)⟩, r0, hK, World.ownsRow_nil _ _ _ _, rfl, rfl, Nat.le_refl _⟩
  clear hK hB r0 HCK
  go_wp2
  go_loopw [17] (fun i wr => ∃ (k : Nat) (fv ov : Value) (ord : List (Int × List UInt8)) (fl : List Bool), k ≤ N ∧ i = .int .i64 k ∧ Hid (UL w1 wr (.slice da N dc) fv ov (dsT s) k ord fl)) (fun i _ => N - (intOf i).toNat)
  case atStart => exact ⟨0, _, _, _, _, Nat.zero_le _, rfl, ST⟩
  case round =>
    clear ST c0
    obtain ⟨k, fv, ov, ord, fl, hk, rfl, HI⟩ := hrel
    have OWN := HI.out.own
    rw [HI.out.len] at OWN
    obtain ⟨fa, fc, hv⟩ := own_form OWN
    subst hv
    have hol := HI.out.ol
    have hbx := HI.out.box.lt
    clear OWN
    by_cases hlt : k < N
    · have h1 := HO.out.but (toBut HI.out.below) (fun b _ => by simp) (fun b _ => by simp)
      have h1' := h1.own
      rw [← HN.out] at h1'
      obtain ⟨g, x, ta, tn, tc, ea, en, ec, rfl, hg, c0, c1, c2, c3, hx, hdc⟩ := dk4 h1' HN.out h1.fm hlt
      have hd : (dsT s)[k]? = some x.1 := by rw [← HX.out, List.getElem?_map, hx]; rfl
      have HSM : Hid (SmQ (dkey x.1)) := dsT_sm (List.mem_of_getElem? hd)
      obtain ⟨⟨dk, nm, dt, de⟩, dp⟩ := x
      simp only at c0 c1 hd
      have HD : Hid ((dsT s)[k]? = some ⟨dk, nm, dt, de⟩) := hd
      obtain ⟨nb, hnb⟩ : ∃ nb, nb = !ord.contains (dkey ⟨dk, nm, dt, de⟩) := ⟨_, rfl⟩
      have HNB : Hid ((!ord.contains (dkey ⟨dk, nm, dt, de⟩)) = nb) := hnb.symm
      have HC : Hid (Calls Tryz.prog 39 #[.pointer (some ⟨w1.heap.size + 2, 0, none⟩), .agg #[.int .i64 dk, .string nm]] (wr.alloc (.cells #[.int .i64 dk, .string nm, .slice ta tn tc, .slice ea en ec] 67)) fun e w' =>
        ∃ (x : Int) (ov' : Value), e = .returned (.tuple #[.int .i64 x, .bool nb]) ∧ KnU w' (w1.heap.size + 2) (w1.heap.size + 1) ov' (addM ord (dkey ⟨dk, nm, dt, de⟩)) ∧ But ((w1.heap.size + 2) :: (w1.heap.size + 1) :: ov.ownBlock.toList) (wr.alloc (.cells #[.int .i64 dk, .string nm, .slice ta tn tc, .slice ea en ec] 67)) w') := by
        refine (ku_number (w1.heap.size + 2) (w1.heap.size + 1) ov ord (dkey ⟨dk, nm, dt, de⟩) _ (HI.out.kn.but ((But.refl [] _).alloc _) (by simp) (by simp) (fun b _ => by simp)) HSM.out (by omega)).mono ?_
        rintro e w' ⟨x, ov', he, h2, h3, _⟩
        rw [HNB.out] at he
        exact ⟨x, ov', he, h2, h3⟩
      clear h1 h1' hx hdc hd hnb
      go_wp2_with fail
      refine HC.out.mono ?_
      rintro e w2 ⟨x, ov2, rfl, hkn, hbt⟩
      obtain ⟨OWN2, r2⟩ := HI.out.on hbt
      rw [HI.out.len] at OWN2
      have hs2 := hbt.size
      simp only [World.size_alloc] at hs2
      have d1 : w2.cell? ⟨w1.heap.size, 1, none⟩ = some (.slice fa k fc) := r2.cell (i := 1) (by omega)
      have d1' : (w2.alloc (.cells #[.bool nb] 4)).cell? ⟨w1.heap.size, 1, none⟩ = some (.slice fa k fc) := (r2.alloc (.cells #[.bool nb] 4)).cell (i := 1) (by omega)
      have d2' := (r2.alloc (.cells #[.bool nb] 4)).frozen 1
      have n1 : some w1.heap.size ≠ (Value.slice fa k fc).ownBlock := fun e => by have := (OWN2.lt w1.heap.size e.symm).1; omega
      have HKN : Hid (KnU w2 (w1.heap.size + 2) (w1.heap.size + 1) ov2 (addM ord (dkey ⟨dk, nm, dt, de⟩))) := hkn
      have HBT : Hid (But ((w1.heap.size + 2) :: (w1.heap.size + 1) :: ov.ownBlock.toList) (wr.alloc (.cells #[.int .i64 dk, .string nm, .slice ta tn tc, .slice ea en ec] 67)) w2) := hbt
      clear hkn hbt HC r2
      have hlw : w1.heap.size < w2.heap.size := by omega
      go_wp2_with (first | (at_builtin; refine wpList_append_lies _ rfl _ _ 41 rfl (w1.heap.size + 3) 4 i0 _ 1 1 Tryz.underlying41 hi0 hz0 hz1 hz2 rfl (by omega) (.slice fa k fc) k (fl.map Value.bool) rfl (OWN2.alloc _) ⟨w2.heap.size, 0, none⟩ 1 1 [.bool nb] rfl rfl (cell_one_new _ _ _) (by simp [Value.oneCell']) (by omega) (by unfold maxLen; omega) (by omega) (by simp; omega) (w2.heap.size + 1) (by simp) ?_; intro gg cap3 w3 hown3 hg3 hat hlt3; have f1 : w3.cell? ⟨w1.heap.size, 1, none⟩ = some (.slice fa k fc) := (hg3.cell_far ⟨w1.heap.size, 1, none⟩ (by simp; omega) n1).trans d1'; have f2 : w3.frozen? ⟨w1.heap.size, 1, none⟩ = false := (hg3.frozen_far ⟨w1.heap.size, 1, none⟩ (by simp; omega) n1).trans d2'))
      have HNX : Hid (UL w1 (w3.setCell ⟨w1.heap.size, 1, none⟩ (.slice (some ⟨gg, 0, none⟩) (k + 1) cap3)) (.slice (some ⟨g, 0, none⟩) N dc) (.slice (some ⟨gg, 0, none⟩) (k + 1) cap3) ov2 (dsT s) (k + 1) (addM ord (dkey ⟨dk, nm, dt, de⟩)) (fl ++ [nb])) := by
        have := HI.out.next (gg := gg) (cap3 := cap3) (w3 := w3) HD.out HKN.out HBT.out (by rw [HI.out.len, HNB.out]; exact hown3) hg3
        rw [HI.out.len, HNB.out] at this
        exact this
      clear hown3 hg3 hat hlt3 OWN2 d1 d1' d2'
      go_wp2
      exact ⟨⟨k + 1, _, _, _, _, by omega, by go_num, HNX⟩, by simp [intOf]; omega⟩
    · have hkn : k = N := by omega
      subst hkn
      have r0 := HI.out.box
      have c0 : wr.cell? ⟨w1.heap.size, 0, none⟩ = some (.slice da k dc) := r0.cell (i := 0) (by omega)
      have c1 : wr.cell? ⟨w1.heap.size, 1, none⟩ = some (.slice fa k fc) := r0.cell (i := 1) (by omega)
      have c2 : wr.cell? ⟨w1.heap.size, 2, none⟩ = some (.slice none 0 0) := r0.cell (i := 2) (by omega)
      have hs1 := HB.out.size
      have hs0 := HS1.out
      have R2 : wr.rowIs w.heap.size 43 3 (v3 (.slice none 0 0) (.slice none 0 0) (.slice none 0 0)) := R1.out.of_block ((HI.out.below.block w.heap.size (by omega)).trans (HB.out.block w.heap.size (by omega)))
      have x0 : wr.cell? ⟨w.heap.size, 0, none⟩ = some (.slice none 0 0) := R2.cell (i := 0) (by omega)
      have x1 : wr.cell? ⟨w.heap.size, 1, none⟩ = some (.slice none 0 0) := R2.cell (i := 1) (by omega)
      have x2 : wr.cell? ⟨w.heap.size, 2, none⟩ = some (.slice none 0 0) := R2.cell (i := 2) (by omega)
      have y0 := R2.frozen 0
      have y1 := R2.frozen 1
      have y2 := R2.frozen 2
      have HR2 : Hid (wr.rowIs w.heap.size 43 3 (v3 (.slice none 0 0) (.slice none 0 0) (.slice none 0 0))) := R2
      clear R2 r0
      go_wp2
      refine bodyPost_ret (un_ret HR2.out _ _ _ _ rfl) rfl ?_
      have hbt : But [w.heap.size] wr (((wr.setCell ⟨w.heap.size, 0, none⟩ (.slice da k dc)).setCell ⟨w.heap.size, 1, none⟩ (.slice fa k fc)).setCell ⟨w.heap.size, 2, none⟩ (.slice none 0 0)) :=
        (((But.refl [w.heap.size] wr).set (fun _ => by simp) 0 _).set (fun _ => by simp) 1 _).set (fun _ => by simp) 2 _
      have hB : Below w.heap.size w wr := (HB1.out.trans (HB.out.mono (by omega))).trans (HI.out.below.mono (by omega))
      have hod := HO.out.but (toBut HI.out.below) (fun b _ => by simp) (fun b _ => by simp)
      have hfl : fl = fstK [] (dsT s) := by
        have := HI.out.is
        rw [List.drop_of_length_le (by rw [← HX.out, List.length_map]; exact Nat.le_of_eq HN.out.symm), fstK, List.append_nil] at this
        exact this
      have hle : (dsT s).length = k := by rw [← HX.out, List.length_map]; exact HN.out.symm
      refine ⟨below_but hB hbt (fun b hb => Nat.le_of_eq (List.mem_singleton.1 hb).symm), _, _, xs, rfl, (hod.low hbt (fun b hb => Or.inl (by have := List.mem_singleton.1 hb; omega))).mono (by omega), HX.out, ?_⟩
      have ho := HI.out.own
      rw [HI.out.len, hfl] at ho
      rw [hle]
      exact own_mono (own_block ho (fun b e => hbt.block b (ho.lt b e.symm).2 (fun hm => by have := (ho.lt b e.symm).1; have := List.mem_singleton.1 hm; omega))) (by omega)

end Go.Proofs.YtmcbmcjbgjnbhaaGreatDoor

