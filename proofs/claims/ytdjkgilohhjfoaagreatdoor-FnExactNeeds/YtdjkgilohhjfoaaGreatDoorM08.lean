/-
  Merged for the claim: PdF PdG.
-/
import Derived.Test.YtdjkgilohhjfoaaGreatDoorPdE
import Derived.Deep.DeepCutAuto
namespace Go.Proofs.YtdjkgilohhjfoaaGreatDoor
open Go.RowKit

set_option maxRecDepth 100000 in
set_option maxHeartbeats 2000000 in
theorem atom_brk {B P tb o : Nat} {ts : List TK} {eT : TypeId} {eV : Value} {f : Nat} (IH : ExC B P tb o ts eT eV f) (hP : P < B) (htb : tb < B) {i : Nat} {w : World} {v : Value} {xs : List (EI × EPl)} (hps : PsAt w P tb o i ts eT eV) (hot : OE B w v xs) (hxi : xs.length ≤ i) (hB : B ≤ w.heap.size) (hf : ts.length - i < f + 1) (hc : isC ts i 1 = false) (h3 : isC ts i 3 = false) (hs : isT ts i sLeft = true) :
    Calls Tryz.prog 91 #[.pointer (some ⟨P, 0, none⟩), v] w (ExR B P tb o ts eT eV w v xs (atomP true ts (exP true ts f) i)) := by
  have hi := isT_lt hs
  have HIH : Hid (ExC B P tb o ts eT eV f) := IH
  clear IH
  have HR : Hid (atomP true ts (exP true ts f) i = brkP ts (exP true ts f) (i + 1)) := by
    show _ = _
    unfold atomP
    rw [hc, if_neg (by decide), h3, if_neg (by decide)]
    rw [isT_one hs (s' := sTrue) (by decide), if_neg (by decide)]
    rw [isT_one hs (s' := sFalse) (by decide), if_neg (by decide)]
    rw [isT_one hs (s' := sOpen) (by decide), if_neg (by decide)]
    rw [if_pos hs]
  have q0 : ((tkA ts i).txt.toList == [116, 114, 117, 101]) = false := text_not hs _ (by decide)
  have q1 : ((tkA ts i).txt.toList == [102, 97, 108, 115, 101]) = false := text_not hs _ (by decide)
  have q2 : ((tkA ts i).txt.toList == [123]) = false := text_not hs _ (by decide)
  have q3 : ((tkA ts i).txt.toList == [40]) = true := text_yes hs
  rw [isC_at hi] at hc h3
  clear hs
  have HP : Hid (PsAt w P tb o i ts eT eV) := hps
  obtain ⟨va, vc, rfl⟩ := own_form hot.own
  have HO : Hid (OE B w (.slice va xs.length vc) xs) := hot
  have hn := hps.tk.len
  have hl9 := hps.le
  have hgd := hps.tk.gd
  clear hps hot
  obtain ⟨W2, hW2⟩ : ∃ W2, W2 = (w.alloc (.cells #[.pointer (some ⟨P, 0, none⟩)] 98)).alloc (.cells #[.slice va xs.length vc] 56) := ⟨_, rfl⟩
  have HB2 : Hid (But [] w W2) := by show But [] w W2; rw [hW2]; exact ((But.refl _ _).alloc _).alloc _
  have RQ : W2.rowIs w.heap.size 98 1 (fun _ => .pointer (some ⟨P, 0, none⟩)) := by rw [hW2]; exact (row1 _ _ _).alloc _
  have RX : W2.rowIs (w.heap.size + 1) 56 1 (fun _ => .slice va xs.length vc) := by
    have := row1 (w.alloc (.cells #[.pointer (some ⟨P, 0, none⟩)] 98)) (.slice va xs.length vc) 56
    simp only [World.size_alloc] at this
    rw [hW2]; exact this
  obtain ⟨i0, hi0, hz0, hz1, hz2⟩ := info_parts Tryz.infoEI
  go_enter Tryz.func91, Tryz.ntmps91
  go_wp2_with fail
  rw [← hW2]
  clear hW2
  refine (p_next W2 (HP.out.but HB2.out (by simp) (by simp) (by simp)) hi).mono ?_
  rintro e w1 ⟨rfl, h1, b1⟩
  unfold tkV
  obtain ⟨k0, hk0⟩ : ∃ k, k = (tkA ts i).cls := ⟨_, rfl⟩
  obtain ⟨k1, hk1⟩ : ∃ k, k = (tkA ts i).txt := ⟨_, rfl⟩
  obtain ⟨k2, hk2⟩ : ∃ k, k = ((tkA ts i).loc : Int) := ⟨_, rfl⟩
  have HK1 : Hid (tx ts i = k1) := by show _ = _; rw [hk1, tx_at hi]
  have HGD : Hid (k0 = cls k1.toList) := by show _ = _; rw [hk0, hk1]; exact hgd i hi
  rw [← hk0] at hc h3
  rw [← hk1] at q0 q1 q2 q3
  rw [← hk0, ← hk1, ← hk2]
  clear hk0 hk1 hk2 hgd
  have HB3 : Hid (But [P] w (w1.alloc (.cells #[.int .i64 k0, .string k1, .int .i64 k2] 89))) := ((HB2.out.more (S' := [P]) (fun _ z => by simp at z)).then_ b1).alloc _
  have RQ3 := (RQ.of_block (b1.block _ RQ.lt (by simp; omega))).alloc (.cells #[.int .i64 k0, .string k1, .int .i64 k2] 89)
  have RX3 := (RX.of_block (b1.block _ RX.lt (by simp; omega))).alloc (.cells #[.int .i64 k0, .string k1, .int .i64 k2] 89)
  have HP3 : Hid (PsAt (w1.alloc (.cells #[.int .i64 k0, .string k1, .int .i64 k2] 89)) P tb o (i + 1) ts eT eV) := h1.but ((But.refl ([] : List Nat) w1).alloc _) (by simp) (by simp) (by simp)
  have HO3 : Hid (OE B (w1.alloc (.cells #[.int .i64 k0, .string k1, .int .i64 k2] 89)) (.slice va xs.length vc) xs) := HO.out.low HB3.out (fun b z => by rw [List.mem_singleton.1 z]; exact Or.inl hP)
  have cq := RQ3.cell (i := 0) (by omega)
  have cx := RX3.cell (i := 0) (by omega)
  have ce := HP3.out.ev
  have hs1 : w.heap.size ≤ w1.heap.size := Nat.le_trans HB2.out.size b1.size
  clear h1 b1 RQ RX HP HB2
  clear HGD
  go_wp2_with fail
  obtain ⟨W3, hW3⟩ : ∃ W3, W3 = w1.alloc (.cells #[.int .i64 k0, .string k1, .int .i64 k2] 89) := ⟨_, rfl⟩
  rw [← hW3] at HB3 RQ3 RX3 HP3 HO3 cq cx ce ⊢
  clear hW3
  have hs3 := HB3.out.size
  refine (HIH.out (i + 1) W3 (.slice va xs.length vc) xs HP3.out HO3.out (by omega) (by omega) (by omega)).mono ?_
  intro e w4 hT
  obtain ⟨b4, hT⟩ := hT
  have HB4 : Hid (But (P :: (Value.slice va xs.length vc).ownBlock.toList) w w4) := (HB3.out.more (S' := P :: (Value.slice va xs.length vc).ownBlock.toList) (fun k z => by rw [List.mem_singleton.1 z]; simp)).then_ b4
  obtain ⟨r, hr⟩ : ∃ r, r = exP true ts f (i + 1) := ⟨_, rfl⟩
  have HTY : Hid (exP true ts f (i + 1) = r) := hr.symm
  rw [← hr] at hT
  clear hr
  cases r with
  | none =>
    have hT : e = .panicked [{ v := .iface eT eV, recovered := false }] := hT
    subst hT
    have HR2 : Hid (brkP ts (exP true ts f) (i + 1) = none) := by show _ = _; unfold brkP; rw [HTY.out]
    clear b4
    go_wp2
    exact ⟨rfl, by rw [HR.out, HR2.out]; exact ⟨HB4.out, rfl⟩⟩
  | some r =>
    obtain ⟨l, j⟩ := r
    obtain ⟨v', ys, rfl, O4, hl, P4, gr, nw⟩ := hT
    have nX : w.heap.size + 1 ∉ P :: (Value.slice va xs.length vc).ownBlock.toList := fun z => by
      rcases List.mem_cons.1 z with q | q
      · omega
      · have := (HO.out.own.lt _ (by simpa using q)).2
        omega
    have nQ : w.heap.size ∉ P :: (Value.slice va xs.length vc).ownBlock.toList := fun z => by
      rcases List.mem_cons.1 z with q | q
      · omega
      · have := (HO.out.own.lt _ (by simpa using q)).2
        omega
    have RX4 := RX3.of_block (b4.block _ RX3.lt nX)
    have RQ4 := RQ3.of_block (b4.block _ RQ3.lt nQ)
    have HY : Hid (ys.map Prod.fst = l) := hl
    have HGR : Hid (∀ b, v'.ownBlock = some b → (Value.slice va xs.length vc).ownBlock = some b ∨ w.heap.size ≤ b) := fun b e => by
      rcases gr b e with q | q
      · exact Or.inl q
      · exact Or.inr (by omega)
    obtain ⟨va', vc', hv'⟩ := own_form O4.own
    obtain ⟨n', hn'⟩ : ∃ n', n' = (xs ++ ys).length := ⟨_, rfl⟩
    rw [← hn'] at hv'
    subst hv'
    clear hn'
    have cx4 := RX4.cell (i := 0) (by omega)
    have cf4 := RX4.frozen 0
    have RX5 : (w4.setCell ⟨w.heap.size + 1, 0, none⟩ (.slice va' n' vc')).rowIs (w.heap.size + 1) 56 1 (fun _ => .slice va' n' vc') := (RX4.set 0 _).congr (fun k hk => by
      match k, hk with
      | 0, _ => rfl)
    have RQ5 := RQ4.setOther (a := ⟨w.heap.size + 1, 0, none⟩) (by show w.heap.size ≠ w.heap.size + 1; omega) (.slice va' n' vc')
    have cq5 := RQ5.cell (i := 0) (by omega)
    have cx5 := RX5.cell (i := 0) (by omega)
    have b45 : But [w.heap.size + 1] w4 (w4.setCell ⟨w.heap.size + 1, 0, none⟩ (.slice va' n' vc')) := (But.refl _ _).set (fun _ => by simp) 0 _
    have HB5 : Hid (But (P :: (Value.slice va xs.length vc).ownBlock.toList) w (w4.setCell ⟨w.heap.size + 1, 0, none⟩ (.slice va' n' vc'))) := HB4.out.trans b45 (fun k z h => by rw [List.mem_singleton.1 z] at h; omega)
    have HP5 : Hid (PsAt (w4.setCell ⟨w.heap.size + 1, 0, none⟩ (.slice va' n' vc')) P tb o j ts eT eV) := P4.but b45 (by simp; omega) (by simp; omega) (by simp)
    have HO5 : Hid (OE B (w4.setCell ⟨w.heap.size + 1, 0, none⟩ (.slice va' n' vc')) (.slice va' n' vc') (xs ++ ys)) := O4.box RX4 (by decide) (by decide) _ _
    have HNW : Hid (∀ b, b ∈ eisB ys → w.heap.size ≤ b) := fun b hb => by have := nw b hb; omega
    clear hl gr nw b4 O4 P4 RX4 RQ4 RQ3 RX3 cq cx b45 nX nQ
    go_wp2_with fail
    obtain ⟨W5, hW5⟩ : ∃ W5, W5 = w4.setCell ⟨w.heap.size + 1, 0, none⟩ (.slice va' n' vc') := ⟨_, rfl⟩
    rw [← hW5] at HB5 HP5 HO5 RX5 RQ5 cq5 cx5 ⊢
    clear hW5 cx4 cf4
    cases hr : isT ts j sRight
    case false =>
      have HR2 : Hid (brkP ts (exP true ts f) (i + 1) = none) := by
        show _ = _
        unfold brkP
        rw [HTY.out]
        show (if isT ts j sRight = true then _ else none) = none
        rw [hr]; rfl
      refine (p_need_no ⟨#[41]⟩ W5 HP5.out hr).mono ?_
      rintro e w6 ⟨rfl, rfl⟩
      clear hr
      go_wp2
      exact ⟨rfl, by rw [HR.out, HR2.out]; exact ⟨HB5.out, rfl⟩⟩
    have HR2 : Hid (brkP ts (exP true ts f) (i + 1) = some (l, j + 1)) := by
      show _ = _
      unfold brkP
      rw [HTY.out]
      show (if isT ts j sRight = true then _ else none) = _
      rw [hr]; rfl
    refine (p_need ⟨#[41]⟩ W5 HP5.out hr).mono ?_
    rintro e w6 ⟨rfl, h6, b6⟩
    have RX6 := RX5.of_block (b6.block _ RX5.lt (by simp; omega))
    have cx6 := RX6.cell (i := 0) (by omega)
    have HO6 : Hid (OE B w6 (.slice va' n' vc') (xs ++ ys)) := HO5.out.low b6 (fun b z => by rw [List.mem_singleton.1 z]; exact Or.inl hP)
    have HB6 : Hid (But (P :: (Value.slice va xs.length vc).ownBlock.toList) w w6) := HB5.out.then_ (b6.more (fun k z => by rw [List.mem_singleton.1 z]; simp))
    have HP6 : Hid (PsAt w6 P tb o (j + 1) ts eT eV) := h6
    clear hr b6 h6 RX5 RQ5 cq5 cx5 RX6
    go_wp2
    go_ret
    rw [HR.out, HR2.out]
    exact ⟨HB6.out, _, ys, rfl, HO6.out, HY.out, HP6.out, HGR.out, HNW.out⟩

set_option maxRecDepth 100000 in
set_option maxHeartbeats 2000000 in
theorem atom_rec {B P tb o : Nat} {ts : List TK} {eT : TypeId} {eV : Value} {f : Nat} (IH : ExC B P tb o ts eT eV f) (hP : P < B) (htb : tb < B) {i : Nat} {w : World} {v : Value} {xs : List (EI × EPl)} (hps : PsAt w P tb o i ts eT eV) (hot : OE B w v xs) (hxi : xs.length ≤ i) (hB : B ≤ w.heap.size) (hf : ts.length - i < f + 1) (hc : isC ts i 1 = false) (h3 : isC ts i 3 = false) (hs : isT ts i sOpen = true) :
    Calls Tryz.prog 91 #[.pointer (some ⟨P, 0, none⟩), v] w (ExR B P tb o ts eT eV w v xs (atomP true ts (exP true ts f) i)) := by
  have hi := isT_lt hs
  have HIH : Hid (ExC B P tb o ts eT eV f) := IH
  clear IH
  have HR : Hid (∀ r, fldsP ts (exP true ts f) sEq (i + 1) = r → atomP true ts (exP true ts f) i = r.map fun z => (z.1 ++ [⟨4, 0, e0, e0, z.2.1, []⟩], z.2.2)) := by
    show ∀ r, _
    intro r hr
    unfold atomP
    rw [hc, if_neg (by decide), h3, if_neg (by decide)]
    rw [isT_one hs (s' := sTrue) (by decide), if_neg (by decide)]
    rw [isT_one hs (s' := sFalse) (by decide), if_neg (by decide)]
    rw [if_pos hs, hr]
    cases r with
    | none => rfl
    | some z => rfl
  have q0 : ((tkA ts i).txt.toList == [116, 114, 117, 101]) = false := text_not hs _ (by decide)
  have q1 : ((tkA ts i).txt.toList == [102, 97, 108, 115, 101]) = false := text_not hs _ (by decide)
  have q2 : ((tkA ts i).txt.toList == [123]) = true := text_yes hs
  rw [isC_at hi] at hc h3
  clear hs
  have hmf : ∀ (fn : Fn) (first cap : Array Value) (w : World), (Instr.makeFunc fn first cap).run Tryz.prog w = .ok (.func fn first cap) w := fun _ _ _ _ => rfl
  have HP : Hid (PsAt w P tb o i ts eT eV) := hps
  obtain ⟨va, vc, rfl⟩ := own_form hot.own
  have HO : Hid (OE B w (.slice va xs.length vc) xs) := hot
  have hn := hps.tk.len
  have hl9 := hps.le
  have hgd := hps.tk.gd
  clear hps hot
  obtain ⟨W2, hW2⟩ : ∃ W2, W2 = (w.alloc (.cells #[.pointer (some ⟨P, 0, none⟩)] 98)).alloc (.cells #[.slice va xs.length vc] 56) := ⟨_, rfl⟩
  have HB2 : Hid (But [] w W2) := by show But [] w W2; rw [hW2]; exact ((But.refl _ _).alloc _).alloc _
  have RQ : W2.rowIs w.heap.size 98 1 (fun _ => .pointer (some ⟨P, 0, none⟩)) := by rw [hW2]; exact (row1 _ _ _).alloc _
  have RX : W2.rowIs (w.heap.size + 1) 56 1 (fun _ => .slice va xs.length vc) := by
    have := row1 (w.alloc (.cells #[.pointer (some ⟨P, 0, none⟩)] 98)) (.slice va xs.length vc) 56
    simp only [World.size_alloc] at this
    rw [hW2]; exact this
  obtain ⟨i0, hi0, hz0, hz1, hz2⟩ := info_parts Tryz.infoEI
  go_enter Tryz.func91, Tryz.ntmps91
  go_wp2_with fail
  rw [← hW2]
  clear hW2
  refine (p_next W2 (HP.out.but HB2.out (by simp) (by simp) (by simp)) hi).mono ?_
  rintro e w1 ⟨rfl, h1, b1⟩
  unfold tkV
  obtain ⟨k0, hk0⟩ : ∃ k, k = (tkA ts i).cls := ⟨_, rfl⟩
  obtain ⟨k1, hk1⟩ : ∃ k, k = (tkA ts i).txt := ⟨_, rfl⟩
  obtain ⟨k2, hk2⟩ : ∃ k, k = ((tkA ts i).loc : Int) := ⟨_, rfl⟩
  have HK1 : Hid (tx ts i = k1) := by show _ = _; rw [hk1, tx_at hi]
  have HGD : Hid (k0 = cls k1.toList) := by show _ = _; rw [hk0, hk1]; exact hgd i hi
  rw [← hk0] at hc h3
  rw [← hk1] at q0 q1 q2
  rw [← hk0, ← hk1, ← hk2]
  clear hk0 hk1 hk2 hgd
  have HB3 : Hid (But [P] w (w1.alloc (.cells #[.int .i64 k0, .string k1, .int .i64 k2] 89))) := ((HB2.out.more (S' := [P]) (fun _ z => by simp at z)).then_ b1).alloc _
  have RQ3 := (RQ.of_block (b1.block _ RQ.lt (by simp; omega))).alloc (.cells #[.int .i64 k0, .string k1, .int .i64 k2] 89)
  have RX3 := (RX.of_block (b1.block _ RX.lt (by simp; omega))).alloc (.cells #[.int .i64 k0, .string k1, .int .i64 k2] 89)
  have HP3 : Hid (PsAt (w1.alloc (.cells #[.int .i64 k0, .string k1, .int .i64 k2] 89)) P tb o (i + 1) ts eT eV) := h1.but ((But.refl ([] : List Nat) w1).alloc _) (by simp) (by simp) (by simp)
  have HO3 : Hid (OE B (w1.alloc (.cells #[.int .i64 k0, .string k1, .int .i64 k2] 89)) (.slice va xs.length vc) xs) := HO.out.low HB3.out (fun b z => by rw [List.mem_singleton.1 z]; exact Or.inl hP)
  have cq := RQ3.cell (i := 0) (by omega)
  have cx := RX3.cell (i := 0) (by omega)
  have ce := HP3.out.ev
  have hs1 : w.heap.size ≤ w1.heap.size := Nat.le_trans HB2.out.size b1.size
  clear h1 b1 RQ RX HP HB2
  clear HGD
  go_wp2_with fail
  obtain ⟨W3, hW3⟩ : ∃ W3, W3 = w1.alloc (.cells #[.int .i64 k0, .string k1, .int .i64 k2] 89) := ⟨_, rfl⟩
  rw [← hW3] at HB3 RQ3 RX3 HP3 HO3 cq cx ce ⊢
  clear hW3
  have hs3 := HB3.out.size
  refine (e_fields HIH.out hP htb HP3.out RQ3 RX3 HO3.out (by omega) (by omega) (by omega) (by omega) (by omega)).mono ?_
  intro e w4 hT
  obtain ⟨b4, hT⟩ := hT
  obtain ⟨r, hr⟩ : ∃ r, r = fldsP ts (exP true ts f) sEq (i + 1) := ⟨_, rfl⟩
  have HRR : Hid (atomP true ts (exP true ts f) i = r.map fun z => (z.1 ++ [⟨4, 0, e0, e0, z.2.1, []⟩], z.2.2)) := HR.out r hr.symm
  have HFL : Hid (fldsP ts (exP true ts f) sEq (i + 1) = r) := hr.symm
  rw [← hr] at hT
  clear hr
  have HB4 : Hid (But (P :: (Value.slice va xs.length vc).ownBlock.toList) w w4) := HB3.out.more (S' := P :: (Value.slice va xs.length vc).ownBlock.toList) (fun k z => by rw [List.mem_singleton.1 z]; simp) |>.trans b4 (fun k z hk => by
    simp only [List.mem_cons] at z ⊢
    rcases z with z | z | z
    · exact Or.inl z
    · omega
    · exact Or.inr z)
  cases r with
  | none =>
    have hT : e = .panicked [{ v := .iface eT eV, recovered := false }] := hT
    subst hT
    clear b4
    go_wp2
    exact ⟨rfl, by rw [HRR.out]; exact ⟨HB4.out, rfl⟩⟩
  | some r =>
    obtain ⟨l, ns, j⟩ := r
    obtain ⟨v', ys, p, rfl, X4, O4, hl, P4, gr, nw, np, ni⟩ := hT
    obtain ⟨va', vc', hv'⟩ := own_form O4.own
    obtain ⟨n', hn'⟩ : ∃ n', n' = (xs ++ ys).length := ⟨_, rfl⟩
    have HN' : Hid (n' = (xs ++ ys).length) := hn'
    have hfl := flds_far (ex_far f) HFL.out
    have hn9 : n' ≤ 2000 := by
      have : ys.length = l.length := by rw [← hl, List.length_map]
      rw [hn', List.length_append]
      omega
    rw [← hn'] at hv'
    subst hv'
    clear hn'
    have cx4 := X4.cell (i := 0) (by omega)
    have HO4 : Hid (OE B w4 (.slice va' n' vc') (xs ++ ys)) := O4
    have HP4 : Hid (PsAt w4 P tb o j ts eT eV) := P4
    have HY : Hid (ys.map Prod.fst = l) := hl
    have HGR : Hid (∀ b, (Value.slice va' n' vc').ownBlock = some b → (Value.slice va xs.length vc).ownBlock = some b ∨ w.heap.size ≤ b) := fun b e => by
      rcases gr b e with q | q
      · exact Or.inl q
      · exact Or.inr (by omega)
    have HNW : Hid (∀ b, b ∈ eisB ys → w.heap.size ≤ b) := fun b hb => by have := nw b hb; omega
    have HNP : Hid (NmOK W3.heap.size w4 ns p) := np
    have HNI : Hid (ns ≠ [] → p.b ∉ eisB (xs ++ ys)) := ni
    have hs4 := HB4.out.size
    have HOW : Hid (w4.ownsRow B 123 6 (.slice va' n' vc') n' (eisC (xs ++ ys))) := by have z := O4.own; rw [← HN'.out] at z; exact z
    have HXB : Hid (∀ b, b ∈ eiB ((⟨4, 0, e0, e0, ns, []⟩ : EI), (⟨p, .slice none 0 0, []⟩ : EPl)) → ns ≠ [] ∧ p.b = b) := fun b hb => by
      rcases mem_eiB hb with z | z | z
      · exact z
      · cases z
      · cases z
    clear b4 X4 O4 hl P4 gr nw np ni RX3 RQ3 cq cx ce
    go_wp2_with (first | (at_builtin; refine wpList_append_lies _ rfl _ _ 56 rfl B 123 i0 _ 6 96 Tryz.underlying56 hi0 hz0 hz1 hz2 rfl (by omega) (.slice va' n' vc') (n') (eisC (xs ++ ys)) rfl (HOW.out.alloc _) ⟨w4.heap.size, 0, none⟩ 1 1 [.int .i64 4, .int .i64 0, .string ⟨#[]⟩, .string ⟨#[]⟩, .slice p.a ns.length p.c, .slice none 0 0] rfl rfl (World.news_of_block (cs := #[.int .i64 4, .int .i64 0, .string ⟨#[]⟩, .string ⟨#[]⟩, .slice p.a ns.length p.c, .slice none 0 0]) (t := 123) (fr := (0, 0)) (heap_alloc_new w4 _)) (by simp [Value.oneCell']) (by omega) (by unfold maxLen; omega) (by omega) (by simp; omega) (w4.heap.size + 1) (by simp) ?_; intro gg cap3 w5 hown3 hg3 hat3 hlt3))
    have FIN : Hid (ExR B P tb o ts eT eV w (.slice va xs.length vc) xs (some (l ++ [⟨4, 0, e0, e0, ns, []⟩], j)) (.returned (.slice (some ⟨gg, 0, none⟩) (n' + 1) cap3)) w5) := by
      have z := ex_end (ys := ys) (x := (⟨4, 0, e0, e0, ns, []⟩, ⟨p, .slice none 0 0, []⟩)) hP htb (v := .slice va xs.length vc) HO4.out HP4.out HB4.out HGR.out (by rw [← HN'.out]; exact hown3) hg3 hat3 ⟨HNP.out.base (by omega), OT.nil _ _, rfl⟩ (fun b hb => by
          obtain ⟨h1, h2⟩ := HXB.out b hb
          rw [← h2]; exact HNI.out h1) (by
          unfold eiB
          show ((if ns = [] then [] else [p.b]) ++ ([] ++ [])).Nodup
          split <;> simp) HNW.out (fun b hb => by
          obtain ⟨h1, h2⟩ := HXB.out b hb
          have := (HNP.out.lt h1).1
          omega)
      rw [← HN'.out, HY.out] at z
      exact z
    clear hown3 hg3 hat3
    go_wp2
    go_ret
    rw [HRR.out]
    exact FIN.out

/-- The program's numbers. -/
def NumC (ts : List TK) : Prop := ∀ (i : Nat) (w : World), i < ts.length → num (tx ts i).toList = true → (tx ts i).size ≤ 1000 → Calls Tryz.prog 98 #[.string (tx ts i)] w fun e w' => e = .returned (.int .i64 (valN (tx ts i).data.toList)) ∧ Below w.heap.size w w'

set_option maxRecDepth 100000 in
set_option maxHeartbeats 2000000 in
theorem atom_num {B P tb o : Nat} {ts : List TK} {eT : TypeId} {eV : Value} {f : Nat} (HN : NumC ts) (hP : P < B) (htb : tb < B) {i : Nat} {w : World} {v : Value} {xs : List (EI × EPl)} (hps : PsAt w P tb o i ts eT eV) (hot : OE B w v xs) (hxi : xs.length ≤ i) (hB : B ≤ w.heap.size) (h3 : isC ts i 3 = true) :
    Calls Tryz.prog 91 #[.pointer (some ⟨P, 0, none⟩), v] w (ExR B P tb o ts eT eV w v xs (atomP true ts (exP true ts f) i)) := by
  have hi := isC_lt h3
  have hc : isC ts i 1 = false := by
    rw [isC_at hi] at h3 ⊢
    have e : (tkA ts i).cls = 3 := by simpa using h3
    rw [e]; rfl
  have HR : Hid (atomP true ts (exP true ts f) i = some ([⟨1, valN (tx ts i).data.toList, e0, e0, [], []⟩], i + 1)) := by
    show _ = _
    unfold atomP
    rw [hc, if_neg (by decide), if_pos h3]
  have hsz := hps.tk.sz i hi
  rw [isC_at hi] at hc h3
  have HNC : Hid (NumC ts) := HN
  clear HN
  have HP : Hid (PsAt w P tb o i ts eT eV) := hps
  obtain ⟨va, vc, rfl⟩ := own_form hot.own
  have HO : Hid (OE B w (.slice va xs.length vc) xs) := hot
  have hn := hps.tk.len
  have hl9 := hps.le
  have hgd := hps.tk.gd
  clear hps hot
  obtain ⟨W2, hW2⟩ : ∃ W2, W2 = (w.alloc (.cells #[.pointer (some ⟨P, 0, none⟩)] 98)).alloc (.cells #[.slice va xs.length vc] 56) := ⟨_, rfl⟩
  have HB2 : Hid (But [] w W2) := by show But [] w W2; rw [hW2]; exact ((But.refl _ _).alloc _).alloc _
  have RQ : W2.rowIs w.heap.size 98 1 (fun _ => .pointer (some ⟨P, 0, none⟩)) := by rw [hW2]; exact (row1 _ _ _).alloc _
  have RX : W2.rowIs (w.heap.size + 1) 56 1 (fun _ => .slice va xs.length vc) := by
    have := row1 (w.alloc (.cells #[.pointer (some ⟨P, 0, none⟩)] 98)) (.slice va xs.length vc) 56
    simp only [World.size_alloc] at this
    rw [hW2]; exact this
  obtain ⟨i0, hi0, hz0, hz1, hz2⟩ := info_parts Tryz.infoEI
  go_enter Tryz.func91, Tryz.ntmps91
  go_wp2_with fail
  rw [← hW2]
  clear hW2
  refine (p_next W2 (HP.out.but HB2.out (by simp) (by simp) (by simp)) hi).mono ?_
  rintro e w1 ⟨rfl, h1, b1⟩
  unfold tkV
  obtain ⟨k0, hk0⟩ : ∃ k, k = (tkA ts i).cls := ⟨_, rfl⟩
  obtain ⟨k1, hk1⟩ : ∃ k, k = (tkA ts i).txt := ⟨_, rfl⟩
  obtain ⟨k2, hk2⟩ : ∃ k, k = ((tkA ts i).loc : Int) := ⟨_, rfl⟩
  have HK1 : Hid (tx ts i = k1) := by show _ = _; rw [hk1, tx_at hi]
  have HGD : Hid (k0 = cls k1.toList) := by show _ = _; rw [hk0, hk1]; exact hgd i hi
  rw [← hk0] at hc h3
  rw [← hk1] at hsz
  rw [← hk0, ← hk1, ← hk2]
  clear hk0 hk1 hk2 hgd
  have HB3 : Hid (But [P] w (w1.alloc (.cells #[.int .i64 k0, .string k1, .int .i64 k2] 89))) := ((HB2.out.more (S' := [P]) (fun _ z => by simp at z)).then_ b1).alloc _
  have RQ3 := (RQ.of_block (b1.block _ RQ.lt (by simp; omega))).alloc (.cells #[.int .i64 k0, .string k1, .int .i64 k2] 89)
  have RX3 := (RX.of_block (b1.block _ RX.lt (by simp; omega))).alloc (.cells #[.int .i64 k0, .string k1, .int .i64 k2] 89)
  have HP3 : Hid (PsAt (w1.alloc (.cells #[.int .i64 k0, .string k1, .int .i64 k2] 89)) P tb o (i + 1) ts eT eV) := h1.but ((But.refl ([] : List Nat) w1).alloc _) (by simp) (by simp) (by simp)
  have HO3 : Hid (OE B (w1.alloc (.cells #[.int .i64 k0, .string k1, .int .i64 k2] 89)) (.slice va xs.length vc) xs) := HO.out.low HB3.out (fun b z => by rw [List.mem_singleton.1 z]; exact Or.inl hP)
  have cq := RQ3.cell (i := 0) (by omega)
  have cx := RX3.cell (i := 0) (by omega)
  have ce := HP3.out.ev
  have hs1 : w.heap.size ≤ w1.heap.size := Nat.le_trans HB2.out.size b1.size
  clear h1 b1 RQ RX HP HB2
  have qc : k0 = 3 := by simpa using h3
  subst qc
  have hnum : num k1.toList = true := by
    have h := HGD.out
    unfold cls at h
    cases e : num k1.toList with
    | true => rfl
    | false =>
      rw [e] at h
      split at h
      · cases h
      · split at h
        · cases h
        · rw [if_neg (by decide)] at h
          split at h <;> cases h
  clear hc h3 HGD
  obtain ⟨vv, hvv⟩ : ∃ vv, vv = valN k1.data.toList := ⟨_, rfl⟩
  have HVV : Hid (valN (tx ts i).data.toList = vv) := by show _ = _; rw [HK1.out, hvv]
  have CN : Hid (∀ W : World, Calls Tryz.prog 98 #[.string k1] W fun e w' => e = .returned (.int .i64 vv) ∧ Below W.heap.size W w') := fun W => by have z := HNC.out i W hi; rw [HK1.out] at z; rw [hvv]; exact z hnum hsz
  clear hvv hnum hsz
  have RT3 := row3 w1 (.int .i64 3) (.string k1) (.int .i64 k2) 89
  have ct : (w1.alloc (.cells #[.int .i64 3, .string k1, .int .i64 k2] 89)).cell? ⟨w1.heap.size, 1, none⟩ = some (.string k1) := RT3.cell (i := 1) (by omega)
  have hz3 : (w1.alloc (.cells #[.int .i64 3, .string k1, .int .i64 k2] 89)).heap.size = w1.heap.size + 1 := by simp
  have hXl : w.heap.size + 1 < w1.heap.size + 1 := by have := RX3.lt; rw [hz3] at this; exact this
  go_wp2
  obtain ⟨W3, hW3⟩ : ∃ W3, W3 = w1.alloc (.cells #[.int .i64 3, .string k1, .int .i64 k2] 89) := ⟨_, rfl⟩
  rw [← hW3] at HB3 RQ3 RX3 HP3 HO3 cq cx ce ct hz3 ⊢
  clear hW3
  go_region_held3 (fun w' => w'.cell? ⟨w.heap.size + 1, 0, none⟩ = some (.slice va xs.length vc) ∧ w'.cell? ⟨w1.heap.size, 1, none⟩ = some (.string k1)) (go_keep)
    (first
      | (go_at_call 98; refine (CN.out _).mono ?_; rintro e w4 ⟨rfl, hb4⟩; have y0 := (hb4.cell (p := ⟨w.heap.size + 1, 0, none⟩) (by simp; omega)).trans cx; have y1 := (hb4.cell (p := ⟨w1.heap.size, 1, none⟩) (by simp; omega)).trans ct; have C4 : Below W3.heap.size W3 w4 := ⟨hb4.os, hb4.tape, hb4.output, hb4.size, hb4.block⟩; have hz4 : W3.heap.size ≤ w4.heap.size := C4.size; have OWN4 : w4.ownsRow B 123 6 (.slice va xs.length vc) xs.length (eisC xs) := own_block HO3.out.own (fun j e => C4.block j (HO3.out.own.lt j e.symm).2))
      | (refine step_append_lies _ (by rfl) _ _ _ (by rfl) B 123 i0 _ 6 96 Tryz.underlying56 hi0 hz0 hz1 hz2 rfl (by omega) (.slice va xs.length vc) xs.length (eisC xs) (by rfl) (by exact OWN4.alloc _) ⟨w4.heap.size, 0, none⟩ 1 1 [.int .i64 1, .int .i64 vv, .string ⟨#[]⟩, .string ⟨#[]⟩, .slice none 0 0, .slice none 0 0] (by rfl) (by rfl) (World.news_of_block (cs := #[.int .i64 1, .int .i64 vv, .string ⟨#[]⟩, .string ⟨#[]⟩, .slice none 0 0, .slice none 0 0]) (t := 123) (fr := (0, 0)) (heap_alloc_new w4 _)) (by simp [Value.oneCell']) (by omega) (by unfold maxLen; omega) (by omega) (by simp; omega) (w4.heap.size + 1) (by simp) ?_; intro gg cap3 w5 hown3 hg3 hat3 hlt3; have bx : ∀ k, w.heap.size ≤ k → k < W3.heap.size → w5.heap[k]? = w4.heap[k]? := (fun k h1 h2 => (hg3.block _ (by simp; omega) (fun e => by have := (HO.out.own.lt _ e.symm).2; omega)).trans (Below.heap_alloc _ _ _ (by omega))); have x0' := (World.cell?_of_block (a := ⟨w.heap.size + 1, 0, none⟩) (bx _ (by show w.heap.size ≤ w.heap.size + 1; omega) (by show w.heap.size + 1 < _; omega))).trans y0; have x1' := (World.cell?_of_block (a := ⟨w1.heap.size, 1, none⟩) (bx _ (by show w.heap.size ≤ w1.heap.size; omega) (by show w1.heap.size < _; omega))).trans y1))
  all_goals
    have FIN : Hid (ExR B P tb o ts eT eV w (.slice va xs.length vc) xs (some ([⟨1, vv, e0, e0, [], []⟩], i + 1)) (.returned (.slice (some ⟨gg, 0, none⟩) (xs.length + 1) cap3)) w5) := by
      have nb := ei_bare B w4 (x := ⟨1, vv, e0, e0, [], []⟩) rfl rfl
      have b34 : But [] W3 w4 := ⟨C4.os, C4.tape, C4.output, C4.size, fun k hk _ => C4.block k hk⟩
      have z := ex_end (ys := []) (x := (⟨1, vv, e0, e0, [], []⟩, ep0)) hP htb (v := .slice va xs.length vc) (by rw [List.append_nil]; exact HO3.out.low b34 (fun b z => by simp at z)) (HP3.out.but b34 (by simp) (by simp) (by simp)) ((HB3.out.trans b34 (fun k z _ => by simp at z)).more (fun k z => by rw [List.mem_singleton.1 z]; simp)) (fun b e => Or.inl e) (by rw [List.append_nil]; exact hown3) hg3 hat3 nb.1 (fun b hb => by rw [nb.2] at hb; cases hb) (by rw [nb.2]; exact List.nodup_nil) (fun b hb => by cases hb) (fun b hb => by rw [nb.2] at hb; cases hb)
      rw [List.append_nil] at z
      exact z
    clear hown3 hg3 hat3 bx x0' x1' y0 y1 C4 hb4 OWN4
    go_wp2
    go_ret
    rw [HR.out, HVV.out]
    first | exact FIN.out | trace_state

theorem p_atom {B P tb o : Nat} {ts : List TK} {eT : TypeId} {eV : Value} {f : Nat} (HN : NumC ts) (IH : ExC B P tb o ts eT eV f) (hP : P < B) (htb : tb < B) {i : Nat} {w : World} {v : Value} {xs : List (EI × EPl)} (hps : PsAt w P tb o i ts eT eV) (hot : OE B w v xs) (hxi : xs.length ≤ i) (hB : B ≤ w.heap.size) (hf : ts.length - i < f + 1) :
    Calls Tryz.prog 91 #[.pointer (some ⟨P, 0, none⟩), v] w (ExR B P tb o ts eT eV w v xs (atomP true ts (exP true ts f) i)) := by
  cases hc : isC ts i 1 with
  | true => exact atom_name hP htb hps hot hxi hB hc
  | false =>
    cases h3 : isC ts i 3 with
    | true => exact atom_num HN hP htb hps hot hxi hB h3
    | false =>
      cases n0 : isT ts i sTrue with
      | true => exact atom_true hP htb hps hot hxi hB hc h3 n0
      | false =>
        cases n1 : isT ts i sFalse with
        | true => exact atom_false hP htb hps hot hxi hB hc h3 n1
        | false =>
          cases n2 : isT ts i sOpen with
          | true => exact atom_rec IH hP htb hps hot hxi hB hf hc h3 n2
          | false =>
            cases n3 : isT ts i sLeft with
            | true => exact atom_brk IH hP htb hps hot hxi hB hf hc h3 n3
            | false => exact atom_none hP htb hps hot hxi hB hc h3 n0 n1 n2 n3

end Go.Proofs.YtdjkgilohhjfoaaGreatDoor

namespace Go.Proofs.YtdjkgilohhjfoaaGreatDoor
open Go.RowKit

/-- What is read so far. -/
def ESt (B P tb o : Nat) (ts : List TK) (eT : TypeId) (eV : Value) (w : World) (v : Value) (xs : List (EI × EPl)) (l : List EI) (j : Nat) (v1 : Value) (wr : World) : Prop :=
  But (P :: v.ownBlock.toList) w wr ∧ ∃ ys, OE B wr v1 (xs ++ ys) ∧ ys.map Prod.fst = l ∧ PsAt wr P tb o j ts eT eV ∧ (∀ b, v1.ownBlock = some b → v.ownBlock = some b ∨ w.heap.size ≤ b) ∧ ∀ b, b ∈ eisB ys → w.heap.size ≤ b

theorem ExR.some {B P tb o : Nat} {ts : List TK} {eT : TypeId} {eV : Value} {w : World} {v : Value} {xs : List (EI × EPl)} {l : List EI} {j : Nat} {e : Ending} {w' : World} (h : ExR B P tb o ts eT eV w v xs (some (l, j)) e w') : ∃ v', e = .returned v' ∧ ESt B P tb o ts eT eV w v xs l j v' w' := by
  obtain ⟨hb, v', ys, he, r⟩ := h
  exact ⟨v', he, hb, ys, r⟩
theorem ESt.ret {B P tb o : Nat} {ts : List TK} {eT : TypeId} {eV : Value} {w : World} {v : Value} {xs : List (EI × EPl)} {l : List EI} {j : Nat} {v' : Value} {w' : World} (h : ESt B P tb o ts eT eV w v xs l j v' w') : ExR B P tb o ts eT eV w v xs (some (l, j)) (.returned v') w' := by
  obtain ⟨hb, ys, r⟩ := h
  exact ⟨hb, v', ys, rfl, r⟩
theorem ESt.ps {B P tb o : Nat} {ts : List TK} {eT : TypeId} {eV : Value} {w : World} {v : Value} {xs : List (EI × EPl)} {l : List EI} {j : Nat} {v' : Value} {w' : World} (h : ESt B P tb o ts eT eV w v xs l j v' w') : PsAt w' P tb o j ts eT eV := by
  obtain ⟨hb, ys, _, _, h, _⟩ := h
  exact h

/-- Nothing is read yet. -/
theorem est_start {B P tb o : Nat} {ts : List TK} {eT : TypeId} {eV : Value} {w : World} {v : Value} {xs : List (EI × EPl)} {i : Nat} (hp : PsAt w P tb o i ts eT eV) (ho : OE B w v xs) : ESt B P tb o ts eT eV w v xs [] i v w :=
  ⟨But.refl _ _, [], by rw [List.append_nil]; exact ho, rfl, hp, fun b e => Or.inl e, fun b hb => by cases hb⟩

/-- Tokens are passed over. -/
theorem ESt.low {B P tb o : Nat} {ts : List TK} {eT : TypeId} {eV : Value} {w : World} {v : Value} {xs : List (EI × EPl)} {l : List EI} {j k : Nat} {v1 : Value} {wr w2 : World} (h : ESt B P tb o ts eT eV w v xs l j v1 wr) (hP : P < B) (hb : But [P] wr w2) (hp : PsAt w2 P tb o k ts eT eV) : ESt B P tb o ts eT eV w v xs l k v1 w2 := by
  obtain ⟨h1, ys, h2, h3, h4, h5, h6⟩ := h
  exact ⟨h1.then_ (hb.more (fun k z => by rw [List.mem_singleton.1 z]; simp)), ys, h2.low hb (fun b z => by rw [List.mem_singleton.1 z]; exact Or.inl hP), h3, hp, h5, h6⟩
theorem ESt.low_but {B P tb o : Nat} {ts : List TK} {eT : TypeId} {eV : Value} {w : World} {v : Value} {xs : List (EI × EPl)} {l : List EI} {j : Nat} {v1 : Value} {wr w2 : World} (h : ESt B P tb o ts eT eV w v xs l j v1 wr) (hb : But [P] wr w2) : But (P :: v.ownBlock.toList) w w2 :=
  h.1.then_ (hb.more (fun k z => by rw [List.mem_singleton.1 z]; simp))

/-- A part is read behind it. -/
theorem ESt.read {B P tb o : Nat} {ts : List TK} {eT : TypeId} {eV : Value} {w : World} {v : Value} {xs : List (EI × EPl)} {l : List EI} {j : Nat} {v1 : Value} {wr : World} (h : ESt B P tb o ts eT eV w v xs l j v1 wr) :
    ∃ zs : List (EI × EPl), OE B wr v1 zs ∧ zs.length = xs.length + l.length ∧ ∀ r e w2, ExR B P tb o ts eT eV wr v1 zs r e w2 → But (P :: v.ownBlock.toList) w w2 ∧ (r = none → e = .panicked [{ v := .iface eT eV, recovered := false }]) ∧ ∀ l2 k, r = some (l2, k) → ∃ v2, e = .returned v2 ∧ ESt B P tb o ts eT eV w v xs (l ++ l2) k v2 w2 := by
  obtain ⟨h1, ys, h2, h3, h4, h5, h6⟩ := h
  refine ⟨xs ++ ys, h2, by rw [List.length_append, ← h3, List.length_map], fun r e w2 hr => ?_⟩
  obtain ⟨b2, hr⟩ := hr
  have hb : But (P :: v.ownBlock.toList) w w2 := h1.trans b2 (fun k z hk => by
    simp only [List.mem_cons, Option.mem_toList] at z ⊢
    rcases z with z | z
    · exact Or.inl z
    · rcases h5 k z with q | q
      · exact Or.inr q
      · omega)
  have hs := h1.size
  refine ⟨hb, fun e1 => by rw [e1] at hr; exact hr, fun l2 k e1 => ?_⟩
  rw [e1] at hr
  obtain ⟨v2, us, he, o2, m2, p2, g2, n2⟩ := hr
  refine ⟨v2, he, hb, ys ++ us, by rw [← List.append_assoc]; exact o2, by rw [List.map_append, h3, m2], p2, fun b e => ?_, fun b z => ?_⟩
  · rcases g2 b e with q | q
    · exact h5 b q
    · exact Or.inr (by omega)
  · rw [eisB_append] at z
    rcases List.mem_append.1 z with q | q
    · exact h6 b q
    · have := n2 b q; omega

/-- The list that is read so far, for an append. -/
theorem ESt.own {B P tb o : Nat} {ts : List TK} {eT : TypeId} {eV : Value} {w : World} {v : Value} {xs : List (EI × EPl)} {l : List EI} {j : Nat} {v1 : Value} {wr : World} (h : ESt B P tb o ts eT eV w v xs l j v1 wr) (hP : P < B) (htb : tb < B) :
    ∃ (va : Option Addr) (n vc : Nat) (C : List Value), v1 = .slice va n vc ∧ n = xs.length + l.length ∧ wr.ownsRow B 123 6 v1 n C ∧ w.heap.size ≤ wr.heap.size ∧
      (∀ (x : EI) (w5 : World) (gg cap3 : Nat) (ob : Obj), x.ns = [] → x.ty = [] → w5.ownsRow B 123 6 (.slice (some ⟨gg, 0, none⟩) (n + 1) cap3) (n + 1) (C ++ eiC (x, ep0)) → (wr.alloc ob).grownBy w5 v1.ownBlock → (v1.ownBlock = some gg ∨ gg = wr.heap.size + 1) →
        ESt B P tb o ts eT eV w v xs (l ++ [x]) j (.slice (some ⟨gg, 0, none⟩) (n + 1) cap3) w5) := by
  obtain ⟨h1, ys, h2, h3, h4, h5, h6⟩ := h
  obtain ⟨va, vc, hv⟩ := own_form h2.own
  have hl : (xs ++ ys).length = xs.length + l.length := by rw [List.length_append, ← h3, List.length_map]
  refine ⟨va, (xs ++ ys).length, vc, eisC (xs ++ ys), hv, hl, h2.own, h1.size, fun x w5 gg cap3 ob e1 e2 hown hg hat => ?_⟩
  have nb := ei_bare B wr e1 e2
  have z := ex_end (ys := ys) (x := (x, ep0)) hP htb (v := v) h2 h4 h1 h5 hown hg hat nb.1 (fun b hb => by rw [nb.2] at hb; cases hb) (by rw [nb.2]; exact List.nodup_nil) h6 (fun b hb => by rw [nb.2] at hb; cases hb)
  rw [h3] at z
  obtain ⟨v', e, r⟩ := ExR.some z
  simp only [Ending.returned.injEq] at e
  subst e
  exact r

theorem postL_go {ts : List TK} {E : Nat → Option (List EI × Nat)} {g j : Nat} {its : List EI} (hg : 0 < g) : postL ts E g its j =
    if isT ts j sDot then
      (if isC ts (j + 1) 1 then postL ts E (g - 1) (its ++ [⟨5, 0, e0, tx ts (j + 1), [], []⟩]) (j + 2) else none)
    else if isT ts j sLeft then
      (match brkP ts E (j + 1) with
      | none => none
      | some (l, k) => postL ts E (g - 1) (its ++ l ++ [exO 7]) k)
    else some (its, j) := by
  cases g with
  | zero => omega
  | succ g => rw [postL]; rfl
theorem sumL_go {st : Bool} {ts : List TK} {E : Nat → Option (List EI × Nat)} {g j : Nat} {its : List EI} (hg : 0 < g) : sumL st ts E g its j =
    if isT ts j sPlus then
      (match postP st ts E (j + 1) with
      | none => none
      | some (l, k) => sumL st ts E (g - 1) (its ++ l ++ [exO 9]) k)
    else some (its, j) := by
  cases g with
  | zero => omega
  | succ g => rw [sumL]; rfl

end Go.Proofs.YtdjkgilohhjfoaaGreatDoor

