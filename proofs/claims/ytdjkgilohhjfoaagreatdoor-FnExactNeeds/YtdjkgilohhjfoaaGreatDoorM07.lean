/-
  Merged for the claim: PcE PdA PdC.
-/
import Derived.Test.YtdjkgilohhjfoaaGreatDoorM06
namespace Go.Proofs.YtdjkgilohhjfoaaGreatDoor
open Go.RowKit

set_option maxRecDepth 100000 in
set_option maxHeartbeats 2000000 in
theorem base_rec {B P tb o : Nat} {ts : List TK} {eT : TypeId} {eV : Value} {f : Nat} (IH : TyC B P tb o ts eT eV f) (hP : P < B) (htb : tb < B) {i : Nat} {w : World} {v : Value} {xs : List (TI × NPl)} (hps : PsAt w P tb o i ts eT eV) (hot : OT B w v xs) (hxi : xs.length ≤ i) (hB : B ≤ w.heap.size) (hf : ts.length - i < f + 1) (hc : isC ts i 1 = false) (hs : isT ts i sOpen = true) :
    Calls Tryz.prog 79 #[.pointer (some ⟨P, 0, none⟩), v] w (TyR B P tb o ts eT eV w v xs (baseP true ts (tyP true ts f) i)) := by
  have hi := isT_lt hs
  have HIH : Hid (TyC B P tb o ts eT eV f) := IH
  clear IH
  have HR : Hid (∀ r, fldsP ts (tyP true ts f) sColon (i + 1) = r → baseP true ts (tyP true ts f) i = r.map fun z => (z.1 ++ [⟨5, e0, e0, z.2.1⟩], z.2.2)) := by
    show ∀ r, _
    intro r hr
    unfold baseP
    rw [hc, if_neg (by decide)]
    rw [isT_one hs (s' := sInt) (by decide), if_neg (by decide)]
    rw [isT_one hs (s' := sBool) (by decide), if_neg (by decide)]
    rw [isT_one hs (s' := sAny) (by decide), if_neg (by decide)]
    rw [if_pos hs, hr]
    cases r with
    | none => rfl
    | some z => rfl
  have q0 : ((tkA ts i).txt.toList == [105, 110, 116]) = false := text_not hs _ (by decide)
  have q1 : ((tkA ts i).txt.toList == [98, 111, 111, 108]) = false := text_not hs _ (by decide)
  have q2 : ((tkA ts i).txt.toList == [63]) = false := text_not hs _ (by decide)
  have q3 : ((tkA ts i).txt.toList == [123]) = true := text_yes hs
  rw [isC_at hi] at hc
  clear hs
  have hmf : ∀ (fn : Fn) (first cap : Array Value) (w : World), (Instr.makeFunc fn first cap).run Tryz.prog w = .ok (.func fn first cap) w := fun _ _ _ _ => rfl
  have HP : Hid (PsAt w P tb o i ts eT eV) := hps
  obtain ⟨va, vc, rfl⟩ := own_form hot.own
  have HO : Hid (OT B w (.slice va xs.length vc) xs) := hot
  have hn := hps.tk.len
  have hl9 := hps.le
  clear hps hot
  obtain ⟨W2, hW2⟩ : ∃ W2, W2 = (w.alloc (.cells #[.pointer (some ⟨P, 0, none⟩)] 98)).alloc (.cells #[.slice va xs.length vc] 55) := ⟨_, rfl⟩
  have HB2 : Hid (But [] w W2) := by show But [] w W2; rw [hW2]; exact ((But.refl _ _).alloc _).alloc _
  have RQ : W2.rowIs w.heap.size 98 1 (fun _ => .pointer (some ⟨P, 0, none⟩)) := by rw [hW2]; exact (row1 _ _ _).alloc _
  have RX : W2.rowIs (w.heap.size + 1) 55 1 (fun _ => .slice va xs.length vc) := by
    have := row1 (w.alloc (.cells #[.pointer (some ⟨P, 0, none⟩)] 98)) (.slice va xs.length vc) 55
    simp only [World.size_alloc] at this
    rw [hW2]; exact this
  obtain ⟨i0, hi0, hz0, hz1, hz2⟩ := info_parts Tryz.infoTI
  go_enter Tryz.func79, Tryz.ntmps79
  go_wp2_with fail
  rw [← hW2]
  clear hW2
  refine (p_next W2 (HP.out.but HB2.out (by simp) (by simp) (by simp)) hi).mono ?_
  rintro e w1 ⟨rfl, h1, b1⟩
  unfold tkV
  obtain ⟨k0, hk0⟩ : ∃ k, k = (tkA ts i).cls := ⟨_, rfl⟩
  obtain ⟨k1, hk1⟩ : ∃ k, k = (tkA ts i).txt := ⟨_, rfl⟩
  obtain ⟨k2, hk2⟩ : ∃ k, k = ((tkA ts i).loc : Int) := ⟨_, rfl⟩
  have HK1 : Hid (tx ts i = k1) := by show _ = _; rw [hk1, tx_at hi]
  rw [← hk0] at hc
  rw [← hk1] at q0 q1 q2 q3
  rw [← hk0, ← hk1, ← hk2]
  clear hk0 hk1 hk2
  have HB3 : Hid (But [P] w (w1.alloc (.cells #[.int .i64 k0, .string k1, .int .i64 k2] 89))) := ((HB2.out.more (S' := [P]) (fun _ z => by simp at z)).then_ b1).alloc _
  have RQ3 := (RQ.of_block (b1.block _ RQ.lt (by simp; omega))).alloc (.cells #[.int .i64 k0, .string k1, .int .i64 k2] 89)
  have RX3 := (RX.of_block (b1.block _ RX.lt (by simp; omega))).alloc (.cells #[.int .i64 k0, .string k1, .int .i64 k2] 89)
  have HP3 : Hid (PsAt (w1.alloc (.cells #[.int .i64 k0, .string k1, .int .i64 k2] 89)) P tb o (i + 1) ts eT eV) := h1.but ((But.refl ([] : List Nat) w1).alloc _) (by simp) (by simp) (by simp)
  have HO3 : Hid (OT B (w1.alloc (.cells #[.int .i64 k0, .string k1, .int .i64 k2] 89)) (.slice va xs.length vc) xs) := HO.out.low HB3.out (fun b z => by rw [List.mem_singleton.1 z]; exact Or.inl hP)
  have cq := RQ3.cell (i := 0) (by omega)
  have cx := RX3.cell (i := 0) (by omega)
  have ce := HP3.out.ev
  have hs1 : w.heap.size ≤ w1.heap.size := Nat.le_trans HB2.out.size b1.size
  clear h1 b1 RQ RX HP HB2
  go_wp2_with fail
  obtain ⟨W3, hW3⟩ : ∃ W3, W3 = w1.alloc (.cells #[.int .i64 k0, .string k1, .int .i64 k2] 89) := ⟨_, rfl⟩
  rw [← hW3] at HB3 RQ3 RX3 HP3 HO3 cq cx ce ⊢
  clear hW3
  have hs3 := HB3.out.size
  refine (t_fields HIH.out hP htb HP3.out RQ3 RX3 HO3.out (by omega) (by omega) (by omega) (by omega) (by omega)).mono ?_
  intro e w4 hT
  obtain ⟨b4, hT⟩ := hT
  obtain ⟨r, hr⟩ : ∃ r, r = fldsP ts (tyP true ts f) sColon (i + 1) := ⟨_, rfl⟩
  have HRR : Hid (baseP true ts (tyP true ts f) i = r.map fun z => (z.1 ++ [⟨5, e0, e0, z.2.1⟩], z.2.2)) := HR.out r hr.symm
  have HFL : Hid (fldsP ts (tyP true ts f) sColon (i + 1) = r) := hr.symm
  rw [← hr] at hT
  clear hr
  have HB4 : Hid (But (P :: (Value.slice va xs.length vc).ownBlock.toList) w w4) := HB3.out.more (S' := P :: (Value.slice va xs.length vc).ownBlock.toList) (fun k z => by rw [List.mem_singleton.1 z]; simp) |>.trans b4 (fun k z hk => by
    simp only [List.mem_cons] at z ⊢
    rcases z with z | z | z
    · exact Or.inl z
    · omega
    · exact Or.inr z)
  cases r with
  | none =>
    have hT : e = .panicked [{ v := .iface eT eV, recovered := false }] := hT
    subst hT
    clear b4
    go_wp2
    exact ⟨rfl, by rw [HRR.out]; exact ⟨HB4.out, rfl⟩⟩
  | some r =>
    obtain ⟨l, ns, j⟩ := r
    obtain ⟨v', ys, p, rfl, X4, O4, hl, P4, gr, nw, np, ni⟩ := hT
    obtain ⟨va', vc', hv'⟩ := own_form O4.own
    obtain ⟨n', hn'⟩ : ∃ n', n' = (xs ++ ys).length := ⟨_, rfl⟩
    have HN' : Hid (n' = (xs ++ ys).length) := hn'
    have hfl := flds_far (ty_far f) HFL.out
    have hn9 : n' ≤ 2000 := by
      have : ys.length = l.length := by rw [← hl, List.length_map]
      rw [hn', List.length_append]
      omega
    rw [← hn'] at hv'
    subst hv'
    clear hn'
    have cx4 := X4.cell (i := 0) (by omega)
    have HO4 : Hid (OT B w4 (.slice va' n' vc') (xs ++ ys)) := O4
    have HP4 : Hid (PsAt w4 P tb o j ts eT eV) := P4
    have HY : Hid (ys.map Prod.fst = l) := hl
    have HGR : Hid (∀ b, (Value.slice va' n' vc').ownBlock = some b → (Value.slice va xs.length vc).ownBlock = some b ∨ w.heap.size ≤ b) := fun b e => by
      rcases gr b e with q | q
      · exact Or.inl q
      · exact Or.inr (by omega)
    have HNW : Hid (∀ b, b ∈ tisB ys → w.heap.size ≤ b) := fun b hb => by have := nw b hb; omega
    have HNP : Hid (NmOK W3.heap.size w4 ns p) := np
    have HNI : Hid (ns ≠ [] → p.b ∉ tisB (xs ++ ys)) := ni
    have hs4 := HB4.out.size
    have HOW : Hid (w4.ownsRow B 120 4 (.slice va' n' vc') n' (tisC (xs ++ ys))) := by have z := O4.own; rw [← HN'.out] at z; exact z
    clear b4 X4 O4 hl P4 gr nw np ni RX3 RQ3 cq cx ce
    go_wp2_with (first | (at_builtin; refine wpList_append_lies _ rfl _ _ 55 rfl B 120 i0 _ 4 64 Tryz.underlying55 hi0 hz0 hz1 hz2 rfl (by omega) (.slice va' n' vc') (n') (tisC (xs ++ ys)) rfl (HOW.out.alloc _) ⟨w4.heap.size, 0, none⟩ 1 1 [.int .i64 5, .string ⟨#[]⟩, .string ⟨#[]⟩, .slice p.a ns.length p.c] rfl rfl (World.news_of_block (cs := #[.int .i64 5, .string ⟨#[]⟩, .string ⟨#[]⟩, .slice p.a ns.length p.c]) (t := 120) (fr := (0, 0)) (heap_alloc_new w4 _)) (by simp [Value.oneCell']) (by omega) (by unfold maxLen; omega) (by omega) (by simp; omega) (w4.heap.size + 1) (by simp) ?_; intro gg cap3 w5 hown3 hg3 hat3 hlt3))
    have FIN : Hid (TyR B P tb o ts eT eV w (.slice va xs.length vc) xs (some (l ++ [⟨5, e0, e0, ns⟩], j)) (.returned (.slice (some ⟨gg, 0, none⟩) (n' + 1) cap3)) w5) := by
      have z := ty_end (ys := ys) (x := (⟨5, e0, e0, ns⟩, p)) hP htb (v := .slice va xs.length vc) HO4.out HP4.out HB4.out HGR.out (by rw [← HN'.out]; exact hown3) hg3 hat3 (HNP.out.base (by omega)) HNI.out HNW.out (fun hne => by have := (HNP.out.lt hne).1; show w.heap.size ≤ p.b; omega)
      rw [← HN'.out, HY.out] at z
      exact z
    clear hown3 hg3 hat3
    go_wp2
    go_ret
    rw [HRR.out]
    exact FIN.out

theorem p_base {B P tb o : Nat} {ts : List TK} {eT : TypeId} {eV : Value} {f : Nat} (IH : TyC B P tb o ts eT eV f) (hP : P < B) (htb : tb < B) {i : Nat} {w : World} {v : Value} {xs : List (TI × NPl)} (hps : PsAt w P tb o i ts eT eV) (hot : OT B w v xs) (hxi : xs.length ≤ i) (hB : B ≤ w.heap.size) (hf : ts.length - i < f + 1) :
    Calls Tryz.prog 79 #[.pointer (some ⟨P, 0, none⟩), v] w (TyR B P tb o ts eT eV w v xs (baseP true ts (tyP true ts f) i)) := by
  cases hc : isC ts i 1 with
  | true => exact base_name hP htb hps hot hxi hB hc
  | false =>
    cases h0 : isT ts i sInt with
    | true => exact base_int hP htb hps hot hxi hB hc h0
    | false =>
      cases h1 : isT ts i sBool with
      | true => exact base_bool hP htb hps hot hxi hB hc h1
      | false =>
        cases h2 : isT ts i sAny with
        | true => exact base_any hP htb hps hot hxi hB hc h2
        | false =>
          cases h3 : isT ts i sOpen with
          | true => exact base_rec IH hP htb hps hot hxi hB hf hc h3
          | false =>
            cases h4 : isT ts i sLeft with
            | true => exact base_brk IH hP htb hps hot hxi hB hf hc h4
            | false => exact base_none hP htb hps hot hxi hB hc h0 h1 h2 h3 h4

set_option maxRecDepth 100000 in
set_option maxHeartbeats 2000000 in
theorem p_whole {B P tb o : Nat} {ts : List TK} {eT : TypeId} {eV : Value} {f : Nat} (IH : TyC B P tb o ts eT eV f) (hP : P < B) (htb : tb < B) : TyC B P tb o ts eT eV (f + 1) := by
  intro i w v xs hps hot hxi hf hB
  have HIH : Hid (TyC B P tb o ts eT eV f) := IH
  have CB := p_base IH hP htb hps hot hxi hB hf
  have hn := hps.tk.len
  clear IH hps
  have HO0 : Hid (OT B w v xs) := hot
  clear hot
  obtain ⟨i0, hi0, hz0, hz1, hz2⟩ := info_parts Tryz.infoTI
  go_enter Tryz.func69, Tryz.ntmps69
  go_wp2_with fail
  refine CB.mono ?_
  clear CB
  intro e w1 hT
  obtain ⟨b1, hT⟩ := hT
  obtain ⟨r, hr⟩ : ∃ r, r = baseP true ts (tyP true ts f) i := ⟨_, rfl⟩
  have HBR : Hid (baseP true ts (tyP true ts f) i = r) := hr.symm
  rw [← hr] at hT
  clear hr
  have HB1 : Hid (But (P :: v.ownBlock.toList) w w1) := b1
  clear b1
  cases r with
  | none =>
    have hT : e = .panicked [{ v := .iface eT eV, recovered := false }] := hT
    subst hT
    have HR : Hid (tyP true ts (f + 1) i = none) := by show _ = _; rw [tyP, HBR.out]
    go_wp2
    exact ⟨rfl, by rw [HR.out]; exact ⟨HB1.out, rfl⟩⟩
  | some r =>
    obtain ⟨l, j⟩ := r
    obtain ⟨v1, ys, rfl, O1, hl, P1, gr, nw⟩ := hT
    obtain ⟨f1, f2, f3⟩ := base_far (ty_far f) _ _ _ HBR.out
    have HO1 : Hid (OT B w1 v1 (xs ++ ys)) := O1
    have HP1 : Hid (PsAt w1 P tb o j ts eT eV) := P1
    have HY : Hid (ys.map Prod.fst = l) := hl
    have HGR : Hid (∀ b, v1.ownBlock = some b → v.ownBlock = some b ∨ w.heap.size ≤ b) := gr
    have HNW : Hid (∀ b, b ∈ tisB ys → w.heap.size ≤ b) := nw
    have hyl : ys.length = l.length := by rw [← hl, List.length_map]
    have hs1 := HB1.out.size
    clear O1 hl P1 gr nw
    go_wp2_with fail
    cases ha : isT ts j sArrow
    case false =>
      have HR : Hid (tyP true ts (f + 1) i = some (l, j)) := by
        show _ = _
        rw [tyP, HBR.out]
        show (if isT ts j sArrow = true then _ else _) = _
        rw [ha]; rfl
      refine (p_comes_no ⟨#[45, 62]⟩ w1 HP1.out ha).mono ?_
      rintro e w2 ⟨rfl, rfl⟩
      clear ha
      go_wp2
      go_ret
      rw [HR.out]
      exact ⟨HB1.out, v1, ys, rfl, HO1.out, HY.out, HP1.out, HGR.out, HNW.out⟩
    refine (p_comes ⟨#[45, 62]⟩ w1 HP1.out ha).mono ?_
    rintro e w2 ⟨rfl, p2, b2⟩
    have HO2 : Hid (OT B w2 v1 (xs ++ ys)) := HO1.out.low b2 (fun b z => by rw [List.mem_singleton.1 z]; exact Or.inl hP)
    have HB2 : Hid (But (P :: v.ownBlock.toList) w w2) := HB1.out.then_ (b2.more (fun k z => by rw [List.mem_singleton.1 z]; simp))
    have hs2 := HB2.out.size
    have C2 := HIH.out (j + 1) w2 v1 (xs ++ ys) p2 HO2.out (by rw [List.length_append]; omega) (by omega) (by omega)
    clear p2 b2
    go_wp2_with fail
    refine C2.mono ?_
    clear C2
    intro e w3 hT
    obtain ⟨b3, hT⟩ := hT
    obtain ⟨r, hr⟩ : ∃ r, r = tyP true ts f (j + 1) := ⟨_, rfl⟩
    have HTR : Hid (tyP true ts f (j + 1) = r) := hr.symm
    rw [← hr] at hT
    clear hr
    have HB3 : Hid (But (P :: v.ownBlock.toList) w w3) := HB2.out.trans b3 (fun k z hk => by
      simp only [List.mem_cons, Option.mem_toList] at z ⊢
      rcases z with z | z
      · exact Or.inl z
      · rcases HGR.out k z with q | q
        · exact Or.inr q
        · omega)
    clear b3
    cases r with
    | none =>
      have hT : e = .panicked [{ v := .iface eT eV, recovered := false }] := hT
      subst hT
      have HR : Hid (tyP true ts (f + 1) i = none) := by
        show _ = _
        rw [tyP, HBR.out]
        show (if isT ts j sArrow = true then _ else _) = _
        rw [ha, HTR.out]; rfl
      clear ha
      go_wp2
      exact ⟨rfl, by rw [HR.out]; exact ⟨HB3.out, rfl⟩⟩
    | some r =>
      obtain ⟨l2, k⟩ := r
      obtain ⟨v3, zs, rfl, O3, hl3, P3, gr3, nw3⟩ := hT
      obtain ⟨f4, f5, f6⟩ := ty_far f _ _ _ HTR.out
      have hzl : zs.length = l2.length := by rw [← hl3, List.length_map]
      have HR : Hid (tyP true ts (f + 1) i = some (l ++ l2 ++ [tyO 6], k)) := by
        show _ = _
        rw [tyP, HBR.out]
        show (if isT ts j sArrow = true then _ else _) = _
        rw [ha, HTR.out]; rfl
      rw [List.append_assoc] at O3
      obtain ⟨va', vc', hv'⟩ := own_form O3.own
      obtain ⟨n', hn'⟩ : ∃ n', n' = (xs ++ (ys ++ zs)).length := ⟨_, rfl⟩
      have HN' : Hid (n' = (xs ++ (ys ++ zs)).length) := hn'
      have hn9 : n' ≤ 4000 := by
        rw [hn', List.length_append, List.length_append]
        omega
      rw [← hn'] at hv'
      subst hv'
      clear hn'
      have HO3 : Hid (OT B w3 (.slice va' n' vc') (xs ++ (ys ++ zs))) := O3
      have HP3 : Hid (PsAt w3 P tb o k ts eT eV) := P3
      have HYZ : Hid ((ys ++ zs).map Prod.fst = l ++ l2) := by show _ = _; rw [List.map_append, HY.out, hl3]
      have HGR3 : Hid (∀ b, (Value.slice va' n' vc').ownBlock = some b → v.ownBlock = some b ∨ w.heap.size ≤ b) := fun b e => by
        rcases gr3 b e with q | q
        · exact HGR.out b q
        · exact Or.inr (by omega)
      have HNW3 : Hid (∀ b, b ∈ tisB (ys ++ zs) → w.heap.size ≤ b) := fun b hb => by
        rw [tisB_append] at hb
        rcases List.mem_append.1 hb with q | q
        · exact HNW.out b q
        · have := nw3 b q; omega
      have hs3 := HB3.out.size
      have HOW : Hid (w3.ownsRow B 120 4 (.slice va' n' vc') n' (tisC (xs ++ (ys ++ zs)))) := by have z := O3.own; rw [← HN'.out] at z; exact z
      clear ha O3 hl3 P3 gr3 nw3
      go_wp2_with (first | (at_builtin; refine wpList_append_lies _ rfl _ _ 55 rfl B 120 i0 _ 4 64 Tryz.underlying55 hi0 hz0 hz1 hz2 rfl (by omega) (.slice va' n' vc') (n') (tisC (xs ++ (ys ++ zs))) rfl (HOW.out.alloc _) ⟨w3.heap.size, 0, none⟩ 1 1 [.int .i64 6, .string ⟨#[]⟩, .string ⟨#[]⟩, .slice none 0 0] rfl rfl (World.news_of_block (cs := #[.int .i64 6, .string ⟨#[]⟩, .string ⟨#[]⟩, .slice none 0 0]) (t := 120) (fr := (0, 0)) (heap_alloc_new w3 _)) (by simp [Value.oneCell']) (by omega) (by unfold maxLen; omega) (by omega) (by simp; omega) (w3.heap.size + 1) (by simp) ?_; intro gg cap3 w5 hown3 hg3 hat3 hlt3))
      have FIN : Hid (TyR B P tb o ts eT eV w v xs (some (l ++ l2 ++ [tyO 6], k)) (.returned (.slice (some ⟨gg, 0, none⟩) (n' + 1) cap3)) w5) := by
        have z := ty_end (ys := ys ++ zs) (x := (tyO 6, ⟨none, 0, 0⟩)) hP htb (v := v) HO3.out HP3.out HB3.out HGR3.out (by rw [← HN'.out]; exact hown3) hg3 hat3 (NmOK.nil _ _ _) (fun h => absurd rfl h) HNW3.out (fun h => absurd rfl h)
        rw [← HN'.out, HYZ.out] at z
        exact z
      clear hown3 hg3 hat3
      go_wp2
      go_ret
      rw [HR.out]
      exact FIN.out

/-- Whole types, of every fuel. -/
theorem ty_all {B P tb o : Nat} {ts : List TK} {eT : TypeId} {eV : Value} (hP : P < B) (htb : tb < B) : ∀ f, TyC B P tb o ts eT eV f
  | 0 => fun _ _ _ _ _ _ _ hf => absurd hf (Nat.not_lt_zero _)
  | f + 1 => p_whole (ty_all hP htb f) hP htb

end Go.Proofs.YtdjkgilohhjfoaaGreatDoor

namespace Go.Proofs.YtdjkgilohhjfoaaGreatDoor
open Go.RowKit

/-- Where the names and the type of an item lie. -/
structure EPl where
  np : NPl
  tv : Value
  zs : List (TI × NPl)
def ep0 : EPl := ⟨⟨none, 0, 0⟩, .slice none 0 0, []⟩

theorem OT.nil (B : Nat) (w : World) : OT B w (.slice none 0 0) [] := ⟨World.ownsRow_nil _ _ _ _, (fun x hx => by cases hx), List.nodup_nil⟩

def eiC (x : EI × EPl) : List Value := [.int .i64 x.1.op, .int .i64 x.1.num, .string x.1.md, .string x.1.nm, .slice x.2.np.a x.1.ns.length x.2.np.c, x.2.tv]
def eisC (xs : List (EI × EPl)) : List Value := xs.flatMap eiC
theorem eisC_snoc (xs : List (EI × EPl)) (x : EI × EPl) : eisC (xs ++ [x]) = eisC xs ++ eiC x := by simp [eisC]
/-- The blocks of an item. -/
def eiB (x : EI × EPl) : List Nat := (if x.1.ns = [] then [] else [x.2.np.b]) ++ (x.2.tv.ownBlock.toList ++ tisB x.2.zs)
def eisB (xs : List (EI × EPl)) : List Nat := xs.flatMap eiB
theorem eisB_append (xs ys : List (EI × EPl)) : eisB (xs ++ ys) = eisB xs ++ eisB ys := by simp [eisB]

structure EiOK (B : Nat) (w : World) (x : EI × EPl) : Prop where
  nm : NmOK B w x.1.ns x.2.np
  ty : OT B w x.2.tv x.2.zs
  is : x.2.zs.map Prod.fst = x.1.ty

theorem mem_eiB {x : EI × EPl} {b : Nat} (h : b ∈ eiB x) : (x.1.ns ≠ [] ∧ x.2.np.b = b) ∨ x.2.tv.ownBlock = some b ∨ b ∈ tisB x.2.zs := by
  unfold eiB at h
  rcases List.mem_append.1 h with h | h
  · split at h
    · cases h
    · exact Or.inl ⟨‹_›, (List.mem_singleton.1 h).symm⟩
  · rcases List.mem_append.1 h with h | h
    · exact Or.inr (Or.inl (by simpa using h))
    · exact Or.inr (Or.inr h)
theorem mem_eisB {xs : List (EI × EPl)} {b : Nat} (h : b ∈ eisB xs) : ∃ x, x ∈ xs ∧ b ∈ eiB x := by
  unfold eisB at h
  obtain ⟨x, hx, hb⟩ := List.mem_flatMap.1 h
  exact ⟨x, hx, hb⟩
theorem eisB_mem {xs : List (EI × EPl)} {x : EI × EPl} {b : Nat} (hx : x ∈ xs) (hb : b ∈ eiB x) : b ∈ eisB xs := List.mem_flatMap.2 ⟨x, hx, hb⟩
theorem eiB_nm {x : EI × EPl} (hn : x.1.ns ≠ []) : x.2.np.b ∈ eiB x := by unfold eiB; rw [if_neg hn]; simp
theorem eiB_ty {x : EI × EPl} {b : Nat} (h : x.2.tv.ownBlock = some b) : b ∈ eiB x := by unfold eiB; simp [h]
theorem eiB_zs {x : EI × EPl} {b : Nat} (h : b ∈ tisB x.2.zs) : b ∈ eiB x := by unfold eiB; simp [h]

theorem EiOK.lt {B : Nat} {w : World} {x : EI × EPl} (h : EiOK B w x) {b : Nat} (hb : b ∈ eiB x) : B ≤ b ∧ b < w.heap.size := by
  rcases mem_eiB hb with ⟨hn, rfl⟩ | e | e
  · exact h.nm.lt hn
  · exact h.ty.own.lt b e
  · exact h.ty.names e
theorem EiOK.but {S : List Nat} {B : Nat} {w w' : World} {x : EI × EPl} (h : EiOK B w x) (hb : But S w w') (hS : ∀ b, b ∈ eiB x → b ∉ S) : EiOK B w' x :=
  ⟨h.nm.but hb (fun hn => hS _ (eiB_nm hn)), h.ty.but hb (fun b e => hS b (eiB_ty e)) (fun b e => hS b (eiB_zs e)), h.is⟩

/-- Items in memory of one's own. -/
structure OE (B : Nat) (w : World) (v : Value) (xs : List (EI × EPl)) : Prop where
  own : w.ownsRow B 123 6 v xs.length (eisC xs)
  ok : ∀ x, x ∈ xs → EiOK B w x
  nd : (eisB xs).Nodup

theorem OE.names {B : Nat} {w : World} {v : Value} {xs : List (EI × EPl)} (h : OE B w v xs) {b : Nat} (hb : b ∈ eisB xs) : B ≤ b ∧ b < w.heap.size := by
  obtain ⟨x, hx, hb⟩ := mem_eisB hb
  exact (h.ok x hx).lt hb

/-- A block of an item is none of the list's. -/
theorem own_ei {B : Nat} {w : World} {v : Value} {n size : Nat} {xs : List Value} {t : TypeId} (h : w.ownsRow B t size v n xs) (h1 : t ≠ 9) (h2 : t ≠ 120) {x : EI × EPl} (hx : EiOK B w x) {b : Nat} (hb : b ∈ eiB x) : v.ownBlock ≠ some b := by
  rcases mem_eiB hb with ⟨hn, rfl⟩ | e | e
  · exact own_nm h h1 hx.nm hn
  · exact own_own hx.ty.own h (fun z => h2 z.symm) e
  · obtain ⟨y, hy, hyn, rfl⟩ := mem_tisB e
    exact own_nm h h1 (hx.ty.nm y hy) hyn

theorem OE.but {S : List Nat} {B : Nat} {w w' : World} {v : Value} {xs : List (EI × EPl)} (h : OE B w v xs) (hb : But S w w') (h1 : ∀ b, v.ownBlock = some b → b ∉ S) (h2 : ∀ b, b ∈ eisB xs → b ∉ S) : OE B w' v xs :=
  ⟨own_block h.own (fun k e => hb.block k (h.own.lt k e.symm).2 (h1 k e.symm)), fun x hx => (h.ok x hx).but hb (fun b z => h2 b (eisB_mem hx z)), h.nd⟩

theorem OE.low {S : List Nat} {B : Nat} {w w' : World} {v : Value} {xs : List (EI × EPl)} (h : OE B w v xs) (hb : But S w w') (hS : ∀ b, b ∈ S → b < B ∨ w.heap.size ≤ b) : OE B w' v xs :=
  h.but hb (fun b e z => by have := h.own.lt b e; have := hS b z; omega) (fun b e z => by have := h.names e; have := hS b z; omega)

theorem ei_box {B : Nat} {w : World} {x : EI × EPl} {t' : TypeId} {N X : Nat} {f : Nat → Value} (h : EiOK B w x) (hX : w.rowIs X t' N f) (h1 : 120 ≠ t') (h2 : t' ≠ 9) {b : Nat} (hb : b ∈ eiB x) : b ≠ X := by
  rcases mem_eiB hb with ⟨hn, rfl⟩ | e | e
  · exact nm_box h.nm hn hX h2
  · intro z; subst z; exact own_box h.ty.own hX h1 e
  · obtain ⟨y, hy, hyn, rfl⟩ := mem_tisB e
    exact nm_box (h.ty.nm y hy) hyn hX h2
theorem OE.box {B : Nat} {w : World} {v : Value} {xs : List (EI × EPl)} {t' : TypeId} {N X : Nat} {f : Nat → Value} (h : OE B w v xs) (hX : w.rowIs X t' N f) (h1 : 123 ≠ t' ∧ 120 ≠ t') (h2 : t' ≠ 9) (u : Value) (k : Nat) : OE B (w.setCell ⟨X, k, none⟩ u) v xs :=
  h.but (S := [X]) ((But.refl _ _).set (fun _ => by simp) k u) (fun b e z => own_box h.own hX h1.1 (by rw [e, List.mem_singleton.1 z])) (fun b hb z => by
    obtain ⟨x, hx, hb⟩ := mem_eisB hb
    exact ei_box (h.ok x hx) hX h1.2 h2 hb (List.mem_singleton.1 z))

/-- One more item. -/
theorem OE.push {B : Nat} {w w3 : World} {v : Value} {xs : List (EI × EPl)} {x : EI × EPl} {o : Obj} {gg cap3 : Nat} (h : OE B w v xs)
    (hown : w3.ownsRow B 123 6 (.slice (some ⟨gg, 0, none⟩) (xs.length + 1) cap3) (xs.length + 1) (eisC xs ++ eiC x)) (hg : (w.alloc o).grownBy w3 v.ownBlock) (hx : EiOK B w x) (hn : ∀ b, b ∈ eiB x → b ∉ eisB xs) (hd : (eiB x).Nodup) :
    OE B w3 (.slice (some ⟨gg, 0, none⟩) (xs.length + 1) cap3) (xs ++ [x]) := by
  have hb := grown_but hg
  have far : ∀ y, EiOK B w y → EiOK B w3 y := fun y hy => hy.but hb (fun b z => by simp only [Option.mem_toList]; exact own_ei h.own (by decide) (by decide) hy z)
  refine ⟨by rw [eisC_snoc, List.length_append]; exact hown, fun y hy => ?_, ?_⟩
  · rcases List.mem_append.1 hy with z | z
    · exact far y (h.ok y z)
    · rw [List.mem_singleton.1 z]
      exact far x hx
  · rw [eisB_append]
    have e1 : eisB [x] = eiB x := by simp [eisB]
    rw [e1]
    refine List.nodup_append.2 ⟨h.nd, hd, fun a ha b hb e => ?_⟩
    subst e
    exact hn a hb ha

/-- What comes of a reader of expressions. -/
def ExR (B P tb o : Nat) (ts : List TK) (eT : TypeId) (eV : Value) (w : World) (v : Value) (xs : List (EI × EPl)) (r : Option (List EI × Nat)) (e : Ending) (w' : World) : Prop :=
  But (P :: v.ownBlock.toList) w w' ∧ match r with
  | none => e = .panicked [{ v := .iface eT eV, recovered := false }]
  | some (l, j) => ∃ v' ys, e = .returned v' ∧ OE B w' v' (xs ++ ys) ∧ ys.map Prod.fst = l ∧ PsAt w' P tb o j ts eT eV ∧ (∀ b, v'.ownBlock = some b → v.ownBlock = some b ∨ w.heap.size ≤ b) ∧ ∀ b, b ∈ eisB ys → w.heap.size ≤ b

/-- The reader of expressions, of this fuel. -/
def ExC (B P tb o : Nat) (ts : List TK) (eT : TypeId) (eV : Value) (f : Nat) : Prop :=
  ∀ (i : Nat) (w : World) (v : Value) (xs : List (EI × EPl)), PsAt w P tb o i ts eT eV → OE B w v xs → xs.length ≤ i → ts.length - i < f → B ≤ w.heap.size → Calls Tryz.prog 70 #[.pointer (some ⟨P, 0, none⟩), v] w (ExR B P tb o ts eT eV w v xs (exP true ts f i))

theorem Tryz.infoEI : (Tryz.prog.info? 123).map (fun i => (i.zero, i.size, i.bytes)) = some (some (.agg #[.int .i64 0, .int .i64 0, .string ByteArray.empty, .string ByteArray.empty, .slice none 0 0, .slice none 0 0]), 6, 96) := by kernel_rfl

theorem e_apart {B : Nat} {w : World} {v : Value} {xs : List (EI × EPl)} {kb mb : Nat} {ov : Value} {ord : List (List UInt8)} (h : OE B w v xs) (hk : KnT w kb mb ov ord) (hs : ∀ b, ov.ownBlock = some b → b ∉ eisB xs) : (∀ b, v.ownBlock = some b → b ∉ kb :: mb :: ov.ownBlock.toList) ∧ ∀ b, b ∈ eisB xs → b ∉ kb :: mb :: ov.ownBlock.toList :=
  ⟨fun b e => own_map h.own hk (by decide) (by decide) e, fun b hb => by
    obtain ⟨x, hx, hbx⟩ := mem_eisB hb
    have ok := h.ok x hx
    rcases mem_eiB hbx with ⟨hn, rfl⟩ | e | e
    · exact nm_map ok.nm hn hk (fun e => hs _ e hb)
    · exact own_map ok.ty.own hk (by decide) (by decide) e
    · obtain ⟨y, hy, hyn, rfl⟩ := mem_tisB e
      exact nm_map (ok.ty.nm y hy) hyn hk (fun e => hs _ e hb)⟩

/-- The end of a reader: one more item. -/
theorem ex_end {B P tb o : Nat} {ts : List TK} {eT : TypeId} {eV : Value} (hP : P < B) (htb : tb < B) {j : Nat} {w w4 w5 : World} {v v1 : Value} {xs ys : List (EI × EPl)} {x : EI × EPl} {gg cap3 : Nat} {ob : Obj}
    (hot : OE B w4 v1 (xs ++ ys)) (hps : PsAt w4 P tb o j ts eT eV) (hbt : But (P :: v.ownBlock.toList) w w4) (hgr : ∀ b, v1.ownBlock = some b → v.ownBlock = some b ∨ w.heap.size ≤ b)
    (hown : w5.ownsRow B 123 6 (.slice (some ⟨gg, 0, none⟩) ((xs ++ ys).length + 1) cap3) ((xs ++ ys).length + 1) (eisC (xs ++ ys) ++ eiC x)) (hg : (w4.alloc ob).grownBy w5 v1.ownBlock) (hat : v1.ownBlock = some gg ∨ gg = w4.heap.size + 1)
    (hx : EiOK B w4 x) (hn : ∀ b, b ∈ eiB x → b ∉ eisB (xs ++ ys)) (hd : (eiB x).Nodup) (hnew : ∀ b, b ∈ eisB ys → w.heap.size ≤ b) (hxn : ∀ b, b ∈ eiB x → w.heap.size ≤ b) :
    ExR B P tb o ts eT eV w v xs (some (ys.map Prod.fst ++ [x.1], j)) (.returned (.slice (some ⟨gg, 0, none⟩) ((xs ++ ys).length + 1) cap3)) w5 := by
  have b5 := grown_but hg
  have low : ∀ k, k < B → k ∉ v1.ownBlock.toList := fun k hk z => by
    have := hot.own.lt k (by simpa using z)
    omega
  have p0 := hps.pos
  refine ⟨hbt.trans b5 (fun k z hk => ?_), _, ys ++ [x], rfl, ?_, by simp, hps.but b5 (low P hP) (low tb htb) (low 0 (by omega)), fun b e => ?_, fun b hb => ?_⟩
  · rcases hgr k (by simpa using z) with q | q
    · simp [q]
    · omega
  · rw [← List.append_assoc]
    exact hot.push hown hg hx hn hd
  · have eb : gg = b := by simpa [Value.ownBlock] using e
    subst eb
    rcases hat with q | q
    · exact hgr gg q
    · have := hbt.size
      exact Or.inr (by omega)
  · rw [eisB_append] at hb
    rcases List.mem_append.1 hb with z | z
    · exact hnew b z
    · exact hxn b (by simpa [eisB] using z)

/-- An item with no list of its own. -/
theorem ei_bare (B : Nat) (w : World) {x : EI} (h1 : x.ns = []) (h2 : x.ty = []) : EiOK B w (x, ep0) ∧ eiB (x, ep0) = [] := by
  refine ⟨⟨by show NmOK B w x.ns _; rw [h1]; exact NmOK.nil _ _ _, OT.nil _ _, by show [] = x.ty; rw [h2]⟩, ?_⟩
  unfold eiB ep0
  rw [if_pos h1]
  rfl

end Go.Proofs.YtdjkgilohhjfoaaGreatDoor

namespace Go.Proofs.YtdjkgilohhjfoaaGreatDoor
open Go.RowKit


/-- What comes of a part. -/
def EPtR (B P tb o : Nat) (ts : List TK) (eT : TypeId) (eV : Value) (X : Nat) (w : World) (v : Value) (xs : List (EI × EPl)) (r : Option (List EI × Nat)) (e : Ending) (w' : World) : Prop :=
  But (P :: X :: v.ownBlock.toList) w w' ∧ match r with
  | none => e = .panicked [{ v := .iface eT eV, recovered := false }]
  | some (l, j) => ∃ v' ys, e = .returned (.tuple #[]) ∧ w'.rowIs X 56 1 (fun _ => v') ∧ OE B w' v' (xs ++ ys) ∧ ys.map Prod.fst = l ∧ PsAt w' P tb o j ts eT eV ∧ (∀ b, v'.ownBlock = some b → v.ownBlock = some b ∨ w.heap.size ≤ b) ∧ ∀ b, b ∈ eisB ys → w.heap.size ≤ b

set_option maxRecDepth 100000 in
set_option maxHeartbeats 1000000 in
theorem e_part {B P tb o : Nat} {ts : List TK} {eT : TypeId} {eV : Value} {f : Nat} (IH : ExC B P tb o ts eT eV f) {i Q X : Nat} {w : World} {v : Value} {xs : List (EI × EPl)} (hps : PsAt w P tb o i ts eT eV) (hQ : w.rowIs Q 98 1 (fun _ => .pointer (some ⟨P, 0, none⟩))) (hX : w.rowIs X 56 1 (fun _ => v)) (hot : OE B w v xs) (hxi : xs.length ≤ i) (hf : ts.length - i < f) (hB : B ≤ w.heap.size) (hPX : P ≠ X) (htX : tb ≠ X) (hX0 : 0 ≠ X) :
    Calls Tryz.prog 99 #[.pointer (some ⟨Q, 0, none⟩), .pointer (some ⟨X, 0, none⟩)] w (EPtR B P tb o ts eT eV X w v xs (exP true ts f i)) := by
  have cq := hQ.cell (i := 0) (by omega)
  have cx := hX.cell (i := 0) (by omega)
  have nX : v.ownBlock ≠ some X := own_box hot.own hX (by decide)
  have HIH := IH i w v xs hps hot hxi hf hB
  have HOT : Hid (OE B w v xs) := hot
  clear IH hps hot
  go_enter Tryz.func99, Tryz.ntmps99
  go_wp2_with fail
  refine HIH.mono ?_
  clear HIH
  intro e w1 hT
  obtain ⟨b1, hT⟩ := hT
  obtain ⟨r, hr⟩ : ∃ r, r = exP true ts f i := ⟨_, rfl⟩
  have HR : Hid (exP true ts f i = r) := hr.symm
  rw [← hr] at hT
  clear hr
  have HB1 : Hid (But (P :: X :: v.ownBlock.toList) w w1) := b1.more (fun k z => by simp only [List.mem_cons] at z ⊢; exact z.imp_right Or.inr)
  have RX1 := hX.of_block (b1.block X hX.lt (fun z => by
    simp only [List.mem_cons, Option.mem_toList] at z
    rcases z with z | z
    · exact hPX z.symm
    · exact nX z))
  cases r with
  | none =>
    have hT : e = .panicked [{ v := .iface eT eV, recovered := false }] := hT
    subst hT
    clear b1
    go_wp2
    exact ⟨rfl, by rw [HR.out]; exact ⟨HB1.out, rfl⟩⟩
  | some r =>
    obtain ⟨l, j⟩ := r
    obtain ⟨v', ys, rfl, O1, hl, P1, gr, nw⟩ := hT
    have HY : Hid (ys.map Prod.fst = l) := hl
    have HGR : Hid (∀ b, v'.ownBlock = some b → v.ownBlock = some b ∨ w.heap.size ≤ b) := gr
    have HNW : Hid (∀ b, b ∈ eisB ys → w.heap.size ≤ b) := nw
    obtain ⟨va', vc', hv'⟩ := own_form O1.own
    obtain ⟨n', hn'⟩ : ∃ n', n' = (xs ++ ys).length := ⟨_, rfl⟩
    rw [← hn'] at hv'
    subst hv'
    clear hn' hl gr nw b1
    have cx1 := RX1.cell (i := 0) (by omega)
    have cf1 := RX1.frozen 0
    have b12 : But [X] w1 (w1.setCell ⟨X, 0, none⟩ (.slice va' n' vc')) := (But.refl _ _).set (fun _ => by simp) 0 _
    have HB2 : Hid (But (P :: X :: v.ownBlock.toList) w (w1.setCell ⟨X, 0, none⟩ (.slice va' n' vc'))) := HB1.out.trans b12 (fun k z _ => by rw [List.mem_singleton.1 z]; simp)
    have HP2 : Hid (PsAt (w1.setCell ⟨X, 0, none⟩ (.slice va' n' vc')) P tb o j ts eT eV) := P1.but b12 (by simpa using hPX) (by simpa using htX) (by simpa using hX0)
    have HO2 : Hid (OE B (w1.setCell ⟨X, 0, none⟩ (.slice va' n' vc')) (.slice va' n' vc') (xs ++ ys)) := O1.box RX1 (by decide) (by decide) _ _
    have HX2 : Hid ((w1.setCell ⟨X, 0, none⟩ (.slice va' n' vc')).rowIs X 56 1 (fun _ => .slice va' n' vc')) := (RX1.set 0 _).congr (fun k hk => by
      match k, hk with
      | 0, _ => rfl)
    clear b12 O1 P1 RX1
    go_wp2
    go_end0
    rw [HR.out]
    exact ⟨HB2.out, _, ys, rfl, HX2.out, HO2.out, HY.out, HP2.out, HGR.out, HNW.out⟩

/-- What comes of the fields. -/
def EFdR (B P tb o : Nat) (ts : List TK) (eT : TypeId) (eV : Value) (X : Nat) (w : World) (v : Value) (xs : List (EI × EPl)) (r : Option (List EI × List ByteArray × Nat)) (e : Ending) (w' : World) : Prop :=
  But (P :: X :: v.ownBlock.toList) w w' ∧ match r with
  | none => e = .panicked [{ v := .iface eT eV, recovered := false }]
  | some (l, ns, j) => ∃ v' ys p, e = .returned (.slice p.a ns.length p.c) ∧ w'.rowIs X 56 1 (fun _ => v') ∧ OE B w' v' (xs ++ ys) ∧ ys.map Prod.fst = l ∧ PsAt w' P tb o j ts eT eV ∧ (∀ b, v'.ownBlock = some b → v.ownBlock = some b ∨ w.heap.size ≤ b) ∧ (∀ b, b ∈ eisB ys → w.heap.size ≤ b) ∧ NmOK w.heap.size w' ns p ∧ (ns ≠ [] → p.b ∉ eisB (xs ++ ys))

/-- The loop over the fields. -/
structure EFL (B P tb o : Nat) (ts : List TK) (eT : TypeId) (eV : Value) (Q X : Nat) (w : World) (v : Value) (xs : List (EI × EPl)) (T : Nat → Option (List EI × Nat)) (i : Nat) (wr : World) (j g : Nat) (ns : List ByteArray) (v1 : Value) (ys : List (EI × EPl)) (ov : Value) : Prop where
  eq : fldsP ts T sEq i = floop ts T sEq g j ns (ys.map Prod.fst)
  fuel : ts.length < g + j
  ps : PsAt wr P tb o j ts eT eV
  rq : wr.rowIs Q 98 1 (fun _ => .pointer (some ⟨P, 0, none⟩))
  rx : wr.rowIs X 56 1 (fun _ => v1)
  ot : OE B wr v1 (xs ++ ys)
  gr : ∀ b, v1.ownBlock = some b → v.ownBlock = some b ∨ w.heap.size ≤ b
  nw : ∀ b, b ∈ eisB ys → w.heap.size ≤ b
  but : But (P :: X :: v.ownBlock.toList) w wr
  kn : KnT wr (w.heap.size + 1) w.heap.size ov (ns.map fun s => s.data.toList)
  sep : ∀ b, ov.ownBlock = some b → b ∉ eisB (xs ++ ys)
  len : (xs ++ ys).length ≤ j
  nl : ns.length ≤ j
  far : i ≤ j



end Go.Proofs.YtdjkgilohhjfoaaGreatDoor

