/-
  Merged for the claim: PdJ PeA PeB PeC.
-/
import Derived.Test.YtdjkgilohhjfoaaGreatDoorM09
namespace Go.Proofs.YtdjkgilohhjfoaaGreatDoor
open Go.RowKit

set_option maxRecDepth 100000 in
set_option maxHeartbeats 4000000 in
theorem expr_fun {B P tb o : Nat} {ts : List TK} {eT : TypeId} {eV : Value} {f : Nat} (IH : ExC B P tb o ts eT eV f) (hP : P < B) (htb : tb < B) {i : Nat} {w : World} {v : Value} {xs : List (EI × EPl)} (hps : PsAt w P tb o i ts eT eV) (hot : OE B w v xs) (hxi : xs.length ≤ i) (hB : B ≤ w.heap.size) (hf : ts.length - i < f + 1) (h1 : isT ts i sFun = true) :
    Calls Tryz.prog 70 #[.pointer (some ⟨P, 0, none⟩), v] w (ExR B P tb o ts eT eV w v xs (exP true ts (f + 1) i)) := by
  have HR : Hid (exP true ts (f + 1) i = funP true ts (exP true ts f) (i + 1)) := by show _ = _; rw [exP, if_pos h1]
  have HIH : Hid (ExC B P tb o ts eT eV f) := IH
  have S0 := est_start hps hot
  have hi := isT_lt h1
  clear IH
  go_enter Tryz.func70, Tryz.ntmps70
  go_wp2_with fail
  refine (p_comes ⟨#[102, 117, 110]⟩ w hps h1).mono ?_
  rintro e w1 ⟨rfl, p1, b1⟩
  have S1 := S0.low hP b1 p1
  obtain ⟨zs, hO, hzl, rd⟩ := S1.read
  have hsz := S1.1.size
  rw [List.length_nil, Nat.add_zero] at hzl
  have CE := p_fun HIH.out hP htb p1 hO (by omega) (by omega) (by omega)
  clear hO p1 b1 S1 S0 hps hot
  go_wp2_with fail
  refine CE.mono ?_
  clear CE
  intro e w2 hT
  obtain ⟨bb, no, yes⟩ := rd _ _ _ hT
  obtain ⟨r, hr⟩ : ∃ r, r = funP true ts (exP true ts f) (i + 1) := ⟨_, rfl⟩
  have HER : Hid (exP true ts (f + 1) i = r) := HR.out.trans hr.symm
  have HBB : Hid (But (P :: v.ownBlock.toList) w w2) := bb
  rw [← hr] at no yes
  clear hr hT rd bb hzl
  cases r with
  | none =>
    have hT := no rfl
    subst hT
    clear h1 no yes
    go_wp2
    exact ⟨rfl, by rw [HER.out]; exact ⟨HBB.out, rfl⟩⟩
  | some r =>
    obtain ⟨l, k⟩ := r
    obtain ⟨v2, rfl, S2⟩ := yes l k rfl
    have HS2 : Hid (ESt B P tb o ts eT eV w v xs l k v2 w2) := S2
    clear h1 no yes S2
    go_wp2
    go_ret
    rw [HER.out]
    exact HS2.out.ret

set_option maxRecDepth 100000 in
set_option maxHeartbeats 4000000 in
theorem expr_if {B P tb o : Nat} {ts : List TK} {eT : TypeId} {eV : Value} {f : Nat} (IH : ExC B P tb o ts eT eV f) (hP : P < B) (htb : tb < B) {i : Nat} {w : World} {v : Value} {xs : List (EI × EPl)} (hps : PsAt w P tb o i ts eT eV) (hot : OE B w v xs) (hxi : xs.length ≤ i) (hB : B ≤ w.heap.size) (hf : ts.length - i < f + 1) (h1 : isT ts i sIf = true) :
    Calls Tryz.prog 70 #[.pointer (some ⟨P, 0, none⟩), v] w (ExR B P tb o ts eT eV w v xs (exP true ts (f + 1) i)) := by
  have h0 : isT ts i sFun = false := isT_one h1 (by decide)
  have HR0 : Hid (exP true ts (f + 1) i = ifP ts (exP true ts f) (i + 1)) := by show _ = _; rw [exP, h0, if_neg (by decide), if_pos h1]
  have HIH : Hid (ExC B P tb o ts eT eV f) := IH
  have S0 := est_start hps hot
  have hi := isT_lt h1
  have hn := hps.tk.len
  clear IH
  obtain ⟨i0, hi0, hz0, hz1, hz2⟩ := info_parts Tryz.infoEI
  go_enter Tryz.func70, Tryz.ntmps70
  go_wp2_with fail
  refine (p_comes_no ⟨#[102, 117, 110]⟩ w hps h0).mono ?_
  rintro e w1 ⟨rfl, rfl⟩
  go_wp2_with fail
  refine (p_comes ⟨#[105, 102]⟩ w hps h1).mono ?_
  rintro e w1 ⟨rfl, p1, b1⟩
  have S1 := S0.low hP b1 p1
  clear b1 S0 hps hot h0 h1
  obtain ⟨zs, hO, hzl, rd⟩ := S1.read
  have hsz := S1.1.size
  have CE := HIH.out (i + 1) w1 _ zs p1 hO (by rw [hzl, List.length_nil]; omega) (by omega) (by omega)
  clear hO p1 S1 hzl
  go_wp2_with fail
  refine CE.mono ?_
  clear CE
  intro e w2 hT
  obtain ⟨bb, no, yes⟩ := rd _ _ _ hT
  obtain ⟨r, hr⟩ : ∃ r, r = exP true ts f (i + 1) := ⟨_, rfl⟩
  have H1 : Hid (exP true ts f (i + 1) = r) := hr.symm
  have HBB : Hid (But (P :: v.ownBlock.toList) w w2) := bb
  rw [← hr] at no yes
  clear hr hT rd bb
  cases r with
  | none =>
    have hT := no rfl
    subst hT
    have HR : Hid (exP true ts (f + 1) i = none) := by
      show _ = _
      rw [HR0.out]
      unfold ifP
      rw [H1.out]
    clear no yes
    go_wp2
    exact ⟨rfl, by rw [HR.out]; exact ⟨HBB.out, rfl⟩⟩
  | some r =>
    obtain ⟨c, j⟩ := r
    obtain ⟨v2, rfl, S2⟩ := yes c j rfl
    rw [List.nil_append] at S2
    obtain ⟨f1, f2, f3⟩ := ex_far f _ _ _ H1.out
    have HS2 : Hid (ESt B P tb o ts eT eV w v xs c j v2 w2) := S2
    clear no yes S2
    go_wp2_with fail
    cases h2 : isT ts j sThen
    case false =>
      have HR : Hid (exP true ts (f + 1) i = none) := by
        show _ = _
        rw [HR0.out]
        unfold ifP
        rw [H1.out]
        show (if isT ts j sThen = true then _ else none) = none
        rw [h2]; rfl
      refine (p_need_no ⟨#[116, 104, 101, 110]⟩ w2 HS2.out.ps h2).mono ?_
      rintro e w9 ⟨rfl, rfl⟩
      clear h2
      go_wp2
      exact ⟨rfl, by rw [HR.out]; exact ⟨HBB.out, rfl⟩⟩
    have j1 := isT_lt h2
    refine (p_need ⟨#[116, 104, 101, 110]⟩ w2 HS2.out.ps h2).mono ?_
    rintro e w3 ⟨rfl, p3, b3⟩
    have S3 := HS2.out.low hP b3 p3
    clear b3 HBB
    obtain ⟨zs, hO, hzl, rd⟩ := S3.read
    have hsz := S3.1.size
    have CE := HIH.out (j + 1) w3 _ zs p3 hO (by omega) (by omega) (by omega)
    clear hO p3 S3 hzl
    go_wp2_with fail
    refine CE.mono ?_
    clear CE
    intro e w4 hT
    obtain ⟨bb, no, yes⟩ := rd _ _ _ hT
    obtain ⟨r, hr⟩ : ∃ r, r = exP true ts f (j + 1) := ⟨_, rfl⟩
    have H2 : Hid (exP true ts f (j + 1) = r) := hr.symm
    have HBB : Hid (But (P :: v.ownBlock.toList) w w4) := bb
    rw [← hr] at no yes
    clear hr hT rd bb
    cases r with
    | none =>
      have hT := no rfl
      subst hT
      have HR : Hid (exP true ts (f + 1) i = none) := by
        show _ = _
        rw [HR0.out]
        unfold ifP
        rw [H1.out]
        show (if isT ts j sThen = true then _ else none) = none
        rw [h2, H2.out]; rfl
      clear no yes h2
      go_wp2
      exact ⟨rfl, by rw [HR.out]; exact ⟨HBB.out, rfl⟩⟩
    | some r =>
      obtain ⟨d, k⟩ := r
      obtain ⟨v4, rfl, S4⟩ := yes d k rfl
      obtain ⟨f4, f5, f6⟩ := ex_far f _ _ _ H2.out
      have HS4 : Hid (ESt B P tb o ts eT eV w v xs (c ++ d) k v4 w4) := S4
      clear no yes S4
      go_wp2_with fail
      cases h3 : isT ts k sElse
      case false =>
        have HR : Hid (exP true ts (f + 1) i = none) := by
          show _ = _
          rw [HR0.out]
          unfold ifP
          rw [H1.out]
          show (if isT ts j sThen = true then _ else none) = none
          rw [h2, H2.out]
          show (if isT ts k sElse = true then _ else none) = none
          rw [h3]; rfl
        refine (p_need_no ⟨#[101, 108, 115, 101]⟩ w4 HS4.out.ps h3).mono ?_
        rintro e w9 ⟨rfl, rfl⟩
        clear h2 h3
        go_wp2
        exact ⟨rfl, by rw [HR.out]; exact ⟨HBB.out, rfl⟩⟩
      have k1 := isT_lt h3
      refine (p_need ⟨#[101, 108, 115, 101]⟩ w4 HS4.out.ps h3).mono ?_
      rintro e w5 ⟨rfl, p5, b5⟩
      have S5 := HS4.out.low hP b5 p5
      clear b5 HBB
      obtain ⟨zs, hO, hzl, rd⟩ := S5.read
      have hsz := S5.1.size
      have CE := HIH.out (k + 1) w5 _ zs p5 hO (by rw [hzl, List.length_append]; omega) (by omega) (by omega)
      clear hO p5 S5 hzl
      go_wp2_with fail
      refine CE.mono ?_
      clear CE
      intro e w6 hT
      obtain ⟨bb, no, yes⟩ := rd _ _ _ hT
      obtain ⟨r, hr⟩ : ∃ r, r = exP true ts f (k + 1) := ⟨_, rfl⟩
      have H3 : Hid (exP true ts f (k + 1) = r) := hr.symm
      have HBB : Hid (But (P :: v.ownBlock.toList) w w6) := bb
      rw [← hr] at no yes
      clear hr hT rd bb
      cases r with
      | none =>
        have hT := no rfl
        subst hT
        have HR : Hid (exP true ts (f + 1) i = none) := by
          show _ = _
          rw [HR0.out]
          unfold ifP
          rw [H1.out]
          show (if isT ts j sThen = true then _ else none) = none
          rw [h2, H2.out]
          show (if isT ts k sElse = true then _ else none) = none
          rw [h3, H3.out]; rfl
        clear no yes h2 h3
        go_wp2
        exact ⟨rfl, by rw [HR.out]; exact ⟨HBB.out, rfl⟩⟩
      | some r =>
        obtain ⟨g, m⟩ := r
        obtain ⟨v6, rfl, S6⟩ := yes g m rfl
        obtain ⟨f7, f8, f9⟩ := ex_far f _ _ _ H3.out
        have HR : Hid (exP true ts (f + 1) i = some (c ++ d ++ g ++ [exO 8], m)) := by
          show _ = _
          rw [HR0.out]
          unfold ifP
          rw [H1.out]
          show (if isT ts j sThen = true then _ else none) = _
          rw [h2, H2.out]
          show (if isT ts k sElse = true then _ else none) = _
          rw [h3, H3.out]; rfl
        have hs6 := S6.1.size
        obtain ⟨va, n, vc, C, hv, hnn, OW, hwz, push⟩ := S6.own hP htb
        subst hv
        have hnb : n ≤ 5000 := by rw [hnn]; simp only [List.length_append]; omega
        clear hnn no yes S6 h2 h3
        go_wp2_with (first | (at_builtin; refine wpList_append_lies _ rfl _ _ 56 rfl B 123 i0 _ 6 96 Tryz.underlying56 hi0 hz0 hz1 hz2 rfl (by omega) (.slice va n vc) n C rfl (OW.alloc _) ⟨w6.heap.size, 0, none⟩ 1 1 [.int .i64 8, .int .i64 0, .string ⟨#[]⟩, .string ⟨#[]⟩, .slice none 0 0, .slice none 0 0] rfl rfl (World.news_of_block (cs := #[.int .i64 8, .int .i64 0, .string ⟨#[]⟩, .string ⟨#[]⟩, .slice none 0 0, .slice none 0 0]) (t := 123) (fr := (0, 0)) (heap_alloc_new w6 _)) (by simp [Value.oneCell']) (by omega) (by unfold maxLen; omega) (by omega) (by simp; omega) (w6.heap.size + 1) (by simp) ?_; intro gg cap3 w5' hown3 hg3 hat3 hlt3))
        have HST : Hid (ESt B P tb o ts eT eV w v xs (c ++ d ++ g ++ [exO 8]) m (.slice (some ⟨gg, 0, none⟩) (n + 1) cap3) w5') := push (exO 8) w5' gg cap3 _ rfl rfl hown3 hg3 hat3
        clear hown3 hg3 hat3 push OW
        go_wp2
        go_ret
        rw [HR.out]
        exact HST.out.ret

set_option maxRecDepth 100000 in
set_option maxHeartbeats 4000000 in
theorem expr_less {B P tb o : Nat} {ts : List TK} {eT : TypeId} {eV : Value} {f : Nat} (HN : NumC ts) (IH : ExC B P tb o ts eT eV f) (hP : P < B) (htb : tb < B) {i : Nat} {w : World} {v : Value} {xs : List (EI × EPl)} (hps : PsAt w P tb o i ts eT eV) (hot : OE B w v xs) (hxi : xs.length ≤ i) (hB : B ≤ w.heap.size) (hf : ts.length - i < f + 1) (h0 : isT ts i sFun = false) (h1 : isT ts i sIf = false) :
    Calls Tryz.prog 70 #[.pointer (some ⟨P, 0, none⟩), v] w (ExR B P tb o ts eT eV w v xs (exP true ts (f + 1) i)) := by
  have HR0 : Hid (exP true ts (f + 1) i = lessP true ts (exP true ts f) i) := by show _ = _; rw [exP, h0, if_neg (by decide), h1, if_neg (by decide)]
  have HIH : Hid (ExC B P tb o ts eT eV f) := IH
  have HNU : Hid (NumC ts) := HN
  have HPS : Hid (PsAt w P tb o i ts eT eV) := hps
  have CA := p_sum HN IH hP htb hps hot hxi hB hf
  have hn := hps.tk.len
  clear IH HN hps hot
  obtain ⟨i0, hi0, hz0, hz1, hz2⟩ := info_parts Tryz.infoEI
  go_enter Tryz.func70, Tryz.ntmps70
  go_wp2_with fail
  refine (p_comes_no ⟨#[102, 117, 110]⟩ w HPS.out h0).mono ?_
  rintro e w1 ⟨rfl, rfl⟩
  go_wp2_with fail
  refine (p_comes_no ⟨#[105, 102]⟩ w HPS.out h1).mono ?_
  rintro e w1 ⟨rfl, rfl⟩
  clear h0 h1
  go_wp2_with fail
  refine CA.mono ?_
  clear CA
  intro e w1 hT
  obtain ⟨r, hr⟩ : ∃ r, r = sumP true ts (exP true ts f) i := ⟨_, rfl⟩
  have H1 : Hid (sumP true ts (exP true ts f) i = r) := hr.symm
  rw [← hr] at hT
  clear hr
  cases r with
  | none =>
    obtain ⟨b1, hT⟩ := hT
    have hT : e = .panicked [{ v := .iface eT eV, recovered := false }] := hT
    subst hT
    have HB1 : Hid (But (P :: v.ownBlock.toList) w w1) := b1
    have HR : Hid (exP true ts (f + 1) i = none) := by show _ = _; rw [HR0.out]; unfold lessP; rw [H1.out]
    clear b1
    go_wp2
    exact ⟨rfl, by rw [HR.out]; exact ⟨HB1.out, rfl⟩⟩
  | some r =>
    obtain ⟨l, j⟩ := r
    obtain ⟨v1, rfl, S1⟩ := ExR.some hT
    obtain ⟨f1, f2, f3⟩ := sum_far (ex_far f) _ _ _ H1.out
    have HS1 : Hid (ESt B P tb o ts eT eV w v xs l j v1 w1) := S1
    clear hT S1
    go_wp2_with fail
    cases h2 : isT ts j sLess
    case false =>
      have HR : Hid (exP true ts (f + 1) i = some (l, j)) := by
        show _ = _
        rw [HR0.out]
        unfold lessP
        rw [H1.out]
        show (if isT ts j sLess = true then _ else some (l, j)) = _
        rw [h2]; rfl
      refine (p_comes_no ⟨#[60]⟩ w1 HS1.out.ps h2).mono ?_
      rintro e w9 ⟨rfl, rfl⟩
      clear h2
      go_wp2
      go_ret
      rw [HR.out]
      exact HS1.out.ret
    have j1 := isT_lt h2
    refine (p_comes ⟨#[60]⟩ w1 HS1.out.ps h2).mono ?_
    rintro e w3 ⟨rfl, p3, b3⟩
    have S3 := HS1.out.low hP b3 p3
    clear b3
    obtain ⟨zs, hO, hzl, rd⟩ := S3.read
    have hsz := S3.1.size
    have CE := p_sum HNU.out HIH.out hP htb p3 hO (by omega) (by omega) (by omega)
    clear hO p3 S3 hzl
    go_wp2_with fail
    refine CE.mono ?_
    clear CE
    intro e w4 hT
    obtain ⟨bb, no, yes⟩ := rd _ _ _ hT
    obtain ⟨r, hr⟩ : ∃ r, r = sumP true ts (exP true ts f) (j + 1) := ⟨_, rfl⟩
    have H2 : Hid (sumP true ts (exP true ts f) (j + 1) = r) := hr.symm
    have HBB : Hid (But (P :: v.ownBlock.toList) w w4) := bb
    rw [← hr] at no yes
    clear hr hT rd bb
    cases r with
    | none =>
      have hT := no rfl
      subst hT
      have HR : Hid (exP true ts (f + 1) i = none) := by
        show _ = _
        rw [HR0.out]
        unfold lessP
        rw [H1.out]
        show (if isT ts j sLess = true then _ else some (l, j)) = _
        rw [h2, H2.out]; rfl
      clear no yes h2
      go_wp2
      exact ⟨rfl, by rw [HR.out]; exact ⟨HBB.out, rfl⟩⟩
    | some r =>
      obtain ⟨d, k⟩ := r
      obtain ⟨v4, rfl, S6⟩ := yes d k rfl
      obtain ⟨f4, f5, f6⟩ := sum_far (ex_far f) _ _ _ H2.out
      have HR : Hid (exP true ts (f + 1) i = some (l ++ d ++ [exO 10], k)) := by
        show _ = _
        rw [HR0.out]
        unfold lessP
        rw [H1.out]
        show (if isT ts j sLess = true then _ else some (l, j)) = _
        rw [h2, H2.out]; rfl
      have hs6 := S6.1.size
      obtain ⟨va, n, vc, C, hv, hnn, OW, hwz, push⟩ := S6.own hP htb
      subst hv
      have hnb : n ≤ 5000 := by rw [hnn]; simp only [List.length_append]; omega
      clear hnn no yes S6 h2
      go_wp2_with (first | (at_builtin; refine wpList_append_lies _ rfl _ _ 56 rfl B 123 i0 _ 6 96 Tryz.underlying56 hi0 hz0 hz1 hz2 rfl (by omega) (.slice va n vc) n C rfl (OW.alloc _) ⟨w4.heap.size, 0, none⟩ 1 1 [.int .i64 10, .int .i64 0, .string ⟨#[]⟩, .string ⟨#[]⟩, .slice none 0 0, .slice none 0 0] rfl rfl (World.news_of_block (cs := #[.int .i64 10, .int .i64 0, .string ⟨#[]⟩, .string ⟨#[]⟩, .slice none 0 0, .slice none 0 0]) (t := 123) (fr := (0, 0)) (heap_alloc_new w4 _)) (by simp [Value.oneCell']) (by omega) (by unfold maxLen; omega) (by omega) (by simp; omega) (w4.heap.size + 1) (by simp) ?_; intro gg cap3 w5' hown3 hg3 hat3 hlt3))
      have HST : Hid (ESt B P tb o ts eT eV w v xs (l ++ d ++ [exO 10]) k (.slice (some ⟨gg, 0, none⟩) (n + 1) cap3) w5') := push (exO 10) w5' gg cap3 _ rfl rfl hown3 hg3 hat3
      clear hown3 hg3 hat3 push OW
      go_wp2
      go_ret
      rw [HR.out]
      exact HST.out.ret

/-- Expressions, of every fuel. -/
theorem ex_all {B P tb o : Nat} {ts : List TK} {eT : TypeId} {eV : Value} (HN : NumC ts) (hP : P < B) (htb : tb < B) : ∀ f, ExC B P tb o ts eT eV f
  | 0 => fun _ _ _ _ _ _ _ hf => absurd hf (Nat.not_lt_zero _)
  | f + 1 => fun i w v xs hps hot hxi hf hB => by
    cases h0 : isT ts i sFun with
    | true => exact expr_fun (ex_all HN hP htb f) hP htb hps hot hxi hB hf h0
    | false =>
      cases h1 : isT ts i sIf with
      | true => exact expr_if (ex_all HN hP htb f) hP htb hps hot hxi hB hf h1
      | false => exact expr_less HN (ex_all HN hP htb f) hP htb hps hot hxi hB hf h0 h1

end Go.Proofs.YtdjkgilohhjfoaaGreatDoor

namespace Go.Proofs.YtdjkgilohhjfoaaGreatDoor
open Go.RowKit

/-- The declaration that the tokens begin with, and the place behind it. -/
def decR (st : Bool) (ts : List TK) : Option (DC × Nat) :=
  if isT ts 0 sImport then (if isC ts 1 1 then some (⟨1, tx ts 1, [], []⟩, 2) else none)
  else if isT ts 0 sType then
    if isC ts 1 1 && isT ts 2 sEq then
      match tyP st ts (ts.length + 1) 3 with
      | none => none
      | some (t, j) => some (⟨2, tx ts 1, t, []⟩, j)
    else none
  else if isT ts 0 sVal then
    if isC ts 1 1 && isT ts 2 sColon then
      match tyP st ts (ts.length + 1) 3 with
      | none => none
      | some (t, j) =>
        if isT ts j sEq then
          match exP st ts (ts.length + 1) (j + 1) with
          | none => none
          | some (x, k) => some (⟨3, tx ts 1, t, x⟩, k)
        else none
    else none
  else none

theorem decR_decl (st : Bool) (ts : List TK) : declP st ts = match decR st ts with
    | none => dBad
    | some (d, j) => if j = ts.length then d else dBad := by
  unfold declP decR
  cases h0 : isT ts 0 sImport with
  | true =>
    cases h1 : isC ts 1 1 with
    | true =>
      show (if ts.length = 2 then _ else dBad) = if 2 = ts.length then _ else dBad
      by_cases e : ts.length = 2
      · rw [if_pos e, if_pos e.symm]
      · rw [if_neg e, if_neg (fun z => e z.symm)]
    | false => rfl
  | false =>
    cases h2 : isT ts 0 sType with
    | true =>
      cases h1 : isC ts 1 1 with
      | true =>
        cases h3 : isT ts 2 sEq with
        | true =>
          show (match tyP st ts (ts.length + 1) 3 with | none => dBad | some (t, j) => if j = ts.length then _ else dBad) = _
          cases tyP st ts (ts.length + 1) 3 with
          | none => rfl
          | some r => rfl
        | false => rfl
      | false => rfl
    | false =>
      cases h4 : isT ts 0 sVal with
      | true =>
        cases h1 : isC ts 1 1 with
        | true =>
          cases h3 : isT ts 2 sColon with
          | true =>
            show (match tyP st ts (ts.length + 1) 3 with | none => dBad | some (t, j) => if isT ts j sEq = true then _ else dBad) = _
            cases tyP st ts (ts.length + 1) 3 with
            | none => rfl
            | some r =>
              obtain ⟨t, j⟩ := r
              show (if isT ts j sEq = true then (match exP st ts (ts.length + 1) (j + 1) with | none => dBad | some (x, k) => if k = ts.length then _ else dBad) else dBad) = _
              cases h5 : isT ts j sEq with
              | true =>
                cases h6 : exP st ts (ts.length + 1) (j + 1) with
                | none => simp [h5, h6]
                | some r => simp [h5, h6]
              | false => simp [h5]
          | false => rfl
        | false => rfl
      | false =>
        cases h1 : isC ts 1 1 <;> rfl

/-- Where the lists of a declaration lie. -/
structure DPl where
  tv : Value
  zs : List (TI × NPl)
  ev : Value
  es : List (EI × EPl)
def dp0 : DPl := ⟨.slice none 0 0, [], .slice none 0 0, []⟩
def dV (d : DC) (p : DPl) : Value := .agg #[.int .i64 d.kind, .string d.nm, p.tv, p.ev]
def dB (p : DPl) : List Nat := (p.tv.ownBlock.toList ++ tisB p.zs) ++ (p.ev.ownBlock.toList ++ eisB p.es)

theorem OE.nil (B : Nat) (w : World) : OE B w (.slice none 0 0) [] := ⟨World.ownsRow_nil _ _ _ _, (fun x hx => by cases hx), List.nodup_nil⟩

/-- A declaration in memory of one's own. -/
structure DcOK (B : Nat) (w : World) (d : DC) (p : DPl) : Prop where
  ty : OT B w p.tv p.zs
  isT : p.zs.map Prod.fst = d.ty
  ex : OE B w p.ev p.es
  isE : p.es.map Prod.fst = d.ex
  nd : (dB p).Nodup

theorem dc_bare (B : Nat) (w : World) (k : Int) (nm : ByteArray) : DcOK B w ⟨k, nm, [], []⟩ dp0 := ⟨OT.nil _ _, rfl, OE.nil _ _, rfl, List.nodup_nil⟩
theorem dB_bare : dB dp0 = [] := rfl

/-- What comes of decl. -/
def DcR (B P tb o : Nat) (ts : List TK) (eT : TypeId) (eV : Value) (w : World) (r : Option (DC × Nat)) (e : Ending) (w' : World) : Prop :=
  But [P] w w' ∧ match r with
  | none => e = .panicked [{ v := .iface eT eV, recovered := false }]
  | some (d, j) => ∃ p, e = .returned (dV d p) ∧ DcOK B w' d p ∧ PsAt w' P tb o j ts eT eV ∧ ∀ b, b ∈ dB p → w.heap.size ≤ b

end Go.Proofs.YtdjkgilohhjfoaaGreatDoor

namespace Go.Proofs.YtdjkgilohhjfoaaGreatDoor
open Go.RowKit

def v4 (a b c d : Value) : Nat → Value := fun i => if i = 0 then a else if i = 1 then b else if i = 2 then c else d
theorem row4 (w : World) (a b c d : Value) (t : TypeId) : (w.alloc (.cells #[a, b, c, d] t)).rowIs w.heap.size t 4 (v4 a b c d) :=
  World.rowIs_alloc w #[a, b, c, d] t _ (fun i hi => by
    match i, hi with
    | 0, _ => rfl
    | 1, _ => rfl
    | 2, _ => rfl
    | 3, _ => rfl)

/-- The four cells of the answer are written, and the answer is read of them. -/
theorem dc_ret {W : World} {X : Nat} {f : Nat → Value} (R : W.rowIs X 58 4 f) (a b c d : Value) (tmps : Array Value) (h2 : tmps[2]?.getD undef = .pointer (some ⟨X, 0, none⟩)) :
    (results Tryz.f58 tmps).run Tryz.prog ((((W.setCell ⟨X, 0, none⟩ a).setCell ⟨X, 1, none⟩ b).setCell ⟨X, 2, none⟩ c).setCell ⟨X, 3, none⟩ d) = .ok (.agg #[a, b, c, d]) ((((W.setCell ⟨X, 0, none⟩ a).setCell ⟨X, 1, none⟩ b).setCell ⟨X, 2, none⟩ c).setCell ⟨X, 3, none⟩ d) := by
  have r := (((R.set 0 a).set 1 b).set 2 c).set 3 d
  obtain ⟨V, hV⟩ : ∃ V, V = (((W.setCell ⟨X, 0, none⟩ a).setCell ⟨X, 1, none⟩ b).setCell ⟨X, 2, none⟩ c).setCell ⟨X, 3, none⟩ d := ⟨_, rfl⟩
  rw [← hV] at r ⊢
  clear hV R
  have c0 : V.cell? ⟨X, 0, none⟩ = some a := r.cell (i := 0) (by omega)
  have c1 : V.cell? ⟨X, 1, none⟩ = some b := r.cell (i := 1) (by omega)
  have c2 : V.cell? ⟨X, 2, none⟩ = some c := r.cell (i := 2) (by omega)
  have c3 : V.cell? ⟨X, 3, none⟩ = some d := r.cell (i := 3) (by omega)
  unfold results
  rw [show Tryz.f58.results = #[.cell 2 58] from rfl]
  simp [go_sem, h2, c0, c1, c2, c3]

theorem tk_text (a c s : Value) (w : World) : Sem.run Tryz.prog (Instr.field 89 (.agg #[a, s, c]) 1) w = .ok (s) w := by
  kernel_rfl

set_option maxRecDepth 100000 in
set_option maxHeartbeats 2000000 in
theorem decl_import {B P tb o : Nat} {ts : List TK} {eT : TypeId} {eV : Value} (hP : P < B) (htb : tb < B) {w : World} (hps : PsAt w P tb o 0 ts eT eV) (hB : B ≤ w.heap.size) (hs : isT ts 0 sImport = true) :
    Calls Tryz.prog 58 #[.pointer (some ⟨P, 0, none⟩)] w (DcR B P tb o ts eT eV w (decR true ts)) := by
  have hi := isT_lt hs
  have q0 : ((tkA ts 0).txt.toList == [105, 109, 112, 111, 114, 116]) = true := text_yes hs
  have HP : Hid (PsAt w P tb o 0 ts eT eV) := hps
  have h0 := hps.pos
  clear hps
  obtain ⟨W1, hW1⟩ : ∃ W1, W1 = w.alloc (.cells #[.int .i64 0, .string ⟨#[]⟩, .slice none 0 0, .slice none 0 0] 58) := ⟨_, rfl⟩
  have HB1 : Hid (But [] w W1) := by show But [] w W1; rw [hW1]; exact (But.refl _ _).alloc _
  have RR : W1.rowIs w.heap.size 58 4 (v4 (.int .i64 0) (.string ⟨#[]⟩) (.slice none 0 0) (.slice none 0 0)) := by rw [hW1]; exact row4 _ _ _ _ _ _
  go_enter Tryz.func58, Tryz.ntmps58
  go_wp2_with fail
  rw [← hW1]
  clear hW1
  refine (p_next W1 (HP.out.but HB1.out (by simp) (by simp) (by simp)) hi).mono ?_
  rintro e w2 ⟨rfl, p2, b2⟩
  unfold tkV
  obtain ⟨k0, hk0⟩ : ∃ k, k = (tkA ts 0).cls := ⟨_, rfl⟩
  obtain ⟨k1, hk1⟩ : ∃ k, k = (tkA ts 0).txt := ⟨_, rfl⟩
  obtain ⟨k2, hk2⟩ : ∃ k, k = ((tkA ts 0).loc : Int) := ⟨_, rfl⟩
  rw [← hk1] at q0
  rw [← hk0, ← hk1, ← hk2]
  clear hk0 hk1 hk2
  have HP2 : Hid (PsAt w2 P tb o 1 ts eT eV) := p2
  have HB2 : Hid (But [P] w w2) := (HB1.out.more (S' := [P]) (fun _ z => by simp at z)).then_ b2
  have R2 := RR.of_block (b2.block _ RR.lt (by simp; omega))
  clear p2 b2 RR
  go_wp2_with fail
  rw [tk_text]
  go_wp2_with fail
  cases hc : isC ts 1 1
  case false =>
    have HR : Hid (decR true ts = none) := by show _ = _; unfold decR; rw [if_pos hs, hc]; rfl
    refine (p_name_no w2 HP2.out hc).mono ?_
    rintro e w3 ⟨rfl, b3⟩
    have HB3 : Hid (But [P] w w3) := HB2.out.then_ b3
    clear hs hc b3
    go_wp2
    exact ⟨rfl, by rw [HR.out]; exact ⟨HB3.out, rfl⟩⟩
  have HR : Hid (decR true ts = some (⟨1, tx ts 1, [], []⟩, 2)) := by show _ = _; unfold decR; rw [if_pos hs, hc]; rfl
  refine (p_name w2 HP2.out hc).mono ?_
  rintro e w3 ⟨rfl, p3, b3⟩
  have HP3 : Hid (PsAt w3 P tb o 2 ts eT eV) := p3
  have HB3 : Hid (But [P] w w3) := HB2.out.then_ b3
  have R3 := R2.of_block (b3.block _ R2.lt (by simp; omega))
  have c0 := R3.cell (i := 0) (by omega)
  have c1 := R3.cell (i := 1) (by omega)
  have c2 := R3.cell (i := 2) (by omega)
  have c3 := R3.cell (i := 3) (by omega)
  have z0 := R3.frozen 0
  have z1 := R3.frozen 1
  have z2 := R3.frozen 2
  have z3 := R3.frozen 3
  clear hs hc p3 b3 R2
  go_wp2
  refine bodyPost_ret (dc_ret R3 _ _ _ _ _ rfl) rfl ?_
  rw [HR.out]
  have QB : ∀ {W : World} (n : Nat) (v : Value), But [P] w W → But [P] w (W.setCell ⟨w.heap.size, n, none⟩ v) := fun n v h => h.set (fun z => absurd z (Nat.lt_irrefl _)) n v
  have QP : ∀ {W : World} (n : Nat) (v : Value), PsAt W P tb o 2 ts eT eV → PsAt (W.setCell ⟨w.heap.size, n, none⟩ v) P tb o 2 ts eT eV := fun n v h => h.but ((But.refl [w.heap.size] _).set (fun _ => by simp) n v) (by simp; omega) (by simp; omega) (by simp; omega)
  exact ⟨QB _ _ (QB _ _ (QB _ _ (QB _ _ HB3.out))), dp0, rfl, dc_bare _ _ _ _, QP _ _ (QP _ _ (QP _ _ (QP _ _ HP3.out))), fun b hb => by rw [dB_bare] at hb; cases hb⟩

end Go.Proofs.YtdjkgilohhjfoaaGreatDoor

namespace Go.Proofs.YtdjkgilohhjfoaaGreatDoor
open Go.RowKit

set_option maxRecDepth 100000 in
set_option maxHeartbeats 2000000 in
theorem decl_none {B P tb o : Nat} {ts : List TK} {eT : TypeId} {eV : Value} {w : World} (hps : PsAt w P tb o 0 ts eT eV) (hs : isT ts 0 sImport = false) (hs1 : isT ts 0 sType = false) (hs2 : isT ts 0 sVal = false) :
    Calls Tryz.prog 58 #[.pointer (some ⟨P, 0, none⟩)] w (DcR B P tb o ts eT eV w (decR true ts)) := by
  have HR : Hid (decR true ts = none) := by show _ = _; unfold decR; rw [hs, hs1, hs2]; rfl
  have HP : Hid (PsAt w P tb o 0 ts eT eV) := hps
  have h0 := hps.pos
  clear hps
  obtain ⟨W1, hW1⟩ : ∃ W1, W1 = w.alloc (.cells #[.int .i64 0, .string ⟨#[]⟩, .slice none 0 0, .slice none 0 0] 58) := ⟨_, rfl⟩
  have HB1 : Hid (But [] w W1) := by show But [] w W1; rw [hW1]; exact (But.refl _ _).alloc _
  go_enter Tryz.func58, Tryz.ntmps58
  go_wp2_with fail
  rw [← hW1]
  clear hW1
  by_cases hi : 0 < ts.length
  case neg =>
    refine (p_next_no W1 (HP.out.but HB1.out (by simp) (by simp) (by simp)) hi).mono ?_
    rintro e w1 ⟨rfl, b1⟩
    have HBB : Hid (But [P] w w1) := (HB1.out.more (S' := [P]) (fun _ z => by simp at z)).then_ b1
    clear b1
    go_wp2
    exact ⟨rfl, by rw [HR.out]; exact ⟨HBB.out, rfl⟩⟩
  have q0 : ((tkA ts 0).txt.toList == [105, 109, 112, 111, 114, 116]) = false := text_no hi hs
  have q1 : ((tkA ts 0).txt.toList == [116, 121, 112, 101]) = false := text_no hi hs1
  have q2 : ((tkA ts 0).txt.toList == [118, 97, 108]) = false := text_no hi hs2
  clear hs hs1 hs2
  refine (p_next W1 (HP.out.but HB1.out (by simp) (by simp) (by simp)) hi).mono ?_
  rintro e w2 ⟨rfl, p2, b2⟩
  unfold tkV
  obtain ⟨k0, hk0⟩ : ∃ k, k = (tkA ts 0).cls := ⟨_, rfl⟩
  obtain ⟨k1, hk1⟩ : ∃ k, k = (tkA ts 0).txt := ⟨_, rfl⟩
  obtain ⟨k2, hk2⟩ : ∃ k, k = ((tkA ts 0).loc : Int) := ⟨_, rfl⟩
  rw [← hk1] at q0 q1 q2
  rw [← hk0, ← hk1, ← hk2]
  clear hk0 hk1 hk2
  have ce := p2.ev
  have HB2 : Hid (But [P] w w2) := (HB1.out.more (S' := [P]) (fun _ z => by simp at z)).then_ b2
  clear p2 b2
  go_wp2_with fail
  rw [tk_text]
  go_wp2
  exact ⟨rfl, by rw [HR.out]; exact ⟨HB2.out, rfl⟩⟩

end Go.Proofs.YtdjkgilohhjfoaaGreatDoor

