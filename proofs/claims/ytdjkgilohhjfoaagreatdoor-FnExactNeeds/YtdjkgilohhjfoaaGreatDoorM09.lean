/-
  Merged for the claim: PdH PdI.
-/
import Derived.Test.YtdjkgilohhjfoaaGreatDoorM08
namespace Go.Proofs.YtdjkgilohhjfoaaGreatDoor
open Go.RowKit

/-- The loops: what is still to be read. -/
structure PL (B P tb o : Nat) (ts : List TK) (eT : TypeId) (eV : Value) (w : World) (v : Value) (xs : List (EI × EPl)) (R : Option (List EI × Nat)) (L : Nat → List EI → Nat → Option (List EI × Nat)) (i : Nat) (j g : Nat) (l : List EI) (v1 : Value) (wr : World) : Prop where
  eq : R = L g l j
  fuel : ts.length < g + j
  len : xs.length + l.length ≤ j
  far : i < j
  st : ESt B P tb o ts eT eV w v xs l j v1 wr

set_option maxRecDepth 100000 in
set_option maxHeartbeats 4000000 in
theorem p_post {B P tb o : Nat} {ts : List TK} {eT : TypeId} {eV : Value} {f : Nat} (HN : NumC ts) (IH : ExC B P tb o ts eT eV f) (hP : P < B) (htb : tb < B) {i : Nat} {w : World} {v : Value} {xs : List (EI × EPl)} (hps : PsAt w P tb o i ts eT eV) (hot : OE B w v xs) (hxi : xs.length ≤ i) (hB : B ≤ w.heap.size) (hf : ts.length - i < f + 1) :
    Calls Tryz.prog 88 #[.pointer (some ⟨P, 0, none⟩), v] w (ExR B P tb o ts eT eV w v xs (postP true ts (exP true ts f) i)) := by
  have HIH : Hid (ExC B P tb o ts eT eV f) := IH
  have CA := p_atom HN IH hP htb hps hot hxi hB hf
  have hn := hps.tk.len
  clear IH hps hot
  obtain ⟨i0, hi0, hz0, hz1, hz2⟩ := info_parts Tryz.infoEI
  go_enter Tryz.func88, Tryz.ntmps88
  go_wp2_with fail
  refine CA.mono ?_
  clear CA
  intro e w1 hT
  obtain ⟨r, hr⟩ : ∃ r, r = atomP true ts (exP true ts f) i := ⟨_, rfl⟩
  have HAR : Hid (atomP true ts (exP true ts f) i = r) := hr.symm
  rw [← hr] at hT
  clear hr
  cases r with
  | none =>
    obtain ⟨b1, hT⟩ := hT
    have hT : e = .panicked [{ v := .iface eT eV, recovered := false }] := hT
    subst hT
    have HB1 : Hid (But (P :: v.ownBlock.toList) w w1) := b1
    have HR : Hid (postP true ts (exP true ts f) i = none) := by show _ = _; unfold postP; rw [HAR.out]
    clear b1
    go_wp2
    exact ⟨rfl, by rw [HR.out]; exact ⟨HB1.out, rfl⟩⟩
  | some r =>
    obtain ⟨l, j⟩ := r
    obtain ⟨v1, rfl, S1⟩ := ExR.some hT
    obtain ⟨f1, f2, f3⟩ := atom_far (ex_far f) _ _ _ HAR.out
    have HL : Hid (PL B P tb o ts eT eV w v xs (postP true ts (exP true ts f) i) (fun g l j => postL ts (exP true ts f) g l j) i j (ts.length + 1) l v1 w1) := ⟨by unfold postP; rw [HAR.out], by omega, by omega, f2, S1⟩
    clear hT S1
    go_wp2
    go_loopw [1] (fun s1 wr => ∃ (v1 : Value) (j g : Nat) (l : List EI), s1 = v1 ∧ Hid (PL B P tb o ts eT eV w v xs (postP true ts (exP true ts f) i) (fun g l j => postL ts (exP true ts f) g l j) i j g l v1 wr)) (fun _ wr => lenAt wr P 0)
    case atStart => exact ⟨v1, j, ts.length + 1, l, rfl, HL⟩
    case round =>
    obtain ⟨v1, j, g, l, rfl, H⟩ := hrel
    clear HL HAR
    have hjn := H.out.st.ps.le
    have hg : 0 < g := by have := H.out.fuel; omega
    have HME : Hid (lenAt wr P 0 = ts.length - j) := ps_len H.out.st.ps
    have hlen := H.out.len
    have hfar := H.out.far
    have hws : w.heap.size ≤ wr.heap.size := H.out.st.1.size
    have HEQ : Hid (postP true ts (exP true ts f) i = _) := H.out.eq.trans (postL_go hg)
    go_wp2_with fail
    cases hd : isT ts j sDot
    case true =>
      refine (p_comes ⟨#[46]⟩ wr H.out.st.ps hd).mono ?_
      rintro e w2 ⟨rfl, p2, b2⟩
      have S2 := H.out.st.low hP b2 p2
      go_wp2_with fail
      cases hc : isC ts (j + 1) 1
      case false =>
        have HR : Hid (postP true ts (exP true ts f) i = none) := by show _ = _; rw [HEQ.out, hd, hc]; rfl
        refine (p_name_no w2 p2 hc).mono ?_
        rintro e w3 ⟨rfl, b3⟩
        have HBB : Hid (But (P :: v.ownBlock.toList) w w3) := S2.low_but b3
        clear hd hc p2 b2 S2 b3
        go_wp2
        exact ⟨rfl, by rw [HR.out]; exact ⟨HBB.out, rfl⟩⟩
      refine (p_name w2 p2 hc).mono ?_
      rintro e w3 ⟨rfl, p3, b3⟩
      have S3 := S2.low hP b3 p3
      have hs3 := S3.1.size
      obtain ⟨va, n, vc, C, hv, hnn, OW, hwz, push⟩ := S3.own hP htb
      subst hv
      have hnb : n ≤ 3000 := by rw [hnn]; (try simp only [List.length_append]); omega
      clear hnn
      have hjl := p3.le
      clear p2 b2 S2 b3 p3 S3
      go_wp2_with (first | (at_builtin; refine wpList_append_lies _ rfl _ _ 56 rfl B 123 i0 _ 6 96 Tryz.underlying56 hi0 hz0 hz1 hz2 rfl (by omega) (.slice va n vc) n C rfl (OW.alloc _) ⟨w3.heap.size, 0, none⟩ 1 1 [.int .i64 5, .int .i64 0, .string ⟨#[]⟩, .string (tx ts (j + 1)), .slice none 0 0, .slice none 0 0] rfl rfl (World.news_of_block (cs := #[.int .i64 5, .int .i64 0, .string ⟨#[]⟩, .string (tx ts (j + 1)), .slice none 0 0, .slice none 0 0]) (t := 123) (fr := (0, 0)) (heap_alloc_new w3 _)) (by simp [Value.oneCell']) (by omega) (by unfold maxLen; omega) (by omega) (by simp; omega) (w3.heap.size + 1) (by simp) ?_; intro gg cap3 w5 hown3 hg3 hat3 hlt3))
      have HST : Hid (ESt B P tb o ts eT eV w v xs (l ++ [⟨5, 0, e0, tx ts (j + 1), [], []⟩]) (j + 2) (.slice (some ⟨gg, 0, none⟩) (n + 1) cap3) w5) := push ⟨5, 0, e0, tx ts (j + 1), [], []⟩ w5 gg cap3 _ rfl rfl hown3 hg3 hat3
      have HL : Hid (PL B P tb o ts eT eV w v xs (postP true ts (exP true ts f) i) (fun g l j => postL ts (exP true ts f) g l j) i (j + 2) (g - 1) (l ++ [⟨5, 0, e0, tx ts (j + 1), [], []⟩]) (.slice (some ⟨gg, 0, none⟩) (n + 1) cap3) w5) := by
        refine ⟨?_, by have := H.out.fuel; omega, by simp; omega, by omega, HST.out⟩
        rw [HEQ.out, hd, hc]; rfl
      have HM5 : Hid (lenAt w5 P 0 = ts.length - (j + 2)) := ps_len HST.out.ps
      clear hd hc hown3 hg3 hat3 push OW
      go_wp2
      go_roundw
      case rel => exact ⟨_, j + 2, g - 1, _, rfl, HL⟩
      case measure => rw [HM5.out, HME.out]; omega
    refine (p_comes_no ⟨#[46]⟩ wr H.out.st.ps hd).mono ?_
    rintro e w2 ⟨rfl, rfl⟩
    go_wp2_with fail
    cases hl : isT ts j sLeft
    case false =>
      have HR : Hid (postP true ts (exP true ts f) i = some (l, j)) := by show _ = _; rw [HEQ.out, hd, hl]; rfl
      refine (p_comes_no ⟨#[40]⟩ wr H.out.st.ps hl).mono ?_
      rintro e w2 ⟨rfl, rfl⟩
      clear hd hl
      go_wp2
      go_ret
      rw [HR.out]
      exact H.out.st.ret
    refine (p_comes ⟨#[40]⟩ wr H.out.st.ps hl).mono ?_
    rintro e w2 ⟨rfl, p2, b2⟩
    have hjl := isT_lt hl
    have S2 := H.out.st.low hP b2 p2
    obtain ⟨zs, hO, hzl, rd⟩ := S2.read
    have hs2 := S2.1.size
    have CE := HIH.out (j + 1) w2 _ zs p2 hO (by omega) (by omega) (by omega)
    clear p2 b2 S2 hO
    go_wp2_with fail
    refine CE.mono ?_
    clear CE
    intro e w3 hT
    obtain ⟨b3, no3, yes3⟩ := rd _ _ _ hT
    obtain ⟨r, hr⟩ : ∃ r, r = exP true ts f (j + 1) := ⟨_, rfl⟩
    have HER : Hid (exP true ts f (j + 1) = r) := hr.symm
    have HB3 : Hid (But (P :: v.ownBlock.toList) w w3) := b3
    rw [← hr] at no3 yes3
    clear hr hT rd b3
    cases r with
    | none =>
      have hT := no3 rfl
      subst hT
      have HR : Hid (postP true ts (exP true ts f) i = none) := by
        show _ = _
        rw [HEQ.out, hd, hl]
        have e1 : brkP ts (exP true ts f) (j + 1) = none := by unfold brkP; rw [HER.out]
        rw [e1]; rfl
      clear hd hl no3 yes3
      go_wp2
      exact ⟨rfl, by rw [HR.out]; exact ⟨HB3.out, rfl⟩⟩
    | some r =>
      obtain ⟨l2, k⟩ := r
      obtain ⟨v2, rfl, S3⟩ := yes3 l2 k rfl
      obtain ⟨g1, g2, g3⟩ := ex_far f _ _ _ HER.out
      have HS3 : Hid (ESt B P tb o ts eT eV w v xs (l ++ l2) k v2 w3) := S3
      clear no3 yes3 S3
      go_wp2_with fail
      cases hr : isT ts k sRight
      case false =>
        have HR : Hid (postP true ts (exP true ts f) i = none) := by
          show _ = _
          rw [HEQ.out, hd, hl]
          have e1 : brkP ts (exP true ts f) (j + 1) = none := by
            unfold brkP
            rw [HER.out]
            show (if isT ts k sRight = true then _ else none) = none
            rw [hr]; rfl
          rw [e1]; rfl
        refine (p_need_no ⟨#[41]⟩ w3 HS3.out.ps hr).mono ?_
        rintro e w4 ⟨rfl, rfl⟩
        clear hd hl hr
        go_wp2
        exact ⟨rfl, by rw [HR.out]; exact ⟨HB3.out, rfl⟩⟩
      refine (p_need ⟨#[41]⟩ w3 HS3.out.ps hr).mono ?_
      rintro e w4 ⟨rfl, p4, b4⟩
      have S4 := HS3.out.low hP b4 p4
      have hkl := p4.le
      have hs4 := S4.1.size
      obtain ⟨va, n, vc, C, hv, hnn, OW, hwz, push⟩ := S4.own hP htb
      subst hv
      have hnb : n ≤ 3000 := by rw [hnn]; (try simp only [List.length_append]); omega
      clear hnn
      clear p4 b4 S4
      go_wp2_with (first | (at_builtin; refine wpList_append_lies _ rfl _ _ 56 rfl B 123 i0 _ 6 96 Tryz.underlying56 hi0 hz0 hz1 hz2 rfl (by omega) (.slice va n vc) n C rfl (OW.alloc _) ⟨w4.heap.size, 0, none⟩ 1 1 [.int .i64 7, .int .i64 0, .string ⟨#[]⟩, .string ⟨#[]⟩, .slice none 0 0, .slice none 0 0] rfl rfl (World.news_of_block (cs := #[.int .i64 7, .int .i64 0, .string ⟨#[]⟩, .string ⟨#[]⟩, .slice none 0 0, .slice none 0 0]) (t := 123) (fr := (0, 0)) (heap_alloc_new w4 _)) (by simp [Value.oneCell']) (by omega) (by unfold maxLen; omega) (by omega) (by simp; omega) (w4.heap.size + 1) (by simp) ?_; intro gg cap3 w5 hown3 hg3 hat3 hlt3))
      have HST : Hid (ESt B P tb o ts eT eV w v xs (l ++ l2 ++ [exO 7]) (k + 1) (.slice (some ⟨gg, 0, none⟩) (n + 1) cap3) w5) := push (exO 7) w5 gg cap3 _ rfl rfl hown3 hg3 hat3
      have HL : Hid (PL B P tb o ts eT eV w v xs (postP true ts (exP true ts f) i) (fun g l j => postL ts (exP true ts f) g l j) i (k + 1) (g - 1) (l ++ l2 ++ [exO 7]) (.slice (some ⟨gg, 0, none⟩) (n + 1) cap3) w5) := by
        refine ⟨?_, by have := H.out.fuel; omega, by simp; omega, by omega, HST.out⟩
        rw [HEQ.out, hd, hl]
        have e1 : brkP ts (exP true ts f) (j + 1) = some (l2, k + 1) := by
          unfold brkP
          rw [HER.out]
          show (if isT ts k sRight = true then _ else none) = _
          rw [hr]; rfl
        rw [e1]; rfl
      have HM5 : Hid (lenAt w5 P 0 = ts.length - (k + 1)) := ps_len HST.out.ps
      clear hd hl hr hown3 hg3 hat3 push OW
      go_wp2
      go_roundw
      case rel => exact ⟨_, k + 1, g - 1, _, rfl, HL⟩
      case measure => rw [HM5.out, HME.out]; omega

set_option maxRecDepth 100000 in
set_option maxHeartbeats 4000000 in
theorem p_sum {B P tb o : Nat} {ts : List TK} {eT : TypeId} {eV : Value} {f : Nat} (HN : NumC ts) (IH : ExC B P tb o ts eT eV f) (hP : P < B) (htb : tb < B) {i : Nat} {w : World} {v : Value} {xs : List (EI × EPl)} (hps : PsAt w P tb o i ts eT eV) (hot : OE B w v xs) (hxi : xs.length ≤ i) (hB : B ≤ w.heap.size) (hf : ts.length - i < f + 1) :
    Calls Tryz.prog 81 #[.pointer (some ⟨P, 0, none⟩), v] w (ExR B P tb o ts eT eV w v xs (sumP true ts (exP true ts f) i)) := by
  have HIH : Hid (ExC B P tb o ts eT eV f) := IH
  have HNU : Hid (NumC ts) := HN
  have CA := p_post HN IH hP htb hps hot hxi hB hf
  have hn := hps.tk.len
  clear IH hps hot HN
  obtain ⟨i0, hi0, hz0, hz1, hz2⟩ := info_parts Tryz.infoEI
  go_enter Tryz.func81, Tryz.ntmps81
  go_wp2_with fail
  refine CA.mono ?_
  clear CA
  intro e w1 hT
  obtain ⟨r, hr⟩ : ∃ r, r = postP true ts (exP true ts f) i := ⟨_, rfl⟩
  have HAR : Hid (postP true ts (exP true ts f) i = r) := hr.symm
  rw [← hr] at hT
  clear hr
  cases r with
  | none =>
    obtain ⟨b1, hT⟩ := hT
    have hT : e = .panicked [{ v := .iface eT eV, recovered := false }] := hT
    subst hT
    have HB1 : Hid (But (P :: v.ownBlock.toList) w w1) := b1
    have HR : Hid (sumP true ts (exP true ts f) i = none) := by show _ = _; unfold sumP; rw [HAR.out]
    clear b1
    go_wp2
    exact ⟨rfl, by rw [HR.out]; exact ⟨HB1.out, rfl⟩⟩
  | some r =>
    obtain ⟨l, j⟩ := r
    obtain ⟨v1, rfl, S1⟩ := ExR.some hT
    obtain ⟨f1, f2, f3⟩ := post_far (ex_far f) _ _ _ HAR.out
    have HL : Hid (PL B P tb o ts eT eV w v xs (sumP true ts (exP true ts f) i) (fun g l j => sumL true ts (exP true ts f) g l j) i j (ts.length + 1) l v1 w1) := ⟨by unfold sumP; rw [HAR.out], by omega, by omega, f2, S1⟩
    clear hT S1
    go_wp2
    go_loopw [1] (fun s1 wr => ∃ (v1 : Value) (j g : Nat) (l : List EI), s1 = v1 ∧ Hid (PL B P tb o ts eT eV w v xs (sumP true ts (exP true ts f) i) (fun g l j => sumL true ts (exP true ts f) g l j) i j g l v1 wr)) (fun _ wr => lenAt wr P 0)
    case atStart => exact ⟨v1, j, ts.length + 1, l, rfl, HL⟩
    case round =>
    obtain ⟨v1, j, g, l, rfl, H⟩ := hrel
    clear HL HAR
    have hjn := H.out.st.ps.le
    have hg : 0 < g := by have := H.out.fuel; omega
    have HME : Hid (lenAt wr P 0 = ts.length - j) := ps_len H.out.st.ps
    have hlen := H.out.len
    have hfar := H.out.far
    have hws : w.heap.size ≤ wr.heap.size := H.out.st.1.size
    have HEQ : Hid (sumP true ts (exP true ts f) i = _) := H.out.eq.trans (sumL_go hg)
    go_wp2_with fail
    cases hl : isT ts j sPlus
    case false =>
      have HR : Hid (sumP true ts (exP true ts f) i = some (l, j)) := by show _ = _; rw [HEQ.out, hl]; rfl
      refine (p_comes_no ⟨#[43]⟩ wr H.out.st.ps hl).mono ?_
      rintro e w2 ⟨rfl, rfl⟩
      clear hl
      go_wp2
      go_ret
      rw [HR.out]
      exact H.out.st.ret
    refine (p_comes ⟨#[43]⟩ wr H.out.st.ps hl).mono ?_
    rintro e w2 ⟨rfl, p2, b2⟩
    have hjl := isT_lt hl
    have S2 := H.out.st.low hP b2 p2
    obtain ⟨zs, hO, hzl, rd⟩ := S2.read
    have hs2 := S2.1.size
    have CE := p_post HNU.out HIH.out hP htb p2 hO (by omega) (by omega) (by omega)
    clear p2 b2 S2 hO
    go_wp2_with fail
    refine CE.mono ?_
    clear CE
    intro e w3 hT
    obtain ⟨b3, no3, yes3⟩ := rd _ _ _ hT
    obtain ⟨r, hr⟩ : ∃ r, r = postP true ts (exP true ts f) (j + 1) := ⟨_, rfl⟩
    have HER : Hid (postP true ts (exP true ts f) (j + 1) = r) := hr.symm
    have HB3 : Hid (But (P :: v.ownBlock.toList) w w3) := b3
    rw [← hr] at no3 yes3
    clear hr hT rd b3
    cases r with
    | none =>
      have hT := no3 rfl
      subst hT
      have HR : Hid (sumP true ts (exP true ts f) i = none) := by show _ = _; rw [HEQ.out, hl, HER.out]; rfl
      clear hl no3 yes3
      go_wp2
      exact ⟨rfl, by rw [HR.out]; exact ⟨HB3.out, rfl⟩⟩
    | some r =>
      obtain ⟨l2, k⟩ := r
      obtain ⟨v2, rfl, S4⟩ := yes3 l2 k rfl
      obtain ⟨g1, g2, g3⟩ := post_far (ex_far f) _ _ _ HER.out
      have hs4 := S4.1.size
      obtain ⟨va, n, vc, C, hv, hnn, OW, hwz, push⟩ := S4.own hP htb
      subst hv
      have hnb : n ≤ 3000 := by rw [hnn]; (try simp only [List.length_append]); omega
      clear hnn
      clear no3 yes3 S4
      go_wp2_with (first | (at_builtin; refine wpList_append_lies _ rfl _ _ 56 rfl B 123 i0 _ 6 96 Tryz.underlying56 hi0 hz0 hz1 hz2 rfl (by omega) (.slice va n vc) n C rfl (OW.alloc _) ⟨w3.heap.size, 0, none⟩ 1 1 [.int .i64 9, .int .i64 0, .string ⟨#[]⟩, .string ⟨#[]⟩, .slice none 0 0, .slice none 0 0] rfl rfl (World.news_of_block (cs := #[.int .i64 9, .int .i64 0, .string ⟨#[]⟩, .string ⟨#[]⟩, .slice none 0 0, .slice none 0 0]) (t := 123) (fr := (0, 0)) (heap_alloc_new w3 _)) (by simp [Value.oneCell']) (by omega) (by unfold maxLen; omega) (by omega) (by simp; omega) (w3.heap.size + 1) (by simp) ?_; intro gg cap3 w5 hown3 hg3 hat3 hlt3))
      have HST : Hid (ESt B P tb o ts eT eV w v xs (l ++ l2 ++ [exO 9]) k (.slice (some ⟨gg, 0, none⟩) (n + 1) cap3) w5) := push (exO 9) w5 gg cap3 _ rfl rfl hown3 hg3 hat3
      have HL : Hid (PL B P tb o ts eT eV w v xs (sumP true ts (exP true ts f) i) (fun g l j => sumL true ts (exP true ts f) g l j) i k (g - 1) (l ++ l2 ++ [exO 9]) (.slice (some ⟨gg, 0, none⟩) (n + 1) cap3) w5) := by
        refine ⟨?_, by have := H.out.fuel; omega, by simp; omega, by omega, HST.out⟩
        rw [HEQ.out, hl, HER.out]; rfl
      have HM5 : Hid (lenAt w5 P 0 = ts.length - k) := ps_len HST.out.ps
      clear hl hown3 hg3 hat3 push OW
      go_wp2
      go_roundw
      case rel => exact ⟨_, k, g - 1, _, rfl, HL⟩
      case measure => rw [HM5.out, HME.out]; omega

end Go.Proofs.YtdjkgilohhjfoaaGreatDoor

namespace Go.Proofs.YtdjkgilohhjfoaaGreatDoor
open Go.RowKit

set_option maxRecDepth 100000 in
set_option maxHeartbeats 4000000 in
theorem p_fun {B P tb o : Nat} {ts : List TK} {eT : TypeId} {eV : Value} {f : Nat} (IH : ExC B P tb o ts eT eV f) (hP : P < B) (htb : tb < B) {i : Nat} {w : World} {v : Value} {xs : List (EI × EPl)} (hps : PsAt w P tb o i ts eT eV) (hot : OE B w v xs) (hxi : xs.length ≤ i) (hB : B ≤ w.heap.size) (hf : ts.length - i < f) :
    Calls Tryz.prog 80 #[.pointer (some ⟨P, 0, none⟩), v] w (ExR B P tb o ts eT eV w v xs (funP true ts (exP true ts f) i)) := by
  have HIH : Hid (ExC B P tb o ts eT eV f) := IH
  have HO : Hid (OE B w v xs) := hot
  have HP0 : Hid (PsAt w P tb o i ts eT eV) := hps
  have hn := hps.tk.len
  have h00 := hps.pos
  clear IH hps hot
  obtain ⟨i0, hi0, hz0, hz1, hz2⟩ := info_parts Tryz.infoEI
  have HB0 : Hid (But (P :: v.ownBlock.toList) w w) := But.refl _ _
  go_enter Tryz.func80, Tryz.ntmps80
  go_wp2_with fail
  cases h1 : isT ts i sLeft
  case false =>
    have HR : Hid (funP true ts (exP true ts f) i = none) := by show _ = _; unfold funP; rw [h1]; rfl
    refine (p_need_no ⟨#[40]⟩ w HP0.out h1).mono ?_
    rintro e w9 ⟨rfl, rfl⟩
    clear h1
    go_wp2
    exact ⟨rfl, by rw [HR.out]; exact ⟨HB0.out, rfl⟩⟩
  refine (p_need ⟨#[40]⟩ w HP0.out h1).mono ?_
  rintro e w1 ⟨rfl, p1, b1⟩
  have HP1 : Hid (PsAt w1 P tb o (i + 1) ts eT eV) := p1
  have HB1 : Hid (But [P] w w1) := b1
  clear p1 b1
  go_wp2_with fail
  cases h2 : isC ts (i + 1) 1
  case false =>
    have HR : Hid (funP true ts (exP true ts f) i = none) := by show _ = _; unfold funP; rw [h1, h2]; rfl
    refine (p_name_no w1 HP1.out h2).mono ?_
    rintro e w2 ⟨rfl, b2⟩
    have HBB : Hid (But (P :: v.ownBlock.toList) w w2) := (HB1.out.then_ b2).more (fun k z => by rw [List.mem_singleton.1 z]; simp)
    clear h1 h2 b2
    go_wp2
    exact ⟨rfl, by rw [HR.out]; exact ⟨HBB.out, rfl⟩⟩
  refine (p_name w1 HP1.out h2).mono ?_
  rintro e w2 ⟨rfl, p2, b2⟩
  have HP2 : Hid (PsAt w2 P tb o (i + 2) ts eT eV) := p2
  have HB2 : Hid (But [P] w w2) := HB1.out.then_ b2
  have HC2 : Hid (But (P :: v.ownBlock.toList) w w2) := HB2.out.more (fun k z => by rw [List.mem_singleton.1 z]; simp)
  clear p2 b2
  go_wp2_with fail
  cases h3 : isT ts (i + 2) sColon
  case false =>
    have HR : Hid (funP true ts (exP true ts f) i = none) := by show _ = _; unfold funP; rw [h1, h2, h3]; rfl
    refine (p_need_no ⟨#[58]⟩ w2 HP2.out h3).mono ?_
    rintro e w9 ⟨rfl, rfl⟩
    clear h1 h2 h3
    go_wp2
    exact ⟨rfl, by rw [HR.out]; exact ⟨HC2.out, rfl⟩⟩
  refine (p_need ⟨#[58]⟩ w2 HP2.out h3).mono ?_
  rintro e w3 ⟨rfl, p3, b3⟩
  have HP3 : Hid (PsAt w3 P tb o (i + 3) ts eT eV) := p3
  have HB3 : Hid (But [P] w w3) := HB2.out.then_ b3
  have hs3 := HB3.out.size
  have i3 := isT_lt h3
  have CT := ty_all (o := o) (ts := ts) (eT := eT) (eV := eV) hP htb (ts.length + 1) (i + 3) w3 (.slice none 0 0) [] p3 (OT.nil _ _) (Nat.zero_le _) (by omega) (by omega)
  clear p3 b3
  go_wp2_with fail
  refine CT.mono ?_
  clear CT
  intro e w4 hT
  obtain ⟨b4, hT⟩ := hT
  obtain ⟨r, hr⟩ : ∃ r, r = tyP true ts (ts.length + 1) (i + 3) := ⟨_, rfl⟩
  have HTR : Hid (tyP true ts (ts.length + 1) (i + 3) = r) := hr.symm
  rw [← hr] at hT
  clear hr
  have b4' : But [P] w3 w4 := b4
  have HB4 : Hid (But [P] w w4) := HB3.out.then_ b4'
  have HC4 : Hid (But (P :: v.ownBlock.toList) w w4) := HB4.out.more (fun k z => by rw [List.mem_singleton.1 z]; simp)
  cases r with
  | none =>
    have hT : e = .panicked [{ v := .iface eT eV, recovered := false }] := hT
    subst hT
    have HR : Hid (funP true ts (exP true ts f) i = none) := by show _ = _; unfold funP; rw [h1, h2, h3, HTR.out]; rfl
    clear h1 h2 h3 b4 b4'
    go_wp2
    exact ⟨rfl, by rw [HR.out]; exact ⟨HC4.out, rfl⟩⟩
  | some r =>
    obtain ⟨t, j⟩ := r
    obtain ⟨v4, ys, rfl, O4, hl4, P4, gr4, nw4⟩ := hT
    rw [List.nil_append] at O4
    obtain ⟨f1, f2, f3⟩ := ty_far _ _ _ _ HTR.out
    obtain ⟨ta, tc, hv4⟩ := own_form O4.own
    obtain ⟨m, hm⟩ : ∃ m, m = ys.length := ⟨_, rfl⟩
    rw [← hm] at hv4
    subst hv4
    clear hm
    have HO4 : Hid (OT B w4 (.slice ta m tc) ys) := O4
    have HP4 : Hid (PsAt w4 P tb o j ts eT eV) := P4
    have HY4 : Hid (ys.map Prod.fst = t) := hl4
    have HG4 : Hid (∀ b, (Value.slice ta m tc).ownBlock = some b → w3.heap.size ≤ b) := fun b e => by
      rcases gr4 b e with q | q
      · cases q
      · exact q
    have HN4 : Hid (∀ b, b ∈ tisB ys → w3.heap.size ≤ b) := nw4
    clear O4 P4 hl4 gr4 nw4 b4 b4'
    go_wp2_with fail
    cases h4 : isT ts j sRight
    case false =>
      have HR : Hid (funP true ts (exP true ts f) i = none) := by show _ = _; unfold funP; rw [h1, h2, h3, HTR.out]; show (if isT ts j sRight = true then _ else none) = none; rw [h4]; rfl
      refine (p_need_no ⟨#[41]⟩ w4 HP4.out h4).mono ?_
      rintro e w9 ⟨rfl, rfl⟩
      clear h1 h2 h3 h4
      go_wp2
      exact ⟨rfl, by rw [HR.out]; exact ⟨HC4.out, rfl⟩⟩
    refine (p_need ⟨#[41]⟩ w4 HP4.out h4).mono ?_
    rintro e w5 ⟨rfl, p5, b5⟩
    have HB5 : Hid (But [P] w w5) := HB4.out.then_ b5
    have hs5 := HB5.out.size
    have hs45 : w4.heap.size ≤ w5.heap.size := b5.size
    have HT5 : Hid (OT B w5 (.slice ta m tc) ys) := HO4.out.low b5 (fun b z => by rw [List.mem_singleton.1 z]; exact Or.inl hP)
    have O5 : OE B w5 v xs := HO.out.low HB5.out (fun b z => by rw [List.mem_singleton.1 z]; exact Or.inl hP)
    have hjl := isT_lt h4
    have CE := HIH.out (j + 1) w5 v xs p5 O5 (by omega) (by omega) (by omega)
    clear p5 b5 O5
    go_wp2_with fail
    refine CE.mono ?_
    clear CE
    intro e w6 hT
    obtain ⟨b6, hT⟩ := hT
    obtain ⟨r, hr⟩ : ∃ r, r = exP true ts f (j + 1) := ⟨_, rfl⟩
    have HER : Hid (exP true ts f (j + 1) = r) := hr.symm
    rw [← hr] at hT
    clear hr
    have HB6 : Hid (But (P :: v.ownBlock.toList) w w6) := (HB5.out.more (S' := P :: v.ownBlock.toList) (fun k z => by rw [List.mem_singleton.1 z]; simp)).then_ b6
    cases r with
    | none =>
      have hT : e = .panicked [{ v := .iface eT eV, recovered := false }] := hT
      subst hT
      have HR : Hid (funP true ts (exP true ts f) i = none) := by
        show _ = _
        unfold funP
        rw [h1, h2, h3, HTR.out]
        show (if isT ts j sRight = true then _ else none) = none
        rw [h4, HER.out]; rfl
      clear h1 h2 h3 h4 b6
      go_wp2
      exact ⟨rfl, by rw [HR.out]; exact ⟨HB6.out, rfl⟩⟩
    | some r =>
      obtain ⟨l, k⟩ := r
      obtain ⟨v6, zs, rfl, O6, hl6, P6, gr6, nw6⟩ := hT
      obtain ⟨g1, g2, g3⟩ := ex_far f _ _ _ HER.out
      have HR : Hid (funP true ts (exP true ts f) i = some (l ++ [⟨6, 0, e0, tx ts (i + 1), [], t⟩], k)) := by
        show _ = _
        unfold funP
        rw [h1, h2, h3, HTR.out]
        show (if isT ts j sRight = true then _ else none) = _
        rw [h4, HER.out]; rfl
      have hzl : zs.length = l.length := by rw [← hl6, List.length_map]
      obtain ⟨va', vc', hv6⟩ := own_form O6.own
      obtain ⟨n', hn'⟩ : ∃ n', n' = (xs ++ zs).length := ⟨_, rfl⟩
      have HN' : Hid (n' = (xs ++ zs).length) := hn'
      have hn9 : n' ≤ 3000 := by rw [hn', List.length_append]; omega
      rw [← hn'] at hv6
      subst hv6
      clear hn'
      have low5 : ∀ b, w3.heap.size ≤ b → b < w5.heap.size → b ∉ P :: v.ownBlock.toList := fun b h1 _ z => by
        simp only [List.mem_cons, Option.mem_toList] at z
        rcases z with z | z
        · omega
        · have := (HO.out.own.lt b z).2
          omega
      have HT6 : Hid (OT B w6 (.slice ta m tc) ys) := HT5.out.but b6 (fun b e => low5 b (HG4.out b e) (HT5.out.own.lt b e).2) (fun b hb => low5 b (HN4.out b hb) (HT5.out.names hb).2)
      have HO6 : Hid (OE B w6 (.slice va' n' vc') (xs ++ zs)) := O6
      have HP6 : Hid (PsAt w6 P tb o k ts eT eV) := P6
      have HY6 : Hid (zs.map Prod.fst = l) := hl6
      have HG6 : Hid (∀ b, (Value.slice va' n' vc').ownBlock = some b → v.ownBlock = some b ∨ w.heap.size ≤ b) := fun b e => by
        rcases gr6 b e with q | q
        · exact Or.inl q
        · exact Or.inr (by omega)
      have HN6 : Hid (∀ b, b ∈ eisB zs → w5.heap.size ≤ b) := nw6
      have HXB : Hid (∀ b, b ∈ eiB ((⟨6, 0, e0, tx ts (i + 1), [], t⟩ : EI), (⟨⟨none, 0, 0⟩, .slice ta m tc, ys⟩ : EPl)) → w3.heap.size ≤ b ∧ b < w5.heap.size) := fun b hb => by
        rcases mem_eiB hb with z | z | z
        · exact absurd rfl z.1
        · exact ⟨HG4.out b z, (HT5.out.own.lt b z).2⟩
        · exact ⟨HN4.out b z, (HT5.out.names z).2⟩
      have hs6 := HB6.out.size
      have HOW : Hid (w6.ownsRow B 123 6 (.slice va' n' vc') n' (eisC (xs ++ zs))) := by have z := O6.own; rw [← HN'.out] at z; exact z
      clear h1 h2 h3 h4 b6 O6 hl6 P6 gr6 nw6 low5
      go_wp2_with (first | (at_builtin; refine wpList_append_lies _ rfl _ _ 56 rfl B 123 i0 _ 6 96 Tryz.underlying56 hi0 hz0 hz1 hz2 rfl (by omega) (.slice va' n' vc') (n') (eisC (xs ++ zs)) rfl (HOW.out.alloc _) ⟨w6.heap.size, 0, none⟩ 1 1 [.int .i64 6, .int .i64 0, .string ⟨#[]⟩, .string (tx ts (i + 1)), .slice none 0 0, .slice ta m tc] rfl rfl (World.news_of_block (cs := #[.int .i64 6, .int .i64 0, .string ⟨#[]⟩, .string (tx ts (i + 1)), .slice none 0 0, .slice ta m tc]) (t := 123) (fr := (0, 0)) (heap_alloc_new w6 _)) (by simp [Value.oneCell']) (by omega) (by unfold maxLen; omega) (by omega) (by simp; omega) (w6.heap.size + 1) (by simp) ?_; intro gg cap3 w5' hown3 hg3 hat3 hlt3))
      have FIN : Hid (ExR B P tb o ts eT eV w v xs (some (l ++ [⟨6, 0, e0, tx ts (i + 1), [], t⟩], k)) (.returned (.slice (some ⟨gg, 0, none⟩) (n' + 1) cap3)) w5') := by
        have z := ex_end (ys := zs) (x := (⟨6, 0, e0, tx ts (i + 1), [], t⟩, ⟨⟨none, 0, 0⟩, .slice ta m tc, ys⟩)) hP htb (v := v) HO6.out HP6.out HB6.out HG6.out (by rw [← HN'.out]; exact hown3) hg3 hat3 ⟨NmOK.nil _ _ _, HT6.out, HY4.out⟩ (fun b hb z => by
            obtain ⟨q1, q2⟩ := HXB.out b hb
            rw [eisB_append] at z
            rcases List.mem_append.1 z with q | q
            · have := (HO.out.names q).2
              omega
            · have := HN6.out b q
              omega) (by
            unfold eiB
            show (([] : List Nat) ++ ((Value.slice ta m tc).ownBlock.toList ++ tisB ys)).Nodup
            rw [List.nil_append]
            refine List.nodup_append.2 ⟨?_, HT6.out.nd, fun a ha b hb e => ?_⟩
            · cases (Value.slice ta m tc).ownBlock <;> simp
            · subst e
              exact HT6.out.sep hb (by simpa using ha)) (fun b hb => by have := HN6.out b hb; omega) (fun b hb => by have := (HXB.out b hb).1; omega)
        rw [← HN'.out, HY6.out] at z
        exact z
      clear hown3 hg3 hat3
      go_wp2
      go_ret
      rw [HR.out]
      exact FIN.out

end Go.Proofs.YtdjkgilohhjfoaaGreatDoor

