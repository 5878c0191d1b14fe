/-
  The fields of a record of expressions: the walk.
-/
import Derived.Test.YtdjkgilohhjfoaaGreatDoorM07
namespace Go.Proofs.YtdjkgilohhjfoaaGreatDoor
open Go.RowKit

/-- A name is new: the reader goes on behind it. -/
theorem EFL.named {B P tb o : Nat} {ts : List TK} {eT : TypeId} {eV : Value} {Q X : Nat} {w : World} {v : Value} {xs : List (EI × EPl)} {T : Nat → Option (List EI × Nat)} {i : Nat} {wr w1 w2 : World} {j g : Nat} {ns : List ByteArray} {v1 : Value} {ys : List (EI × EPl)} {ov : Value} (h : EFL B P tb o ts eT eV Q X w v xs T i wr j g ns v1 ys ov) (hP : P < B) (htb : tb < B) (hB : B ≤ w.heap.size) (hXw : X < w.heap.size) (hQw : Q < w.heap.size) (hXB : B ≤ X) (hQB : B ≤ Q)
    (b1 : But [P] wr w1) (p1 : PsAt w1 P tb o (j + 1) ts eT eV) (b2 : But ((w.heap.size + 1) :: w.heap.size :: ov.ownBlock.toList) w1 w2) :
    PsAt w2 P tb o (j + 1) ts eT eV ∧ w2.rowIs Q 98 1 (fun _ => .pointer (some ⟨P, 0, none⟩)) ∧ w2.rowIs X 56 1 (fun _ => v1) ∧ OE B w2 v1 (xs ++ ys) ∧ But (P :: X :: v.ownBlock.toList) w w2 := by
  obtain ⟨i1, i2, i3⟩ := h.kn.ids
  have kK : ∀ k, k < w.heap.size → k ∉ (w.heap.size + 1) :: w.heap.size :: ov.ownBlock.toList := fun k hk z => by
    simp only [List.mem_cons, Option.mem_toList] at z
    rcases z with z | z | z
    · omega
    · omega
    · have := (i3 k z).1; omega
  have p0 := p1.pos
  have o1 : OE B w1 v1 (xs ++ ys) := h.ot.low b1 (fun b z => by rw [List.mem_singleton.1 z]; exact Or.inl hP)
  have k1 : KnT w1 (w.heap.size + 1) w.heap.size ov (ns.map fun s => s.data.toList) := h.kn.but b1 (by simp; omega) (by simp; omega) (fun b e => by have := (i3 b e).1; simp; omega)
  obtain ⟨a1, a2⟩ := e_apart o1 k1 h.sep
  refine ⟨p1.but b2 (kK P (by omega)) (kK tb (by omega)) (kK 0 (by omega)), (h.rq.of_block (b1.block Q h.rq.lt (by simp; omega))).of_block (b2.block Q (Nat.lt_of_lt_of_le h.rq.lt b1.size) (kK Q hQw)), (h.rx.of_block (b1.block X h.rx.lt (by simp; omega))).of_block (b2.block X (Nat.lt_of_lt_of_le h.rx.lt b1.size) (kK X hXw)), o1.but b2 a1 a2, ?_⟩
  exact (h.but.trans b1 (fun k z _ => by rw [List.mem_singleton.1 z]; simp)).trans b2 (fun k z hk => absurd z (kK k hk))

/-- Behind a part. -/
theorem EFL.parted {B P X : Nat} {w : World} {v : Value} {xs : List (EI × EPl)} {w3 w4 : World} {v1 v2 : Value} {ys zs : List (EI × EPl)} {ov : Value} {ord : List (List UInt8)} (hP : P < B) (hB : B ≤ w.heap.size) (hXw : X < w.heap.size)
    (o3 : OE B w3 v1 (xs ++ ys)) (k3 : KnT w3 (w.heap.size + 1) w.heap.size ov ord) (s3 : ∀ b, ov.ownBlock = some b → b ∉ eisB (xs ++ ys)) (g3 : ∀ b, v1.ownBlock = some b → v.ownBlock = some b ∨ w.heap.size ≤ b) (n3 : ∀ b, b ∈ eisB ys → w.heap.size ≤ b) (b3 : But (P :: X :: v.ownBlock.toList) w w3)
    (b4 : But (P :: X :: v1.ownBlock.toList) w3 w4) (g4 : ∀ b, v2.ownBlock = some b → v1.ownBlock = some b ∨ w3.heap.size ≤ b) (n4 : ∀ b, b ∈ eisB zs → w3.heap.size ≤ b) :
    KnT w4 (w.heap.size + 1) w.heap.size ov ord ∧ (∀ b, ov.ownBlock = some b → b ∉ eisB (xs ++ (ys ++ zs))) ∧ (∀ b, v2.ownBlock = some b → v.ownBlock = some b ∨ w.heap.size ≤ b) ∧ (∀ b, b ∈ eisB (ys ++ zs) → w.heap.size ≤ b) ∧ But (P :: X :: v.ownBlock.toList) w w4 := by
  obtain ⟨i1, i2, i3⟩ := k3.ids
  obtain ⟨a1, _⟩ := e_apart o3 k3 s3
  have s := b3.size
  have kn : ∀ k, k ∈ (w.heap.size + 1) :: w.heap.size :: ov.ownBlock.toList → k ∉ P :: X :: v1.ownBlock.toList := fun k hk z => by
    have hk9 : w.heap.size ≤ k := by
      simp only [List.mem_cons, Option.mem_toList] at hk
      rcases hk with q | q | q
      · omega
      · omega
      · have := (i3 k q).1; omega
    simp only [List.mem_cons, Option.mem_toList] at z
    rcases z with z | z | z
    · omega
    · omega
    · exact a1 k z hk
  refine ⟨k3.but b4 (kn _ (by simp)) (kn _ (by simp)) (fun b e => kn b (by simp [e])), fun b e z => ?_, fun b e => ?_, fun b z => ?_, b3.trans b4 (fun k z hk => ?_)⟩
  · rw [← List.append_assoc, eisB_append] at z
    rcases List.mem_append.1 z with q | q
    · exact s3 b e q
    · have := n4 b q
      have := (i3 b e).2
      omega
  · rcases g4 b e with q | q
    · exact g3 b q
    · exact Or.inr (by omega)
  · rw [eisB_append] at z
    rcases List.mem_append.1 z with q | q
    · exact n3 b q
    · have := n4 b q
      omega
  · simp only [List.mem_cons, Option.mem_toList] at z ⊢
    rcases z with z | z | z
    · exact Or.inl z
    · exact Or.inr (Or.inl z)
    · rcases g3 k z with q | q
      · exact Or.inr (Or.inr q)
      · omega

set_option maxRecDepth 100000 in
set_option maxHeartbeats 4000000 in
theorem e_fields {B P tb o : Nat} {ts : List TK} {eT : TypeId} {eV : Value} {f : Nat} (IH : ExC B P tb o ts eT eV f) (hP : P < B) (htb : tb < B) {i Q X : Nat} {w : World} {v : Value} {xs : List (EI × EPl)} (hps : PsAt w P tb o i ts eT eV) (hQ : w.rowIs Q 98 1 (fun _ => .pointer (some ⟨P, 0, none⟩))) (hX : w.rowIs X 56 1 (fun _ => v)) (hot : OE B w v xs) (hxi : xs.length ≤ i) (hf : ts.length - i < f) (hB : B ≤ w.heap.size) (hXB : B ≤ X) (hQB : B ≤ Q) :
    Calls Tryz.prog 86 #[.pointer (some ⟨P, 0, none⟩), .string ⟨#[61]⟩, .func (.func 99) #[] #[.pointer (some ⟨Q, 0, none⟩), .pointer (some ⟨X, 0, none⟩)]] w (EFdR B P tb o ts eT eV X w v xs (fldsP ts (exP true ts f) sEq i)) := by
  have HIH : Hid (ExC B P tb o ts eT eV f) := IH
  have hXw := hX.lt
  have hQw := hQ.lt
  have hn := hps.tk.len
  have h0 := hps.pos
  have HPS : Hid (PsAt w P tb o i ts eT eV) := hps
  have HOT : Hid (OE B w v xs) := hot
  have HQ : Hid (w.rowIs Q 98 1 (fun _ => .pointer (some ⟨P, 0, none⟩))) := hQ
  have HX : Hid (w.rowIs X 56 1 (fun _ => v)) := hX
  clear IH hps hot hQ hX
  go_enter Tryz.func86, Tryz.ntmps86
  go_wp2_with fail
  refine (kt_new w).mono ?_
  rintro e w1 ⟨rfl, hk1, b1⟩
  have HK1 : Hid (KnT w1 (w.heap.size + 1) w.heap.size (.slice none 0 0) []) := hk1
  have HP1 : Hid (PsAt w1 P tb o i ts eT eV) := HPS.out.but b1 (by simp) (by simp) (by simp)
  have HB1 : Hid (But [] w w1) := b1
  clear hk1 b1
  go_wp2_with fail
  cases hs : isT ts i sShut
  case true =>
    refine (p_comes ⟨#[125]⟩ w1 HP1.out hs).mono ?_
    rintro e w2 ⟨rfl, p2, b2⟩
    have HR : Hid (fldsP ts (exP true ts f) sEq i = some ([], [], i + 1)) := by show _ = _; unfold fldsP; rw [if_pos hs]
    have K2 : KnT w2 (w.heap.size + 1) w.heap.size (.slice none 0 0) (([] : List ByteArray).map fun s => s.data.toList) := HK1.out.but b2 (by simp; omega) (by simp; omega) (fun b e => by cases e)
    obtain ⟨p, e1, c1, _, _⟩ := kn_names K2
    have HB2 : Hid (But [P] w w2) := (HB1.out.more (S' := [P]) (fun _ z => by simp at z)).then_ b2
    have HFIN : Hid (EFdR B P tb o ts eT eV X w v xs (some ([], [], i + 1)) (.returned (.slice none 0 0)) w2) := by
      refine ⟨HB2.out.more (fun k z => by rw [List.mem_singleton.1 z]; simp), v, [], ⟨none, 0, 0⟩, rfl, HX.out.of_block (HB2.out.block X hXw (by simp; omega)), ?_, rfl, p2, fun b e => Or.inl e, (fun b z => by cases z), NmOK.nil _ _ _, fun h => absurd rfl h⟩
      rw [List.append_nil]
      exact HOT.out.low HB2.out (fun b z => by rw [List.mem_singleton.1 z]; exact Or.inl hP)
    clear hs p2 b2 K2 e1
    go_wp2
    go_ret
    rw [HR.out]
    exact HFIN.out
  refine (p_comes_no ⟨#[125]⟩ w1 HP1.out hs).mono ?_
  rintro e w2 ⟨rfl, rfl⟩
  have HL : Hid (EFL B P tb o ts eT eV Q X w v xs (exP true ts f) i w1 i (ts.length + 1) [] v [] (.slice none 0 0)) := by
    refine ⟨by unfold fldsP; rw [hs]; rfl, by omega, HP1.out, HQ.out.of_block (HB1.out.block Q hQw (by simp)), HX.out.of_block (HB1.out.block X hXw (by simp)), ?_, fun b e => Or.inl e, (fun b z => by cases z), HB1.out.more (fun k z => by simp at z), HK1.out, (fun b e => by cases e), by simpa using hxi, Nat.zero_le _, Nat.le_refl _⟩
    rw [List.append_nil]
    exact HOT.out.low HB1.out (fun b z => by simp at z)
  clear hs HK1 HP1 HB1
  go_wp2
  go_loopw [8] (fun _ wr => ∃ (j g : Nat) (ns : List ByteArray) (v1 : Value) (ys : List (EI × EPl)) (ov : Value), Hid (EFL B P tb o ts eT eV Q X w v xs (exP true ts f) i wr j g ns v1 ys ov)) (fun _ wr => lenAt wr P 0)
  case atStart => exact ⟨i, ts.length + 1, [], v, [], .slice none 0 0, HL⟩
  case round =>
    obtain ⟨j, g, ns, v1, ys, ov, H⟩ := hrel
    clear HL
    have hjn := H.out.ps.le
    have hg : 0 < g := by have := H.out.fuel; omega
    have HEQ : Hid (fldsP ts (exP true ts f) sEq i = _) := H.out.eq.trans (floop_go hg)
    have HME : Hid (lenAt wr P 0 = ts.length - j) := ps_len H.out.ps
    go_wp2_with fail
    cases hc : isC ts j 1
    case false =>
      have HR : Hid (fldsP ts (exP true ts f) sEq i = none) := by show _ = _; rw [HEQ.out, hc]; rfl
      refine (p_name_no wr H.out.ps hc).mono ?_
      rintro e w1 ⟨rfl, b1⟩
      have HBB : Hid (But (P :: X :: v.ownBlock.toList) w w1) := H.out.but.trans b1 (fun k z _ => by rw [List.mem_singleton.1 z]; simp)
      clear hc b1
      go_wp2
      exact ⟨rfl, by rw [HR.out]; exact ⟨HBB.out, rfl⟩⟩
    refine (p_name wr H.out.ps hc).mono ?_
    rintro e w1 ⟨rfl, p1, b1⟩
    have hjl := isC_lt hc
    go_wp2_with fail
    have hsz : (tx ts j).data.toList.length ≤ maxLen := by
      have := H.out.ps.tk.sz j hjl
      rw [tx_at hjl]
      unfold maxLen
      show (tkA ts j).txt.data.size ≤ _
      have e : (tkA ts j).txt.data.size = (tkA ts j).txt.size := rfl
      omega
    have K1 : KnT w1 (w.heap.size + 1) w.heap.size ov (ns.map fun s => s.data.toList) := H.out.kn.but b1 (by simp; omega) (by simp; omega) (fun b e => by have := (H.out.kn.ids.2.2 b e).1; simp; omega)
    have hnl := H.out.nl
    have CN := kt_number (w.heap.size + 1) w.heap.size ov (ns.map fun s => s.data.toList) (tx ts j).data.toList w1 K1 hsz (by rw [List.length_map]; omega)
    rw [bytes_eta, has_contains] at CN
    refine CN.mono ?_
    clear CN
    rintro e w2 ⟨xx, ov', rfl, K2, b2, go2⟩
    obtain ⟨P2, Q2, X2, O2, B2⟩ := H.out.named hP htb hB hXw hQw hXB hQB b1 p1 b2
    have HB2 : Hid (But (P :: X :: v.ownBlock.toList) w w2) := B2
    have hev := P2.ev
    have hs2 : w1.heap.size ≤ w2.heap.size := b2.size
    have hs1 : wr.heap.size ≤ w1.heap.size := b1.size
    cases hh : hasN ns (tx ts j)
    case true =>
      have HR : Hid (fldsP ts (exP true ts f) sEq i = none) := by show _ = _; rw [HEQ.out, hc, hh]; rfl
      clear hc hh p1 b1 K1 b2 go2 P2 Q2 X2 O2 B2 K2
      go_wp2
      exact ⟨rfl, by rw [HR.out]; exact ⟨HB2.out, rfl⟩⟩
    have HOV : Hid (KnT w2 (w.heap.size + 1) w.heap.size ov' ((ns ++ [tx ts j]).map fun s => s.data.toList)) := by
      have e : addS (ns.map fun s => s.data.toList) (tx ts j).data.toList = (ns ++ [tx ts j]).map fun s => s.data.toList := by
        unfold addS
        rw [has_contains, hh]
        simp
      rw [e] at K2
      exact K2
    have HSP : Hid (∀ b, ov'.ownBlock = some b → b ∉ eisB (xs ++ ys)) := fun b e => by
      rcases go2 b e with q | q
      · exact H.out.sep b q
      · intro z
        have := (H.out.ot.names z).2
        omega
    have HQ2 : Hid (w2.rowIs Q 98 1 (fun _ => .pointer (some ⟨P, 0, none⟩))) := Q2
    have HX2 : Hid (w2.rowIs X 56 1 (fun _ => v1)) := X2
    have HO2 : Hid (OE B w2 v1 (xs ++ ys)) := O2
    have HP2 : Hid (PsAt w2 P tb o (j + 1) ts eT eV) := P2
    clear p1 b1 K1 b2 go2 P2 Q2 X2 O2 B2 K2 hev
    go_wp2_with fail
    cases hsg : isT ts (j + 1) sEq
    case false =>
      have HR : Hid (fldsP ts (exP true ts f) sEq i = none) := by show _ = _; rw [HEQ.out, hc, hh, hsg]; rfl
      refine (p_need_no ⟨#[61]⟩ w2 HP2.out hsg).mono ?_
      rintro e w3 ⟨rfl, rfl⟩
      clear hc hh hsg
      go_wp2
      exact ⟨rfl, by rw [HR.out]; exact ⟨HB2.out, rfl⟩⟩
    refine (p_need ⟨#[61]⟩ w2 HP2.out hsg).mono ?_
    rintro e w3 ⟨rfl, p3, b3⟩
    have HP3 : Hid (PsAt w3 P tb o (j + 2) ts eT eV) := p3
    have HQ3 : Hid (w3.rowIs Q 98 1 (fun _ => .pointer (some ⟨P, 0, none⟩))) := HQ2.out.of_block (b3.block Q HQ2.out.lt (by simp; omega))
    have HX3 : Hid (w3.rowIs X 56 1 (fun _ => v1)) := HX2.out.of_block (b3.block X HX2.out.lt (by simp; omega))
    have HO3 : Hid (OE B w3 v1 (xs ++ ys)) := HO2.out.low b3 (fun b z => by rw [List.mem_singleton.1 z]; exact Or.inl hP)
    have HB3 : Hid (But (P :: X :: v.ownBlock.toList) w w3) := HB2.out.trans b3 (fun k z _ => by rw [List.mem_singleton.1 z]; simp)
    have HK3 : Hid (KnT w3 (w.heap.size + 1) w.heap.size ov' ((ns ++ [tx ts j]).map fun s => s.data.toList)) := HOV.out.but b3 (by simp; omega) (by simp; omega) (fun b e => by have := (HOV.out.ids.2.2 b e).1; simp; omega)
    have hs3 : w2.heap.size ≤ w3.heap.size := b3.size
    have hsw : w.heap.size ≤ w3.heap.size := HB3.out.size
    have hlen := H.out.len
    have hfar := H.out.far
    clear p3 b3 HQ2 HX2 HO2 HB2 HOV HP2
    go_wp2_with fail
    refine (e_part HIH.out HP3.out HQ3.out HX3.out HO3.out (by omega) (by omega) (by omega) (by omega) (by omega) (by omega)).mono ?_
    intro e w4 hT
    obtain ⟨b4, hT⟩ := hT
    obtain ⟨r, hr⟩ : ∃ r, r = exP true ts f (j + 2) := ⟨_, rfl⟩
    have HRT : Hid (exP true ts f (j + 2) = r) := hr.symm
    rw [← hr] at hT
    clear hr
    cases r with
    | none =>
      have hT : e = .panicked [{ v := .iface eT eV, recovered := false }] := hT
      subst hT
      have HR : Hid (fldsP ts (exP true ts f) sEq i = none) := by show _ = _; rw [HEQ.out, hc, hh, hsg, HRT.out]; rfl
      have HB4 : Hid (But (P :: X :: v.ownBlock.toList) w w4) := (EFL.parted hP hB hXw HO3.out HK3.out HSP.out H.out.gr H.out.nw HB3.out b4 (v2 := .slice none 0 0) (zs := []) (fun b e => by cases e) (fun b z => by cases z)).2.2.2.2
      clear hc hh hsg b4
      go_wp2
      exact ⟨rfl, by rw [HR.out]; exact ⟨HB4.out, rfl⟩⟩
    | some r =>
      obtain ⟨l, k⟩ := r
      obtain ⟨v2, zs, rfl, X4, O4, hl, P4, g4, n4⟩ := hT
      obtain ⟨K4, S4, G4, N4, B4⟩ := EFL.parted hP hB hXw HO3.out HK3.out HSP.out H.out.gr H.out.nw HB3.out b4 g4 n4
      obtain ⟨f1, f2, f3⟩ := ex_far f _ _ _ HRT.out
      have hzl : zs.length = l.length := by rw [← hl, List.length_map]
      have hlen4 : (xs ++ (ys ++ zs)).length ≤ k := by
        simp only [List.length_append] at hlen ⊢
        omega
      have HY : Hid ((ys ++ zs).map Prod.fst = ys.map Prod.fst ++ l) := by show _ = _; rw [List.map_append, hl]
      have HQ4 : Hid (w4.rowIs Q 98 1 (fun _ => .pointer (some ⟨P, 0, none⟩))) := HQ3.out.of_block (b4.block Q HQ3.out.lt (fun z => by
        simp only [List.mem_cons, Option.mem_toList] at z
        rcases z with z | z | z
        · omega
        · have r1 := HQ3.out
          have r2 := HX3.out
          obtain ⟨c1, q1, _⟩ := r1
          obtain ⟨c2, q2, _⟩ := r2
          rw [z, q2] at q1
          simp only [Option.some.injEq, Obj.cells.injEq] at q1
          exact absurd q1.2.1 (by decide)
        · exact own_box HO3.out.own HQ3.out (by decide) z))
      rw [List.append_assoc] at O4
      have HX4 : Hid (w4.rowIs X 56 1 (fun _ => v2)) := X4
      have HO4 : Hid (OE B w4 v2 (xs ++ (ys ++ zs))) := O4
      have HP4 : Hid (PsAt w4 P tb o k ts eT eV) := P4
      have HK4 : Hid (KnT w4 (w.heap.size + 1) w.heap.size ov' ((ns ++ [tx ts j]).map fun s => s.data.toList)) := K4
      have HS4 : Hid (∀ b, ov'.ownBlock = some b → b ∉ eisB (xs ++ (ys ++ zs))) := S4
      have HG4 : Hid (∀ b, v2.ownBlock = some b → v.ownBlock = some b ∨ w.heap.size ≤ b) := G4
      have HN4 : Hid (∀ b, b ∈ eisB (ys ++ zs) → w.heap.size ≤ b) := N4
      have HB4 : Hid (But (P :: X :: v.ownBlock.toList) w w4) := B4
      clear X4 O4 hl P4 g4 n4 K4 S4 G4 N4 B4 b4 HQ3 HX3 HO3 HK3 HB3 HP3 HSP
      go_wp2_with fail
      cases hsh : isT ts k sShut
      case true =>
        refine (p_comes ⟨#[125]⟩ w4 HP4.out hsh).mono ?_
        rintro e w5 ⟨rfl, p5, b5⟩
        have HR : Hid (fldsP ts (exP true ts f) sEq i = some (ys.map Prod.fst ++ l, ns ++ [tx ts j], k + 1)) := by
          show _ = _
          rw [HEQ.out, hc, hh, hsg, HRT.out]
          show (if isT ts k sShut = true then _ else _) = _
          rw [hsh]
          rfl
        have K5 := HK4.out.but b5 (by simp; omega) (by simp; omega) (fun b e => by have := (HK4.out.ids.2.2 b e).1; simp; omega)
        obtain ⟨p, ep, cp, np, bp⟩ := kn_names K5
        have HB5 : Hid (But (P :: X :: v.ownBlock.toList) w w5) := HB4.out.trans b5 (fun k z _ => by rw [List.mem_singleton.1 z]; simp)
        have HFIN : Hid (EFdR B P tb o ts eT eV X w v xs (some (ys.map Prod.fst ++ l, ns ++ [tx ts j], k + 1)) (.returned ov') w5) := by
          refine ⟨HB5.out, v2, ys ++ zs, p, by rw [ep], HX4.out.of_block (b5.block X HX4.out.lt (by simp; omega)), HO4.out.low b5 (fun b z => by rw [List.mem_singleton.1 z]; exact Or.inl hP), HY.out, p5, HG4.out, HN4.out, np.base (by omega), fun hne z => ?_⟩
          exact HS4.out _ (bp hne) z
        rw [ep] at cp
        have hep : ov' = .slice p.a (ns ++ [tx ts j]).length p.c := ep
        obtain ⟨m9, hm9⟩ : ∃ m9, m9 = (ns ++ [tx ts j]).length := ⟨_, rfl⟩
        have HOVE : Hid (ov' = .slice p.a m9 p.c) := by show _ = _; rw [hep, hm9]
        rw [← hm9] at cp
        clear hc hh hsg hsh p5 b5 K5 ep np bp hep hm9
        go_wp2
        go_ret
        rw [HR.out]
        have z := HFIN.out
        rw [HOVE.out] at z
        exact z
      refine (p_comes_no ⟨#[125]⟩ w4 HP4.out hsh).mono ?_
      rintro e w5 ⟨rfl, rfl⟩
      go_wp2_with fail
      cases hcm : isT ts k sComma
      case false =>
        have HR : Hid (fldsP ts (exP true ts f) sEq i = none) := by
          show _ = _
          rw [HEQ.out, hc, hh, hsg, HRT.out]
          show (if isT ts k sShut = true then _ else if isT ts k sComma = true then _ else _) = _
          rw [hsh, hcm]
          rfl
        refine (p_need_no ⟨#[44]⟩ w4 HP4.out hcm).mono ?_
        rintro e w6 ⟨rfl, rfl⟩
        clear hc hh hsg hsh hcm
        go_wp2
        exact ⟨rfl, by rw [HR.out]; exact ⟨HB4.out, rfl⟩⟩
      refine (p_need ⟨#[44]⟩ w4 HP4.out hcm).mono ?_
      rintro e w6 ⟨rfl, p6, b6⟩
      have HL : Hid (EFL B P tb o ts eT eV Q X w v xs (exP true ts f) i w6 (k + 1) (g - 1) (ns ++ [tx ts j]) v2 (ys ++ zs) ov') := by
        refine ⟨?_, by have := H.out.fuel; omega, p6, HQ4.out.of_block (b6.block Q HQ4.out.lt (by simp; omega)), HX4.out.of_block (b6.block X HX4.out.lt (by simp; omega)), HO4.out.low b6 (fun b z => by rw [List.mem_singleton.1 z]; exact Or.inl hP), HG4.out, HN4.out, HB4.out.trans b6 (fun k z _ => by rw [List.mem_singleton.1 z]; simp), HK4.out.but b6 (by simp; omega) (by simp; omega) (fun b e => by have := (HK4.out.ids.2.2 b e).1; simp; omega), HS4.out, by omega, by simp; omega, by omega⟩
        rw [HEQ.out, hc, hh, hsg, HRT.out, HY.out]
        show (if isT ts k sShut = true then _ else if isT ts k sComma = true then _ else _) = _
        rw [hsh, hcm]
        rfl
      have HM6 : Hid (lenAt w6 P 0 = ts.length - (k + 1)) := ps_len p6
      clear hc hh hsg hsh hcm p6 b6 HQ4 HX4 HO4 HP4 HK4 HS4 HG4 HN4 HB4
      go_wp2
      go_roundw
      case rel => exact ⟨k + 1, g - 1, ns ++ [tx ts j], v2, ys ++ zs, ov', HL⟩
      case measure => rw [HM6.out, HME.out]; omega

end Go.Proofs.YtdjkgilohhjfoaaGreatDoor
