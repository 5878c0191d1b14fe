/-
  The program's (printer).decl.
-/
import Derived.Test.YtcehppndpccldaaDoorVeM
import Derived.Test.YtcehppndpccldaaDoorM7
namespace Go.Proofs.YtcehppndpccldaaDoor
open Go.RowKit

def plT (lim : Nat) (ts : List TI) : Option ByteArray := plF (fun i => (ts[i]?).bind fT) lim ts.length
def plE (lim : Nat) (es : List EI) : Option ByteArray := plF (fun i => (es[i]?).bind (fEp lim)) lim es.length
/-- A declaration that the program prints. -/
def okL (lim : Nat) (d : DC) : Bool := gn d.nm && (
  if d.kind = 1 then decide (d.ty.length = 0) && decide (d.ex.length = 0)
  else if d.kind = 2 then (plT lim d.ty).isSome && decide (d.ex.length = 0)
  else decide (d.kind = 3) && (plT lim d.ty).isSome && (plE lim d.ex).isSome)
def prL (lim : Nat) (d : DC) : ByteArray :=
  if d.kind = 1 then xImp ++ d.nm ++ xEnd
  else if d.kind = 2 then xTyp ++ d.nm ++ xEs ++ (plT lim d.ty).getD e0 ++ xEnd
  else xVal ++ d.nm ++ xCs ++ (plT lim d.ty).getD e0 ++ xEs ++ (plE lim d.ex).getD e0 ++ xEnd
theorem pl_getD {fo : Nat → Option Fm} {lim n : Nat} : ((plF fo lim n).getD e0).size ≤ lim := by
  cases h : plF fo lim n with
  | none => show (0 : Nat) ≤ _; omega
  | some x => exact pl_sz h
theorem prL_ok {lim : Nat} {d : DC} (h : okL lim d = true) : okD d = true ∧ prL lim d = prD d := by
  unfold okL plT plE at h
  unfold okD prL prD plT plE
  rw [pl_T, pl_E] at h
  rw [pl_T, pl_E]
  by_cases h1 : d.kind = 1
  · simp only [h1, if_true] at h ⊢
    exact ⟨h, trivial⟩
  · by_cases h2 : d.kind = 2
    · simp only [h2] at h ⊢
      by_cases ht : okT d.ty = true ∧ (prT d.ty).size ≤ lim
      · simp [ht] at h ⊢
        exact h
      · simp [ht] at h
    · simp only [if_neg h1, if_neg h2] at h ⊢
      by_cases ht : okT d.ty = true ∧ (prT d.ty).size ≤ lim
      · by_cases he : okE d.ex = true ∧ (prE d.ex).size ≤ lim
        · simp [ht, he] at h ⊢
          exact h
        · simp [ht, he] at h
      · simp [ht] at h
theorem okL_of {lim : Nat} {d : DC} (h : okD d = true) (hs : (prD d).size ≤ lim) : okL lim d = true := by
  unfold okL plT plE
  unfold okD at h
  unfold prD at hs
  rw [pl_T, pl_E]
  by_cases h1 : d.kind = 1
  · simp only [h1, if_true] at h ⊢
    exact h
  · by_cases h2 : d.kind = 2
    · simp only [h2] at h hs ⊢
      simp only [show ((2 : Int) = 1) = False by simp, if_false, if_true, ByteArray.size_append] at hs h ⊢
      have ht : (prT d.ty).size ≤ lim := by omega
      simp only [Bool.and_eq_true] at h ⊢
      simp [h, ht]
      exact List.length_eq_zero_iff.1 (of_decide_eq_true h.2.2)
    · simp only [if_neg h1, if_neg h2, ByteArray.size_append] at h hs ⊢
      have ht : (prT d.ty).size ≤ lim := by omega
      have he : (prE d.ex).size ≤ lim := by omega
      simp only [Bool.and_eq_true] at h ⊢
      simp [h, ht, he]

def okL' (gnm : Bool) (kind : Int) (tn en : Nat) (tb eb : Bool) : Bool := gnm && (
  if kind = 1 then decide (tn = 0) && decide (en = 0)
  else if kind = 2 then tb && decide (en = 0)
  else decide (kind = 3) && tb && eb)

set_option maxRecDepth 100000 in
set_option maxHeartbeats 4000000 in
theorem p_decl (w : World) {d : DC} {p : DPl} (h : DcA w d p) (hnum : ∀ e, e ∈ d.ex → i64R e.num) (hten : Ten w) {ta ea : Option Addr} {tc ec : Nat} (htv : p.tv = .slice ta d.ty.length tc) (hev : p.ev = .slice ea d.ex.length ec) (hnm : d.nm.size ≤ 1048576) (lim : Nat) (hlim : lim ≤ 1000000) :
    Calls Tryd.prog 25 #[.agg #[.int .i64 (lim : Int)], .agg #[.int .i64 d.kind, .string d.nm, .slice ta d.ty.length tc, .slice ea d.ex.length ec]] w fun e w' => (∃ t : ByteArray, e = .returned (.tuple #[.string t, .bool (okL lim d)]) ∧ (okL lim d = true → t = prL lim d)) ∧ Below w.heap.size w w' := by
  have hzl : p.zs.length = d.ty.length := by rw [← h.isT, List.length_map]
  have hel : p.es.length = d.ex.length := by rw [← h.isE, List.length_map]
  obtain ⟨x, hx⟩ : ∃ x, x = (plT lim d.ty).getD e0 := ⟨_, rfl⟩
  obtain ⟨tb, htb⟩ : ∃ tb, tb = (plT lim d.ty).isSome := ⟨_, rfl⟩
  obtain ⟨y, hy⟩ : ∃ y, y = (plE lim d.ex).getD e0 := ⟨_, rfl⟩
  obtain ⟨eb, heb⟩ : ∃ eb, eb = (plE lim d.ex).isSome := ⟨_, rfl⟩
  have hcd : cD d = d.nm.size + cTs d.ty + cEs d.ex := rfl
  have hco := h.cost
  have HCT : Hid (∀ W, Below w.heap.size w W → Calls Tryd.prog 41 #[.slice ta d.ty.length tc, .int .i64 (lim : Int), .func (.func 42) #[] #[]] W fun e w' => e = .returned (.tuple #[.string x, .bool tb]) ∧ Below W.heap.size W w') := fun W hb => by
    have T := h.ty.below hb
    rw [htv, ← hzl] at T
    have C := p_listT W T h.isT (by omega) lim hlim
    rw [hzl] at C
    rw [hx, htb]
    exact C
  have HCE : Hid (∀ W, Below w.heap.size w W → Calls Tryd.prog 43 #[.slice ea d.ex.length ec, .int .i64 (lim : Int), .func (.func 44) #[.agg #[.int .i64 (lim : Int)]] #[]] W fun e w' => e = .returned (.tuple #[.string y, .bool eb]) ∧ Below W.heap.size W w') := fun W hb => by
    have T := h.ex.below hb
    rw [hev, ← hel] at T
    have C := p_listE W T h.isE (by omega) hnum (hten.below hb) lim hlim
    rw [hel] at C
    rw [hy, heb]
    exact C
  have hxs : x.size ≤ 1000000 := by rw [hx]; exact Nat.le_trans pl_getD hlim
  have hys : y.size ≤ 1000000 := by rw [hy]; exact Nat.le_trans pl_getD hlim
  have HG : Hid (∀ W, Calls Tryd.prog 40 #[.string d.nm] W fun e w' => e = .returned (.bool (gn d.nm)) ∧ w' = W) := fun W => c40 d.nm W (by omega)
  obtain ⟨R, hR⟩ : ∃ R, R = okL lim d := ⟨_, rfl⟩
  have HR : Hid (R = okL' (gn d.nm) d.kind d.ty.length d.ex.length tb eb) := by show _ = _; rw [hR, htb, heb]; rfl
  have HPR : Hid (prL lim d = if d.kind = 1 then xImp ++ d.nm ++ xEnd else if d.kind = 2 then xTyp ++ d.nm ++ xEs ++ x ++ xEnd else xVal ++ d.nm ++ xCs ++ x ++ xEs ++ y ++ xEnd) := by show _ = _; rw [hx, hy]; rfl
  rw [← hR]
  obtain ⟨P, hP⟩ : ∃ P, P = prL lim d := ⟨_, rfl⟩
  rw [← hP] at HPR ⊢
  obtain ⟨gnm, hgn⟩ : ∃ b, b = gn d.nm := ⟨_, rfl⟩
  rw [← hgn] at HG HR
  obtain ⟨kind, hkd⟩ : ∃ k, k = d.kind := ⟨_, rfl⟩
  obtain ⟨nm, hnme⟩ : ∃ k, k = d.nm := ⟨_, rfl⟩
  obtain ⟨tn, htn⟩ : ∃ k, k = d.ty.length := ⟨_, rfl⟩
  obtain ⟨en, hen⟩ : ∃ k, k = d.ex.length := ⟨_, rfl⟩
  have htnb : tn ≤ 1048576 := by rw [htn, ← hzl]; exact h.ty.len
  have henb : en ≤ 1048576 := by rw [hen, ← hel]; exact h.ex.len
  rw [← hkd, ← hnme] at HPR
  rw [← hkd, ← htn, ← hen] at HR
  rw [← hnme] at HG hnm
  rw [← htn] at HCT
  rw [← hen] at HCE
  rw [← hkd, ← hnme, ← htn, ← hen]
  clear hx htb hy heb hcd hco h hnum hten htv hev hzl hel hR hP hgn hkd hnme htn hen
  obtain ⟨WB, hWB⟩ : ∃ WB, WB = (w.alloc (.cells #[.int .i64 (lim : Int)] 57)).alloc (.cells #[.int .i64 kind, .string nm, .slice ta tn tc, .slice ea en ec] 38) := ⟨_, rfl⟩
  have HBB : Hid (Below w.heap.size w WB) := by rw [hWB]; exact bel2 _ _ _
  have HRD : Hid (WB.rowIs (w.heap.size + 1) 38 4 (v4 (.int .i64 kind) (.string nm) (.slice ta tn tc) (.slice ea en ec))) := by
    have q := row4 (w.alloc (.cells #[.int .i64 (lim : Int)] 57)) (.int .i64 kind) (.string nm) (.slice ta tn tc) (.slice ea en ec) 38
    rw [World.size_alloc] at q
    rw [hWB]
    exact q
  have HRP : Hid (WB.rowIs w.heap.size 57 1 (fun _ => .int .i64 (lim : Int))) := by rw [hWB]; exact (row1 w (.int .i64 (lim : Int)) 57).alloc _
  have HCL : Hid (∀ W, Below WB.heap.size WB W → W.cell? ⟨w.heap.size + 1, 0, none⟩ = some (.int .i64 kind) ∧ W.cell? ⟨w.heap.size + 1, 1, none⟩ = some (.string nm) ∧ W.cell? ⟨w.heap.size + 1, 2, none⟩ = some (.slice ta tn tc) ∧ W.cell? ⟨w.heap.size + 1, 3, none⟩ = some (.slice ea en ec) ∧ W.cell? ⟨w.heap.size, 0, none⟩ = some (.int .i64 (lim : Int))) := fun W hb => by
    have r1 := HRD.out.of_block (hb.block _ HRD.out.lt)
    have r2 := HRP.out.of_block (hb.block _ HRP.out.lt)
    exact ⟨r1.cell (i := 0) (by omega), r1.cell (i := 1) (by omega), r1.cell (i := 2) (by omega), r1.cell (i := 3) (by omega), r2.cell (i := 0) (by omega)⟩
  cases gnm with
  | false =>
    have HRF : Hid (R = false) := HR.out
    go_enter Tryd.func25, Tryd.ntmps25
    go_wp2_with (first | (go_at_call 40; refine (HG.out _).mono ?_; rintro e w2 ⟨rfl, rfl⟩))
    go_ret2
    exact ⟨⟨_, by rw [HRF.out]; rfl, fun z => by rw [HRF.out] at z; cases z⟩, bel2 _ _ _⟩
  | true =>
    by_cases k1 : kind = 1
    · subst k1
      have HP1 : Hid (P = (⟨#[105, 109, 112, 111, 114, 116, 32]⟩ ++ nm) ++ ⟨#[59, 10]⟩) := HPR.out
      have c1 := fun W => run_string_add_sum (P := Tryd.prog) (w := W) (⟨#[105, 109, 112, 111, 114, 116, 32]⟩ : ByteArray) nm (by show 7 + nm.size ≤ _; omega)
      have c2 := fun W => run_string_add_sum (P := Tryd.prog) (w := W) ((⟨#[105, 109, 112, 111, 114, 116, 32]⟩ : ByteArray) ++ nm) ⟨#[59, 10]⟩ (by rw [ByteArray.size_append]; show 7 + nm.size + 2 ≤ _; omega)
      by_cases z1 : tn = 0
      · subst z1
        by_cases z2 : en = 0
        · subst z2
          have HRF : Hid (R = true) := HR.out
          go_enter Tryd.func25, Tryd.ntmps25
          go_wp2_with (first | (go_at_call 40; refine (HG.out _).mono ?_; rintro e w2 ⟨rfl, rfl⟩))
          go_quiet (fail)
          go_wp2
          go_ret2
          exact ⟨⟨_, by rw [HRF.out]; rfl, fun _ => HP1.out.symm⟩, bel2d _ _ _ _⟩
        · have z3 : ((en : Int) == 0) = false := beq_eq_false_iff_ne.2 (by omega)
          have HRF : Hid (R = false) := by show _ = _; rw [HR.out]; unfold okL'; simp [z2]
          go_enter Tryd.func25, Tryd.ntmps25
          go_wp2_with (first | (go_at_call 40; refine (HG.out _).mono ?_; rintro e w2 ⟨rfl, rfl⟩))
          go_quiet (fail)
          go_wp2
          go_ret2
          exact ⟨⟨_, by rw [HRF.out]; rfl, fun z => by rw [HRF.out] at z; cases z⟩, bel2d _ _ _ _⟩
      · have z3 : ((tn : Int) == 0) = false := beq_eq_false_iff_ne.2 (by omega)
        have HRF : Hid (R = false) := by show _ = _; rw [HR.out]; unfold okL'; simp [z1]
        go_enter Tryd.func25, Tryd.ntmps25
        go_wp2_with (first | (go_at_call 40; refine (HG.out _).mono ?_; rintro e w2 ⟨rfl, rfl⟩))
        go_quiet (fail)
        go_wp2
        go_ret2
        exact ⟨⟨_, by rw [HRF.out]; rfl, fun z => by rw [HRF.out] at z; cases z⟩, bel2d _ _ _ _⟩
    by_cases k2 : kind = 2
    · subst k2
      have HP1 : Hid (P = (((⟨#[116, 121, 112, 101, 32]⟩ ++ nm) ++ ⟨#[32, 61, 32]⟩) ++ x) ++ ⟨#[59, 10]⟩) := HPR.out
      have c1 := fun W => run_string_add_sum (P := Tryd.prog) (w := W) (⟨#[116, 121, 112, 101, 32]⟩ : ByteArray) nm (by show 5 + nm.size ≤ _; omega)
      have c2 := fun W => run_string_add_sum (P := Tryd.prog) (w := W) ((⟨#[116, 121, 112, 101, 32]⟩ : ByteArray) ++ nm) ⟨#[32, 61, 32]⟩ (by simp only [ByteArray.size_append]; show 5 + nm.size + 3 ≤ _; omega)
      have c3 := fun W => run_string_add_sum (P := Tryd.prog) (w := W) (((⟨#[116, 121, 112, 101, 32]⟩ : ByteArray) ++ nm) ++ ⟨#[32, 61, 32]⟩) x (by simp only [ByteArray.size_append]; show 5 + nm.size + 3 + x.size ≤ _; omega)
      have c4 := fun W => run_string_add_sum (P := Tryd.prog) (w := W) ((((⟨#[116, 121, 112, 101, 32]⟩ : ByteArray) ++ nm) ++ ⟨#[32, 61, 32]⟩) ++ x) ⟨#[59, 10]⟩ (by simp only [ByteArray.size_append]; show 5 + nm.size + 3 + x.size + 2 ≤ _; omega)
      have C2 := HCT.out WB HBB.out
      go_enter Tryd.func25, Tryd.ntmps25
      go_wp2_with (first | (go_at_call 40; refine (HG.out _).mono ?_; rintro e w2 ⟨rfl, rfl⟩))
      rw [← hWB]
      clear hWB
      refine C2.mono ?_
      rintro e w2 ⟨rfl, B2⟩
      obtain ⟨l0, l1, l2, l3, l4⟩ := HCL.out w2 B2
      have HB2 : Hid (Below w.heap.size w w2) := HBB.out.trans (B2.mono HBB.out.size)
      clear C2 B2
      cases tb with
      | false =>
        have HRF : Hid (R = false) := HR.out
        go_wp2
        go_quiet (fail)
        go_wp2
        go_ret2
        exact ⟨⟨_, by rw [HRF.out]; rfl, fun z => by rw [HRF.out] at z; cases z⟩, below_drewN HB2.out _⟩
      | true =>
        by_cases z2 : en = 0
        · subst z2
          have HRF : Hid (R = true) := HR.out
          go_wp2
          go_quiet (fail)
          go_wp2
          go_ret2
          exact ⟨⟨_, by rw [HRF.out]; rfl, fun _ => HP1.out.symm⟩, below_drewN HB2.out _⟩
        · have z3 : ((en : Int) == 0) = false := beq_eq_false_iff_ne.2 (by omega)
          have HRF : Hid (R = false) := by show _ = _; rw [HR.out]; unfold okL'; simp [z2]
          go_wp2
          go_quiet (fail)
          go_wp2
          go_ret2
          exact ⟨⟨_, by rw [HRF.out]; rfl, fun z => by rw [HRF.out] at z; cases z⟩, below_drewN HB2.out _⟩
    by_cases k3 : kind = 3
    · subst k3
      have HP1 : Hid (P = (((((⟨#[118, 97, 108, 32]⟩ ++ nm) ++ ⟨#[58, 32]⟩) ++ x) ++ ⟨#[32, 61, 32]⟩) ++ y) ++ ⟨#[59, 10]⟩) := HPR.out
      have c1 := fun W => run_string_add_sum (P := Tryd.prog) (w := W) (⟨#[118, 97, 108, 32]⟩ : ByteArray) nm (by show 4 + nm.size ≤ _; omega)
      have c2 := fun W => run_string_add_sum (P := Tryd.prog) (w := W) ((⟨#[118, 97, 108, 32]⟩ : ByteArray) ++ nm) ⟨#[58, 32]⟩ (by simp only [ByteArray.size_append]; show 4 + nm.size + 2 ≤ _; omega)
      have c3 := fun W => run_string_add_sum (P := Tryd.prog) (w := W) (((⟨#[118, 97, 108, 32]⟩ : ByteArray) ++ nm) ++ ⟨#[58, 32]⟩) x (by simp only [ByteArray.size_append]; show 4 + nm.size + 2 + x.size ≤ _; omega)
      have c4 := fun W => run_string_add_sum (P := Tryd.prog) (w := W) ((((⟨#[118, 97, 108, 32]⟩ : ByteArray) ++ nm) ++ ⟨#[58, 32]⟩) ++ x) ⟨#[32, 61, 32]⟩ (by simp only [ByteArray.size_append]; show 4 + nm.size + 2 + x.size + 3 ≤ _; omega)
      have c5 := fun W => run_string_add_sum (P := Tryd.prog) (w := W) (((((⟨#[118, 97, 108, 32]⟩ : ByteArray) ++ nm) ++ ⟨#[58, 32]⟩) ++ x) ++ ⟨#[32, 61, 32]⟩) y (by simp only [ByteArray.size_append]; show 4 + nm.size + 2 + x.size + 3 + y.size ≤ _; omega)
      have c6 := fun W => run_string_add_sum (P := Tryd.prog) (w := W) ((((((⟨#[118, 97, 108, 32]⟩ : ByteArray) ++ nm) ++ ⟨#[58, 32]⟩) ++ x) ++ ⟨#[32, 61, 32]⟩) ++ y) ⟨#[59, 10]⟩ (by simp only [ByteArray.size_append]; show 4 + nm.size + 2 + x.size + 3 + y.size + 2 ≤ _; omega)
      have C2 := HCT.out WB HBB.out
      go_enter Tryd.func25, Tryd.ntmps25
      go_wp2_with (first | (go_at_call 40; refine (HG.out _).mono ?_; rintro e w2 ⟨rfl, rfl⟩))
      rw [← hWB]
      clear hWB
      refine C2.mono ?_
      rintro e w2 ⟨rfl, B2⟩
      obtain ⟨l0, l1, l2, l3, l4⟩ := HCL.out w2 B2
      have HB2 : Hid (Below w.heap.size w w2) := HBB.out.trans (B2.mono HBB.out.size)
      have HBW : Hid (Below WB.heap.size WB w2) := B2
      have C3 := HCE.out w2 HB2.out
      clear C2 B2
      go_wp2_with fail
      refine C3.mono ?_
      rintro e w3 ⟨rfl, B3⟩
      obtain ⟨m0, m1, m2, m3, m4⟩ := HCL.out w3 (HBW.out.trans (B3.mono HBW.out.size))
      have HB3 : Hid (Below w.heap.size w w3) := HB2.out.trans (B3.mono HB2.out.size)
      clear C3 B3 l0 l1 l2 l3 l4
      cases tb with
      | false =>
        have HRF : Hid (R = false) := HR.out
        go_wp2
        go_ret2
        exact ⟨⟨_, by rw [HRF.out]; rfl, fun z => by rw [HRF.out] at z; cases z⟩, HB3.out⟩
      | true =>
        have HRF : Hid (R = eb) := HR.out
        go_wp2
        go_ret2
        exact ⟨⟨_, by rw [HRF.out]; rfl, fun _ => HP1.out.symm⟩, HB3.out⟩
    · have HRF : Hid (R = false) := by show _ = _; rw [HR.out]; unfold okL'; simp [k1, k2, k3]
      have d1 : (kind == 1) = false := beq_eq_false_iff_ne.2 k1
      have d2 : (kind == 2) = false := beq_eq_false_iff_ne.2 k2
      have d3 : (kind == 3) = false := beq_eq_false_iff_ne.2 k3
      go_enter Tryd.func25, Tryd.ntmps25
      go_wp2_with (first | (go_at_call 40; refine (HG.out _).mono ?_; rintro e w2 ⟨rfl, rfl⟩))
      go_ret2
      exact ⟨⟨_, by rw [HRF.out]; rfl, fun z => by rw [HRF.out] at z; cases z⟩, bel2 _ _ _⟩

end Go.Proofs.YtcehppndpccldaaDoor
