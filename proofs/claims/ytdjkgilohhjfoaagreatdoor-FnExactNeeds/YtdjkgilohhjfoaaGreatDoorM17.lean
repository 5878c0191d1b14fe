/-
  Merged for the claim: PgM PgN.
-/
import Derived.Test.YtdjkgilohhjfoaaGreatDoorPgL
namespace Go.Proofs.YtdjkgilohhjfoaaGreatDoor
open Go.RowKit

/-- What comes of a reader of expressions of the model's. -/
def MER (w : World) (r : Option (List EI × Nat)) (e : Ending) (w' : World) : Prop := Below w.heap.size w w' ∧ match r with
  | none => ∃ a n c, e = .returned (.agg #[.slice a n c, .int .i64 (-1)])
  | some (l, j) => ∃ a n c k zs, e = .returned (.agg #[.slice a n c, .int .i64 k]) ∧ k = (j : Int) ∧ RE w.heap.size w' (.slice a n c) zs ∧ zs.map Prod.fst = l
/-- The model's reader of expressions, of this fuel. -/
def MEC (tb o : Nat) (ts : List TK) (f : Nat) : Prop := ∀ (w : World) (ao : Option Addr) (c : Nat) (a : Int) (i : Nat), MS w tb o ao ts → a = i → ts.length - i < f → i ≤ 1100 → Calls Tryz.prog 64 #[.slice ao ts.length c, .int .i64 a] w (MER w (exP false ts f i))
abbrev bxE (w : World) : World := w.alloc (.cells #[.slice none 0 0, .int .i64 0] 111)

set_option maxRecDepth 100000 in
set_option maxHeartbeats 1000000 in
theorem ma_num {tb o c : Nat} {ao : Option Addr} {ts : List TK} {E : Nat → Option (List EI × Nat)} (w : World) (h : MS w tb o ao ts) {i : Nat} (ok : TkOK ts) (h3 : isC ts i 3 = true) :
    Calls Tryz.prog 89 #[.slice ao ts.length c, .int .i64 (i : Int)] w (MER w (atomP false ts E i)) := by
  have hi := isC_lt h3
  have hc : isC ts i 1 = false := by
    rw [isC_at hi] at h3 ⊢
    have e : (tkA ts i).cls = 3 := by simpa using h3
    rw [e]; rfl
  have HR : Hid (atomP false ts E i = some ([⟨1, valN (tx ts i).data.toList, e0, e0, [], []⟩], i + 1)) := by
    show _ = _
    unfold atomP
    rw [hc, if_neg (by decide), if_pos h3]
  have hnum : num (tx ts i).toList = true := by
    have e : (tkA ts i).cls = 3 := by rw [isC_at hi] at h3; simpa using h3
    rw [h.tk.gd i hi, ← tx_at hi] at e
    cases z : num (tx ts i).toList with
    | true => rfl
    | false =>
      unfold cls at e
      rw [z] at e
      simp only [Bool.false_eq_true, if_false] at e
      revert e
      repeat' split
      all_goals decide
  obtain ⟨n0, n9, nd⟩ := ok.number hi hnum
  have e := h.at_ (by omega)
  subst e
  have hln := h.tk.len
  have k0c := h.tk.c0 i hi
  have k1 := h.tk.c1 i hi
  rw [← tx_at hi] at k1
  have tlt : tb < w.heap.size := World.block_lt_of_cell? _ _ k1
  have BX := bel1 w (.cells #[.slice none 0 0, .int .i64 0] 111)
  have k1' := (BX.cell (p := ⟨tb, o + i * 3 + 1, none⟩) tlt).trans k1
  obtain ⟨k0, hk0⟩ : ∃ z, z = (tkA ts i).cls := ⟨_, rfl⟩
  rw [← hk0] at k0c
  have k0' := (BX.cell (p := ⟨tb, o + i * 3, none⟩) tlt).trans k0c
  have t3 : (k0 == 3) = true := by rw [hk0, ← isC_at hi]; exact h3
  have j0 : decide ((0 : Int) ≤ (i : Int)) = true := decide_eq_true (by omega)
  have j1 : decide ((i : Int) < (ts.length : Int)) = true := decide_eq_true (by omega)
  have HMS : Hid (MS (bxE w) tb o (some ⟨tb, o, none⟩) ts) := h.below (bel1 _ _)
  obtain ⟨nn, hnn⟩ : ∃ z, z = tx ts i := ⟨_, rfl⟩
  rw [← hnn] at k1' k1
  have HNN : Hid (tx ts i = nn) := hnn.symm
  have e3 : k0 = 3 := by simpa using t3
  subst e3
  have CV : Hid (Calls Tryz.prog 93 #[.string nn] (bxE w) fun e w' => e = .returned (.int .i64 (valN nn.data.toList)) ∧ bxE w = w') := by
    rw [hnn]; exact m_value _ _ nd n9
  clear n0 n9 nd hnum hnn hk0 k0c k1 h h3 hc
  go_enter Tryz.func89, Tryz.ntmps89
  go_wp2_with fail
  refine CV.out.mono ?_
  rintro e w' ⟨rfl, rfl⟩
  go_wp2_with fail
  refine (m_one (bxE w) 1 (valN nn.data.toList) ⟨#[]⟩ ⟨#[]⟩ ((i : Int) + 1)).mono ?_
  rintro e w1 ⟨⟨va, n, c', rfl, HL⟩, hb1⟩
  have R := (row2 w (.slice none 0 0) (.int .i64 0) 111).of_block (hb1.out.block _ (by simp))
  have d0 := R.cell (i := 0) (by omega)
  have d1 := R.cell (i := 1) (by omega)
  have z0 := R.frozen 0
  have z1 := R.frozen 1
  go_wp2
  have RX := (R.set 0 (.slice va n c')).set 1 (.int .i64 ((i : Int) + 1))
  obtain ⟨W1, W2⟩ := box_ex ((bel1 _ _).trans (hb1.out.mono (by simp))) R (.slice va n c') (.int .i64 ((i : Int) + 1))
  refine bodyPost_ret (ret_ex (k := 4) rfl (RX.cell (i := 0) (by omega)) (RX.cell (i := 1) (by omega)) _ rfl) rfl ?_
  rw [HR.out, HNN.out]
  exact ⟨W1, va, n, c', ((i : Int) + 1), _, rfl, by omega, (W2 _ _ _ HL.out).mono (by simp), rfl⟩

set_option maxRecDepth 100000 in
set_option maxHeartbeats 1000000 in
theorem ma_true {tb o c : Nat} {ao : Option Addr} {ts : List TK} {E : Nat → Option (List EI × Nat)} (w : World) (h : MS w tb o ao ts) {i : Nat} (q0 : isT ts i sTrue = true) :
    Calls Tryz.prog 89 #[.slice ao ts.length c, .int .i64 (i : Int)] w (MER w (atomP false ts E i)) := by
  have hi := isT_lt q0
  have hc : isC ts i 1 = false := by
    cases z : isC ts i 1 with
    | false => rfl
    | true => rw [isC_isT h.tk z (by decide)] at q0; cases q0
  have h3 : isC ts i 3 = false := by
    cases z : isC ts i 3 with
    | false => rfl
    | true => rw [isC_isT h.tk z (by decide)] at q0; cases q0
  have HR : Hid (atomP false ts E i = some ([⟨2, 1, e0, e0, [], []⟩], i + 1)) := by
    show _ = _
    unfold atomP
    rw [hc, if_neg (by decide), h3, if_neg (by decide), if_pos q0]
  have e := h.at_ (by omega)
  subst e
  have hln := h.tk.len
  have k0c := h.tk.c0 i hi
  have k1 := h.tk.c1 i hi
  rw [← tx_at hi] at k1
  have tlt : tb < w.heap.size := World.block_lt_of_cell? _ _ k1
  have BX := bel1 w (.cells #[.slice none 0 0, .int .i64 0] 111)
  have k1' := (BX.cell (p := ⟨tb, o + i * 3 + 1, none⟩) tlt).trans k1
  obtain ⟨k0, hk0⟩ : ∃ z, z = (tkA ts i).cls := ⟨_, rfl⟩
  rw [← hk0] at k0c
  have k0' := (BX.cell (p := ⟨tb, o + i * 3, none⟩) tlt).trans k0c
  have t3 : (k0 == 3) = false := by rw [hk0, ← isC_at hi]; exact h3
  have j0 : decide ((0 : Int) ≤ (i : Int)) = true := decide_eq_true (by omega)
  have j1 : decide ((i : Int) < (ts.length : Int)) = true := decide_eq_true (by omega)
  have HMS : Hid (MS (bxE w) tb o (some ⟨tb, o, none⟩) ts) := h.below (bel1 _ _)
  obtain ⟨nn, hnn⟩ : ∃ z, z = tx ts i := ⟨_, rfl⟩
  rw [← hnn] at k1' k1
  have HNN : Hid (tx ts i = nn) := hnn.symm
  clear hnn hk0 k0c k1 h h3 hc
  go_enter Tryz.func89, Tryz.ntmps89
  go_wp2_with fail
  refine (m_isb HMS.out (i := i) (rfl) (l := sTrue) q0 rfl (by decide)).mono ?_
  rintro e w' ⟨rfl, rfl⟩
  go_wp2_with fail
  refine (m_one (bxE w) 2 1 ⟨#[]⟩ ⟨#[]⟩ ((i : Int) + 1)).mono ?_
  rintro e w1 ⟨⟨va, n, c', rfl, HL⟩, hb1⟩
  have R := (row2 w (.slice none 0 0) (.int .i64 0) 111).of_block (hb1.out.block _ (by simp))
  have d0 := R.cell (i := 0) (by omega)
  have d1 := R.cell (i := 1) (by omega)
  have z0 := R.frozen 0
  have z1 := R.frozen 1
  go_wp2
  have RX := (R.set 0 (.slice va n c')).set 1 (.int .i64 ((i : Int) + 1))
  obtain ⟨W1, W2⟩ := box_ex ((bel1 _ _).trans (hb1.out.mono (by simp))) R (.slice va n c') (.int .i64 ((i : Int) + 1))
  refine bodyPost_ret (ret_ex (k := 4) rfl (RX.cell (i := 0) (by omega)) (RX.cell (i := 1) (by omega)) _ rfl) rfl ?_
  rw [HR.out]
  exact ⟨W1, va, n, c', ((i : Int) + 1), _, rfl, by omega, (W2 _ _ _ HL.out).mono (by simp), rfl⟩

set_option maxRecDepth 100000 in
set_option maxHeartbeats 1000000 in
theorem ma_false {tb o c : Nat} {ao : Option Addr} {ts : List TK} {E : Nat → Option (List EI × Nat)} (w : World) (h : MS w tb o ao ts) {i : Nat} (q0 : isT ts i sTrue = false) (q1 : isT ts i sFalse = true) :
    Calls Tryz.prog 89 #[.slice ao ts.length c, .int .i64 (i : Int)] w (MER w (atomP false ts E i)) := by
  have hi := isT_lt q1
  have hc : isC ts i 1 = false := by
    cases z : isC ts i 1 with
    | false => rfl
    | true => rw [isC_isT h.tk z (by decide)] at q1; cases q1
  have h3 : isC ts i 3 = false := by
    cases z : isC ts i 3 with
    | false => rfl
    | true => rw [isC_isT h.tk z (by decide)] at q1; cases q1
  have HR : Hid (atomP false ts E i = some ([⟨2, 0, e0, e0, [], []⟩], i + 1)) := by
    show _ = _
    unfold atomP
    rw [hc, if_neg (by decide), h3, if_neg (by decide), q0, if_neg (by decide), if_pos q1]; rfl
  have e := h.at_ (by omega)
  subst e
  have hln := h.tk.len
  have k0c := h.tk.c0 i hi
  have k1 := h.tk.c1 i hi
  rw [← tx_at hi] at k1
  have tlt : tb < w.heap.size := World.block_lt_of_cell? _ _ k1
  have BX := bel1 w (.cells #[.slice none 0 0, .int .i64 0] 111)
  have k1' := (BX.cell (p := ⟨tb, o + i * 3 + 1, none⟩) tlt).trans k1
  obtain ⟨k0, hk0⟩ : ∃ z, z = (tkA ts i).cls := ⟨_, rfl⟩
  rw [← hk0] at k0c
  have k0' := (BX.cell (p := ⟨tb, o + i * 3, none⟩) tlt).trans k0c
  have t3 : (k0 == 3) = false := by rw [hk0, ← isC_at hi]; exact h3
  have j0 : decide ((0 : Int) ≤ (i : Int)) = true := decide_eq_true (by omega)
  have j1 : decide ((i : Int) < (ts.length : Int)) = true := decide_eq_true (by omega)
  have HMS : Hid (MS (bxE w) tb o (some ⟨tb, o, none⟩) ts) := h.below (bel1 _ _)
  obtain ⟨nn, hnn⟩ : ∃ z, z = tx ts i := ⟨_, rfl⟩
  rw [← hnn] at k1' k1
  have HNN : Hid (tx ts i = nn) := hnn.symm
  clear hnn hk0 k0c k1 h h3 hc
  go_enter Tryz.func89, Tryz.ntmps89
  go_wp2_with fail
  refine (m_isb HMS.out (i := i) (rfl) (l := sTrue) q0 rfl (by decide)).mono ?_
  rintro e w' ⟨rfl, rfl⟩
  go_wp2_with fail
  refine (m_isb HMS.out (i := i) (rfl) (l := sFalse) q1 rfl (by decide)).mono ?_
  rintro e w' ⟨rfl, rfl⟩
  go_wp2_with fail
  refine (m_one (bxE w) 2 0 ⟨#[]⟩ ⟨#[]⟩ ((i : Int) + 1)).mono ?_
  rintro e w1 ⟨⟨va, n, c', rfl, HL⟩, hb1⟩
  have R := (row2 w (.slice none 0 0) (.int .i64 0) 111).of_block (hb1.out.block _ (by simp))
  have d0 := R.cell (i := 0) (by omega)
  have d1 := R.cell (i := 1) (by omega)
  have z0 := R.frozen 0
  have z1 := R.frozen 1
  go_wp2
  have RX := (R.set 0 (.slice va n c')).set 1 (.int .i64 ((i : Int) + 1))
  obtain ⟨W1, W2⟩ := box_ex ((bel1 _ _).trans (hb1.out.mono (by simp))) R (.slice va n c') (.int .i64 ((i : Int) + 1))
  refine bodyPost_ret (ret_ex (k := 4) rfl (RX.cell (i := 0) (by omega)) (RX.cell (i := 1) (by omega)) _ rfl) rfl ?_
  rw [HR.out]
  exact ⟨W1, va, n, c', ((i : Int) + 1), _, rfl, by omega, (W2 _ _ _ HL.out).mono (by simp), rfl⟩

set_option maxRecDepth 100000 in
set_option maxHeartbeats 1000000 in
theorem ma_name0 {tb o c : Nat} {ao : Option Addr} {ts : List TK} {E : Nat → Option (List EI × Nat)} (w : World) (h : MS w tb o ao ts) {i : Nat} (hi9 : i ≤ 1100) (hc : isC ts i 1 = true) (p1 : isT ts (i + 1) sColon = false) :
    Calls Tryz.prog 89 #[.slice ao ts.length c, .int .i64 (i : Int)] w (MER w (atomP false ts E i)) := by
  have hi := isC_lt hc
  have hct : ∀ s, cls s ≠ 1 → isT ts i s = false := fun s hs => isC_isT h.tk hc hs
  have q0 := hct sTrue (by decide)
  have q1 := hct sFalse (by decide)
  have h3 : isC ts i 3 = false := by
    rw [isC_at hi] at hc ⊢
    have e : (tkA ts i).cls = 1 := by simpa using hc
    rw [e]; rfl
  have HR : Hid (atomP false ts E i = some ([⟨3, 0, e0, tx ts i, [], []⟩], i + 1)) := by
    show _ = _
    unfold atomP
    rw [if_pos hc]
    have : pathP false ts i = some (e0, tx ts i, i + 1) := by
      unfold pathP
      rw [p1]; rfl
    rw [this]
  have e := h.at_ (by omega)
  subst e
  have hln := h.tk.len
  have k0c := h.tk.c0 i hi
  have k1 := h.tk.c1 i hi
  rw [← tx_at hi] at k1
  have tlt : tb < w.heap.size := World.block_lt_of_cell? _ _ k1
  have BX := bel1 w (.cells #[.slice none 0 0, .int .i64 0] 111)
  have k1' := (BX.cell (p := ⟨tb, o + i * 3 + 1, none⟩) tlt).trans k1
  obtain ⟨k0, hk0⟩ : ∃ z, z = (tkA ts i).cls := ⟨_, rfl⟩
  rw [← hk0] at k0c
  have k0' := (BX.cell (p := ⟨tb, o + i * 3, none⟩) tlt).trans k0c
  have t3 : (k0 == 3) = false := by rw [hk0, ← isC_at hi]; exact h3
  have j0 : decide ((0 : Int) ≤ (i : Int)) = true := decide_eq_true (by omega)
  have j1 : decide ((i : Int) < (ts.length : Int)) = true := decide_eq_true (by omega)
  have HMS : Hid (MS (bxE w) tb o (some ⟨tb, o, none⟩) ts) := h.below (bel1 _ _)
  obtain ⟨nn, hnn⟩ : ∃ z, z = tx ts i := ⟨_, rfl⟩
  rw [← hnn] at k1' k1
  have HNN : Hid (tx ts i = nn) := hnn.symm
  clear hnn hk0 k0c k1 h h3 hct
  go_enter Tryz.func89, Tryz.ntmps89
  go_wp2_with fail
  refine (m_isb HMS.out (i := i) (rfl) (l := sTrue) q0 rfl (by decide)).mono ?_
  rintro e w' ⟨rfl, rfl⟩
  go_wp2_with fail
  refine (m_isb HMS.out (i := i) (rfl) (l := sFalse) q1 rfl (by decide)).mono ?_
  rintro e w' ⟨rfl, rfl⟩
  go_wp2_with fail
  refine (m_isN HMS.out (i := i) (rfl) hc).mono ?_
  rintro e w' ⟨rfl, rfl⟩
  go_wp2_with fail
  refine (m_isb HMS.out (i := i + 1) (by omega) (l := sColon) p1 rfl (by decide)).mono ?_
  rintro e w' ⟨rfl, rfl⟩
  go_wp2_with fail
  refine (m_one (bxE w) 3 0 ⟨#[]⟩ nn ((i : Int) + 1)).mono ?_
  rintro e w1 ⟨⟨va, n, c', rfl, HL⟩, hb1⟩
  have R := (row2 w (.slice none 0 0) (.int .i64 0) 111).of_block (hb1.out.block _ (by simp))
  have d0 := R.cell (i := 0) (by omega)
  have d1 := R.cell (i := 1) (by omega)
  have z0 := R.frozen 0
  have z1 := R.frozen 1
  go_wp2
  have RX := (R.set 0 (.slice va n c')).set 1 (.int .i64 ((i : Int) + 1))
  obtain ⟨W1, W2⟩ := box_ex ((bel1 _ _).trans (hb1.out.mono (by simp))) R (.slice va n c') (.int .i64 ((i : Int) + 1))
  refine bodyPost_ret (ret_ex (k := 4) rfl (RX.cell (i := 0) (by omega)) (RX.cell (i := 1) (by omega)) _ rfl) rfl ?_
  rw [HR.out, HNN.out]
  exact ⟨W1, va, n, c', ((i : Int) + 1), _, rfl, by omega, (W2 _ _ _ HL.out).mono (by simp), rfl⟩

set_option maxRecDepth 100000 in
set_option maxHeartbeats 1000000 in
theorem ma_name1 {tb o c : Nat} {ao : Option Addr} {ts : List TK} {E : Nat → Option (List EI × Nat)} (w : World) (h : MS w tb o ao ts) {i : Nat} (hi9 : i ≤ 1100) (hc : isC ts i 1 = true) (p1 : isT ts (i + 1) sColon = true) (p2 : isC ts (i + 2) 1 = false) :
    Calls Tryz.prog 89 #[.slice ao ts.length c, .int .i64 (i : Int)] w (MER w (atomP false ts E i)) := by
  have hi := isC_lt hc
  have hct : ∀ s, cls s ≠ 1 → isT ts i s = false := fun s hs => isC_isT h.tk hc hs
  have q0 := hct sTrue (by decide)
  have q1 := hct sFalse (by decide)
  have h3 : isC ts i 3 = false := by
    rw [isC_at hi] at hc ⊢
    have e : (tkA ts i).cls = 1 := by simpa using hc
    rw [e]; rfl
  have HR : Hid (atomP false ts E i = some ([⟨3, 0, e0, tx ts i, [], []⟩], i + 1)) := by
    show _ = _
    unfold atomP
    rw [if_pos hc]
    have : pathP false ts i = some (e0, tx ts i, i + 1) := by
      unfold pathP
      rw [p1, p2]; rfl
    rw [this]
  have e := h.at_ (by omega)
  subst e
  have hln := h.tk.len
  have k0c := h.tk.c0 i hi
  have k1 := h.tk.c1 i hi
  rw [← tx_at hi] at k1
  have tlt : tb < w.heap.size := World.block_lt_of_cell? _ _ k1
  have BX := bel1 w (.cells #[.slice none 0 0, .int .i64 0] 111)
  have k1' := (BX.cell (p := ⟨tb, o + i * 3 + 1, none⟩) tlt).trans k1
  obtain ⟨k0, hk0⟩ : ∃ z, z = (tkA ts i).cls := ⟨_, rfl⟩
  rw [← hk0] at k0c
  have k0' := (BX.cell (p := ⟨tb, o + i * 3, none⟩) tlt).trans k0c
  have t3 : (k0 == 3) = false := by rw [hk0, ← isC_at hi]; exact h3
  have j0 : decide ((0 : Int) ≤ (i : Int)) = true := decide_eq_true (by omega)
  have j1 : decide ((i : Int) < (ts.length : Int)) = true := decide_eq_true (by omega)
  have HMS : Hid (MS (bxE w) tb o (some ⟨tb, o, none⟩) ts) := h.below (bel1 _ _)
  obtain ⟨nn, hnn⟩ : ∃ z, z = tx ts i := ⟨_, rfl⟩
  rw [← hnn] at k1' k1
  have HNN : Hid (tx ts i = nn) := hnn.symm
  clear hnn hk0 k0c k1 h h3 hct
  go_enter Tryz.func89, Tryz.ntmps89
  go_wp2_with fail
  refine (m_isb HMS.out (i := i) (rfl) (l := sTrue) q0 rfl (by decide)).mono ?_
  rintro e w' ⟨rfl, rfl⟩
  go_wp2_with fail
  refine (m_isb HMS.out (i := i) (rfl) (l := sFalse) q1 rfl (by decide)).mono ?_
  rintro e w' ⟨rfl, rfl⟩
  go_wp2_with fail
  refine (m_isN HMS.out (i := i) (rfl) hc).mono ?_
  rintro e w' ⟨rfl, rfl⟩
  go_wp2_with fail
  refine (m_isb HMS.out (i := i + 1) (by omega) (l := sColon) p1 rfl (by decide)).mono ?_
  rintro e w' ⟨rfl, rfl⟩
  go_wp2_with fail
  refine (m_isN HMS.out (i := i + 2) (by omega) p2).mono ?_
  rintro e w' ⟨rfl, rfl⟩
  go_wp2_with fail
  refine (m_one (bxE w) 3 0 ⟨#[]⟩ nn ((i : Int) + 1)).mono ?_
  rintro e w1 ⟨⟨va, n, c', rfl, HL⟩, hb1⟩
  have R := (row2 w (.slice none 0 0) (.int .i64 0) 111).of_block (hb1.out.block _ (by simp))
  have d0 := R.cell (i := 0) (by omega)
  have d1 := R.cell (i := 1) (by omega)
  have z0 := R.frozen 0
  have z1 := R.frozen 1
  go_wp2
  have RX := (R.set 0 (.slice va n c')).set 1 (.int .i64 ((i : Int) + 1))
  obtain ⟨W1, W2⟩ := box_ex ((bel1 _ _).trans (hb1.out.mono (by simp))) R (.slice va n c') (.int .i64 ((i : Int) + 1))
  refine bodyPost_ret (ret_ex (k := 4) rfl (RX.cell (i := 0) (by omega)) (RX.cell (i := 1) (by omega)) _ rfl) rfl ?_
  rw [HR.out, HNN.out]
  exact ⟨W1, va, n, c', ((i : Int) + 1), _, rfl, by omega, (W2 _ _ _ HL.out).mono (by simp), rfl⟩

set_option maxRecDepth 100000 in
set_option maxHeartbeats 1000000 in
theorem ma_path {tb o c : Nat} {ao : Option Addr} {ts : List TK} {E : Nat → Option (List EI × Nat)} (w : World) (h : MS w tb o ao ts) {i : Nat} (hi9 : i ≤ 1100) (hc : isC ts i 1 = true) (p1 : isT ts (i + 1) sColon = true) (p2 : isC ts (i + 2) 1 = true) :
    Calls Tryz.prog 89 #[.slice ao ts.length c, .int .i64 (i : Int)] w (MER w (atomP false ts E i)) := by
  have hi := isC_lt hc
  have hct : ∀ s, cls s ≠ 1 → isT ts i s = false := fun s hs => isC_isT h.tk hc hs
  have q0 := hct sTrue (by decide)
  have q1 := hct sFalse (by decide)
  have h3 : isC ts i 3 = false := by
    rw [isC_at hi] at hc ⊢
    have e : (tkA ts i).cls = 1 := by simpa using hc
    rw [e]; rfl
  have hi2 := isC_lt p2
  have k2 := h.tk.c1 (i + 2) hi2
  rw [← tx_at hi2] at k2
  have HR : Hid (atomP false ts E i = some ([⟨3, 0, tx ts i, tx ts (i + 2), [], []⟩], i + 3)) := by
    show _ = _
    unfold atomP
    rw [if_pos hc]
    have : pathP false ts i = some (tx ts i, tx ts (i + 2), i + 3) := by
      unfold pathP
      rw [p1, p2]; rfl
    rw [this]
  have e := h.at_ (by omega)
  subst e
  have hln := h.tk.len
  have k0c := h.tk.c0 i hi
  have k1 := h.tk.c1 i hi
  rw [← tx_at hi] at k1
  have tlt : tb < w.heap.size := World.block_lt_of_cell? _ _ k1
  have BX := bel1 w (.cells #[.slice none 0 0, .int .i64 0] 111)
  have k1' := (BX.cell (p := ⟨tb, o + i * 3 + 1, none⟩) tlt).trans k1
  obtain ⟨k0, hk0⟩ : ∃ z, z = (tkA ts i).cls := ⟨_, rfl⟩
  rw [← hk0] at k0c
  have k0' := (BX.cell (p := ⟨tb, o + i * 3, none⟩) tlt).trans k0c
  have t3 : (k0 == 3) = false := by rw [hk0, ← isC_at hi]; exact h3
  have j0 : decide ((0 : Int) ≤ (i : Int)) = true := decide_eq_true (by omega)
  have j1 : decide ((i : Int) < (ts.length : Int)) = true := decide_eq_true (by omega)
  have HMS : Hid (MS (bxE w) tb o (some ⟨tb, o, none⟩) ts) := h.below (bel1 _ _)
  obtain ⟨nn, hnn⟩ : ∃ z, z = tx ts i := ⟨_, rfl⟩
  rw [← hnn] at k1' k1
  have HNN : Hid (tx ts i = nn) := hnn.symm
  obtain ⟨mm, hmm⟩ : ∃ z, z = tx ts (i + 2) := ⟨_, rfl⟩
  rw [← hmm] at k2
  have HMM : Hid (tx ts (i + 2) = mm) := hmm.symm
  have k2' : (bxE w).cell? ⟨tb, o + ((i : Int) + 2).toNat * 3 + 1, none⟩ = some (.string mm) := by
    rw [show ((i : Int) + 2).toNat = i + 2 by omega]
    exact (BX.cell (p := ⟨tb, o + (i + 2) * 3 + 1, none⟩) tlt).trans k2
  have htn : tb ≠ w.heap.size := by omega
  have htn2 : w.heap.size ≠ tb := by omega
  have hi3 : (i : Int) + 2 < (ts.length : Int) := by omega
  have hi4 : (0 : Int) ≤ (i : Int) + 2 := by omega
  have hi5 : (i : Int) < (ts.length : Int) := by omega
  have hi6 : (0 : Int) ≤ (i : Int) := by omega
  have wr2 : IntKind.i64.wrap ((i : Int) + 2) = (i : Int) + 2 := by rw [IntKind.wrap_i64]; omega
  have wr3 : IntKind.i64.wrap ((i : Int) + 3) = (i : Int) + 3 := by rw [IntKind.wrap_i64]; omega
  have CO : Hid (Calls Tryz.prog 92 #[.agg #[.int .i64 3, .int .i64 0, .string nn, .string mm, .slice none 0 0, .slice none 0 0], .int .i64 ((i : Int) + 3)] (bxE w).drew fun e w' => (∃ va n c, e = .returned (.agg #[.slice va n c, .int .i64 ((i : Int) + 3)]) ∧ Hid (RE (bxE w).heap.size w' (.slice va n c) [(⟨3, 0, nn, mm, [], []⟩, ep0)])) ∧ Hid (Below (bxE w).heap.size (bxE w) w')) := (m_one (bxE w).drew 3 0 nn mm ((i : Int) + 3)).mono fun e w' ⟨h1, h2⟩ => ⟨h1, ⟨h2.out.os, h2.out.tape, h2.out.output, h2.out.size, h2.out.block⟩⟩
  have HC : Hid (∀ w', Below (bxE w).heap.size (bxE w) w' → w'.cell? ⟨tb, o + i * 3 + 1, none⟩ = some (.string nn) ∧ w'.cell? ⟨tb, o + ((i : Int) + 2).toNat * 3 + 1, none⟩ = some (.string mm)) := fun w' hb => ⟨(hb.cell (p := ⟨tb, o + i * 3 + 1, none⟩) (by simp; omega)).trans k1', (hb.cell (p := ⟨tb, o + ((i : Int) + 2).toNat * 3 + 1, none⟩) (by simp; omega)).trans k2'⟩
  clear hnn hmm hk0 k0c k1 k2 h h3 hct
  go_enter Tryz.func89, Tryz.ntmps89
  go_wp2_with fail
  refine (m_isb HMS.out (i := i) (rfl) (l := sTrue) q0 rfl (by decide)).mono ?_
  rintro e w' ⟨rfl, rfl⟩
  go_wp2_with fail
  refine (m_isb HMS.out (i := i) (rfl) (l := sFalse) q1 rfl (by decide)).mono ?_
  rintro e w' ⟨rfl, rfl⟩
  go_wp2_with fail
  refine (m_isN HMS.out (i := i) (rfl) hc).mono ?_
  rintro e w' ⟨rfl, rfl⟩
  go_wp2_with fail
  refine (m_isb HMS.out (i := i + 1) (by omega) (l := sColon) p1 rfl (by decide)).mono ?_
  rintro e w' ⟨rfl, rfl⟩
  go_wp2_with fail
  refine (m_isN HMS.out (i := i + 2) (by omega) p2).mono ?_
  rintro e w' ⟨rfl, rfl⟩
  go_wp2
  go_region_held3 (fun w' => w'.cell? ⟨tb, o + i * 3 + 1, none⟩ = some (.string nn) ∧ w'.cell? ⟨tb, o + ((i : Int) + 2).toNat * 3 + 1, none⟩ = some (.string mm)) (first | exact ⟨s1, s2⟩ | exact HST.out | go_keep) (first | (go_at_call 92; refine CO.out.mono ?_; rintro e w1 ⟨⟨va, n, c', rfl, HL⟩, hb1⟩; obtain ⟨s1, s2⟩ := HC.out w1 hb1.out; have R := (row2 w (.slice none 0 0) (.int .i64 0) 111).of_block (hb1.out.block _ (by simp)); have d0 := R.cell (i := 0) (by omega); have d1 := R.cell (i := 1) (by omega); have z0 := R.frozen 0; have z1 := R.frozen 1))
  all_goals
    go_wp2
    have RX := (R.set 0 (.slice va n c')).set 1 (.int .i64 ((i : Int) + 3))
    obtain ⟨W1, W2⟩ := box_ex ((bel1 _ _).trans (hb1.out.mono (by simp))) R (.slice va n c') (.int .i64 ((i : Int) + 3))
    refine bodyPost_ret (ret_ex (k := 4) rfl (RX.cell (i := 0) (by omega)) (RX.cell (i := 1) (by omega)) _ rfl) rfl ?_
    rw [HR.out, HNN.out, HMM.out]
    exact ⟨W1, va, n, c', ((i : Int) + 3), _, rfl, by omega, (W2 _ _ _ HL.out).mono (by simp), rfl⟩

set_option maxRecDepth 100000 in
set_option maxHeartbeats 1000000 in
theorem ma_none {tb o c : Nat} {ao : Option Addr} {ts : List TK} {E : Nat → Option (List EI × Nat)} (w : World) (h : MS w tb o ao ts) {i : Nat} (hi9 : i ≤ 1100) (hc : isC ts i 1 = false) (h3 : isC ts i 3 = false) (q0 : isT ts i sTrue = false) (q1 : isT ts i sFalse = false) (q2 : isT ts i sLeft = false) (q3 : isT ts i sOpen = false) :
    Calls Tryz.prog 89 #[.slice ao ts.length c, .int .i64 (i : Int)] w (MER w (atomP false ts E i)) := by
  have HR : Hid (atomP false ts E i = none) := by
    show _ = _
    unfold atomP
    rw [hc, if_neg (by decide), h3, if_neg (by decide), q0, if_neg (by decide), q1, if_neg (by decide), q3, if_neg (by decide), q2, if_neg (by decide)]
  have HMS0 : Hid (MS (bxE w) tb o ao ts) := h.below (bel1 _ _)
  by_cases hi : i < ts.length
  case pos =>
    have e := h.at_ (by omega)
    subst e
    have hln := h.tk.len
    have k0c := h.tk.c0 i hi
    have k1 := h.tk.c1 i hi
    rw [← tx_at hi] at k1
    have tlt : tb < w.heap.size := World.block_lt_of_cell? _ _ k1
    have BX := bel1 w (.cells #[.slice none 0 0, .int .i64 0] 111)
    have k1' := (BX.cell (p := ⟨tb, o + i * 3 + 1, none⟩) tlt).trans k1
    obtain ⟨k0, hk0⟩ : ∃ z, z = (tkA ts i).cls := ⟨_, rfl⟩
    rw [← hk0] at k0c
    have k0' := (BX.cell (p := ⟨tb, o + i * 3, none⟩) tlt).trans k0c
    have t3 : (k0 == 3) = false := by rw [hk0, ← isC_at hi]; exact h3
    have j0 : decide ((0 : Int) ≤ (i : Int)) = true := decide_eq_true (by omega)
    have j1 : decide ((i : Int) < (ts.length : Int)) = true := decide_eq_true (by omega)
    have HMS : Hid (MS (bxE w) tb o (some ⟨tb, o, none⟩) ts) := h.below (bel1 _ _)
    obtain ⟨nn, hnn⟩ : ∃ z, z = tx ts i := ⟨_, rfl⟩
    rw [← hnn] at k1' k1
    have HNN : Hid (tx ts i = nn) := hnn.symm
    clear hnn hk0 k0c k1 h h3
    go_enter Tryz.func89, Tryz.ntmps89
    go_wp2_with fail
    refine (m_isb HMS.out (i := i) (rfl) (l := sTrue) q0 rfl (by decide)).mono ?_
    rintro e w' ⟨rfl, rfl⟩
    go_wp2_with fail
    refine (m_isb HMS.out (i := i) (rfl) (l := sFalse) q1 rfl (by decide)).mono ?_
    rintro e w' ⟨rfl, rfl⟩
    go_wp2_with fail
    refine (m_isN HMS.out (i := i) (rfl) hc).mono ?_
    rintro e w' ⟨rfl, rfl⟩
    go_wp2_with fail
    refine (m_isb HMS.out (i := i) (rfl) (l := sLeft) q2 rfl (by decide)).mono ?_
    rintro e w' ⟨rfl, rfl⟩
    go_wp2_with fail
    refine (m_isb HMS.out (i := i) (rfl) (l := sOpen) q3 rfl (by decide)).mono ?_
    rintro e w' ⟨rfl, rfl⟩
    go_wp2_with fail
    refine (m_noExpr _).mono ?_
    rintro e w1 ⟨⟨va, n, c', rfl⟩, hb1⟩
    have R := (row2 w (.slice none 0 0) (.int .i64 0) 111).of_block (hb1.out.block _ (by simp))
    have d0 := R.cell (i := 0) (by omega)
    have d1 := R.cell (i := 1) (by omega)
    have z0 := R.frozen 0
    have z1 := R.frozen 1
    go_wp2
    have RX := (R.set 0 (.slice va n c')).set 1 (.int .i64 (-1))
    refine bodyPost_ret (ret_ex (k := 4) rfl (RX.cell (i := 0) (by omega)) (RX.cell (i := 1) (by omega)) _ rfl) rfl ?_
    rw [HR.out]
    exact ⟨below_box ((bel1 _ _).trans (hb1.out.mono (by simp))) _ _, va, n, c', rfl⟩
  have j0 : decide ((0 : Int) ≤ (i : Int)) = true := decide_eq_true (by omega)
  have j1 : decide ((i : Int) < (ts.length : Int)) = false := decide_eq_false (by omega)
  have j2 : ¬ (i : Int) < (ts.length : Int) := by omega
  have HMS : Hid (MS (bxE w) tb o ao ts) := HMS0
  clear h h3 hi
  go_enter Tryz.func89, Tryz.ntmps89
  go_wp2_with fail
  refine (m_isb HMS.out (i := i) (rfl) (l := sTrue) q0 rfl (by decide)).mono ?_
  rintro e w' ⟨rfl, rfl⟩
  go_wp2_with fail
  refine (m_isb HMS.out (i := i) (rfl) (l := sFalse) q1 rfl (by decide)).mono ?_
  rintro e w' ⟨rfl, rfl⟩
  go_wp2_with fail
  refine (m_isN HMS.out (i := i) (rfl) hc).mono ?_
  rintro e w' ⟨rfl, rfl⟩
  go_wp2_with fail
  refine (m_isb HMS.out (i := i) (rfl) (l := sLeft) q2 rfl (by decide)).mono ?_
  rintro e w' ⟨rfl, rfl⟩
  go_wp2_with fail
  refine (m_isb HMS.out (i := i) (rfl) (l := sOpen) q3 rfl (by decide)).mono ?_
  rintro e w' ⟨rfl, rfl⟩
  go_wp2_with fail
  refine (m_noExpr _).mono ?_
  rintro e w1 ⟨⟨va, n, c', rfl⟩, hb1⟩
  have R := (row2 w (.slice none 0 0) (.int .i64 0) 111).of_block (hb1.out.block _ (by simp))
  have d0 := R.cell (i := 0) (by omega)
  have d1 := R.cell (i := 1) (by omega)
  have z0 := R.frozen 0
  have z1 := R.frozen 1
  go_wp2
  have RX := (R.set 0 (.slice va n c')).set 1 (.int .i64 (-1))
  refine bodyPost_ret (ret_ex (k := 4) rfl (RX.cell (i := 0) (by omega)) (RX.cell (i := 1) (by omega)) _ rfl) rfl ?_
  rw [HR.out]
  exact ⟨below_box ((bel1 _ _).trans (hb1.out.mono (by simp))) _ _, va, n, c', rfl⟩

end Go.Proofs.YtdjkgilohhjfoaaGreatDoor

namespace Go.Proofs.YtdjkgilohhjfoaaGreatDoor
open Go.RowKit

set_option maxRecDepth 100000 in
set_option maxHeartbeats 1000000 in
theorem ma_brk {tb o c : Nat} {ao : Option Addr} {ts : List TK} {f : Nat} (IH : MEC tb o ts f) (w : World) (h : MS w tb o ao ts) {i : Nat} (hf : ts.length - i < f + 1) (hs : isT ts i sLeft = true) :
    Calls Tryz.prog 89 #[.slice ao ts.length c, .int .i64 (i : Int)] w (MER w (atomP false ts (exP false ts f) i)) := by
  have hi := isT_lt hs
  have hln := h.tk.len
  have hc : isC ts i 1 = false := by
    cases z : isC ts i 1 with
    | false => rfl
    | true => rw [isC_isT h.tk z (by decide)] at hs; cases hs
  have h3 : isC ts i 3 = false := by
    cases z : isC ts i 3 with
    | false => rfl
    | true => rw [isC_isT h.tk z (by decide)] at hs; cases hs
  have q0 : isT ts i sTrue = false := isT_one hs (by decide)
  have q1 : isT ts i sFalse = false := isT_one hs (by decide)
  have q4 : isT ts i sOpen = false := isT_one hs (by decide)
  have HR0 : Hid (atomP false ts (exP false ts f) i = brkP ts (exP false ts f) (i + 1)) := by
    show _ = _
    unfold atomP
    rw [hc, if_neg (by decide), h3, if_neg (by decide), q0, if_neg (by decide), q1, if_neg (by decide), q4, if_neg (by decide), if_pos hs]
  have e := h.at_ (by omega)
  subst e
  have k0c := h.tk.c0 i hi
  have k1 := h.tk.c1 i hi
  rw [← tx_at hi] at k1
  have tlt : tb < w.heap.size := World.block_lt_of_cell? _ _ k1
  have BX := bel1 w (.cells #[.slice none 0 0, .int .i64 0] 111)
  have k1' := (BX.cell (p := ⟨tb, o + i * 3 + 1, none⟩) tlt).trans k1
  obtain ⟨k0, hk0⟩ : ∃ z, z = (tkA ts i).cls := ⟨_, rfl⟩
  rw [← hk0] at k0c
  have k0' := (BX.cell (p := ⟨tb, o + i * 3, none⟩) tlt).trans k0c
  have t3 : (k0 == 3) = false := by rw [hk0, ← isC_at hi]; exact h3
  have jz0 : decide ((0 : Int) ≤ (i : Int)) = true := decide_eq_true (by omega)
  have jz1 : decide ((i : Int) < (ts.length : Int)) = true := decide_eq_true (by omega)
  have HMS : Hid (MS (bxE w) tb o (some ⟨tb, o, none⟩) ts) := h.below (bel1 _ _)
  obtain ⟨nn, hnn⟩ : ∃ z, z = tx ts i := ⟨_, rfl⟩
  rw [← hnn] at k1' k1
  have HNN : Hid (tx ts i = nn) := hnn.symm
  have C : Hid (Calls Tryz.prog 64 #[.slice (some ⟨tb, o, none⟩) ts.length c, .int .i64 ((i : Int) + 1)] (bxE w) (MER (bxE w) (exP false ts f (i + 1)))) := IH _ _ _ _ _ HMS.out (by omega) (by omega) (by omega)
  have HFAR : Hid (Far ts.length (exP false ts f)) := ex_far f
  clear h IH hnn hk0 k0c k1 h3
  go_enter Tryz.func89, Tryz.ntmps89
  go_wp2_with fail
  refine (m_isb HMS.out (i := i) (rfl) (l := sTrue) q0 rfl (by decide)).mono ?_
  rintro e w' ⟨rfl, rfl⟩
  go_wp2_with fail
  refine (m_isb HMS.out (i := i) (rfl) (l := sFalse) q1 rfl (by decide)).mono ?_
  rintro e w' ⟨rfl, rfl⟩
  go_wp2_with fail
  refine (m_isN HMS.out (i := i) (rfl) hc).mono ?_
  rintro e w' ⟨rfl, rfl⟩
  go_wp2_with fail
  refine (m_isb HMS.out (i := i) (rfl) (l := sLeft) hs rfl (by decide)).mono ?_
  rintro e w' ⟨rfl, rfl⟩
  go_wp2_with fail
  refine C.out.mono ?_
  rintro e w2 ⟨hb2, hr⟩
  have R2 := (row2 w (.slice none 0 0) (.int .i64 0) 111).of_block (hb2.block _ (by simp))
  have HB2 : Hid (Below w.heap.size w w2) := (bel1 _ _).trans (hb2.mono (by simp))
  have hws := HB2.out.size
  cases ht : exP false ts f (i + 1) with
  | none =>
    rw [ht] at hr
    obtain ⟨va, n, c', rfl⟩ := hr
    have HR : Hid (atomP false ts (exP false ts f) i = none) := by show _ = _; rw [HR0.out]; unfold brkP; rw [ht]
    have R3 := R2.alloc (.cells #[.slice va n c', .int .i64 (-1)] 111)
    have HB3 : Hid (Below w.heap.size w (w2.alloc (.cells #[.slice va n c', .int .i64 (-1)] 111))) := HB2.out.alloc hws _
    clear ht R2 hb2
    go_wp2_with fail
    refine (m_noExpr _).mono ?_
    rintro e w4 ⟨⟨va4, n4, c4, rfl⟩, hb4⟩
    have R := R3.of_block (hb4.out.block _ R3.lt)
    have d0 := R.cell (i := 0) (by omega)
    have d1 := R.cell (i := 1) (by omega)
    have z0 := R.frozen 0
    have z1 := R.frozen 1
    clear R3
    go_wp2
    have R2 := (R.set 0 (.slice va4 n4 c4)).set 1 (.int .i64 (-1))
    refine bodyPost_ret (ret_ex (k := 4) rfl (R2.cell (i := 0) (by omega)) (R2.cell (i := 1) (by omega)) _ rfl) rfl ?_
    rw [HR.out]
    exact ⟨below_box (HB3.out.trans (hb4.out.mono HB3.out.size)) _ _, va4, n4, c4, rfl⟩
  | some z =>
    obtain ⟨l, j⟩ := z
    rw [ht] at hr
    obtain ⟨va, n, c', k, zs, rfl, rfl, hrt, hzs⟩ := hr
    obtain ⟨far1, far2, far3⟩ := HFAR.out _ _ _ ht
    have R3 := R2.alloc (.cells #[.slice va n c', .int .i64 (j : Int)] 111)
    have HB3 : Hid (Below w.heap.size w (w2.alloc (.cells #[.slice va n c', .int .i64 (j : Int)] 111))) := HB2.out.alloc hws _
    have HM2 : Hid (MS (w2.alloc (.cells #[.slice va n c', .int .i64 (j : Int)] 111)) tb o (some ⟨tb, o, none⟩) ts) := (HMS.out.below hb2).below (bel1 _ _)
    have hj0 : ¬ (j : Int) < 0 := by omega
    have HRT : Hid (RE (bxE w).heap.size w2 (.slice va n c') zs) := hrt
    cases hr2 : isT ts j sRight with
    | false =>
      have HR : Hid (atomP false ts (exP false ts f) i = none) := by show _ = _; rw [HR0.out]; unfold brkP; rw [ht]; show (if isT ts j sRight = true then _ else none) = _; rw [hr2]; rfl
      clear ht R2 hb2 hrt
      go_wp2_with fail
      refine (m_isb HM2.out (i := j) (rfl) (l := sRight) hr2 rfl (by decide)).mono ?_
      rintro e w' ⟨rfl, rfl⟩
      go_wp2_with fail
      refine (m_noExpr _).mono ?_
      rintro e w4 ⟨⟨va4, n4, c4, rfl⟩, hb4⟩
      have R := R3.of_block (hb4.out.block _ R3.lt)
      have d0 := R.cell (i := 0) (by omega)
      have d1 := R.cell (i := 1) (by omega)
      have z0 := R.frozen 0
      have z1 := R.frozen 1
      clear R3
      go_wp2
      have R2 := (R.set 0 (.slice va4 n4 c4)).set 1 (.int .i64 (-1))
      refine bodyPost_ret (ret_ex (k := 4) rfl (R2.cell (i := 0) (by omega)) (R2.cell (i := 1) (by omega)) _ rfl) rfl ?_
      rw [HR.out]
      exact ⟨below_box (HB3.out.trans (hb4.out.mono HB3.out.size)) _ _, va4, n4, c4, rfl⟩
    | true =>
      have HR : Hid (atomP false ts (exP false ts f) i = some (l, j + 1)) := by show _ = _; rw [HR0.out]; unfold brkP; rw [ht]; show (if isT ts j sRight = true then _ else none) = _; rw [hr2]; rfl
      clear ht hb2 hrt
      have HR2 : Hid (w2.rowIs w.heap.size 111 2 (v2 (.slice none 0 0) (.int .i64 0))) := R2
      have x0 := R3.cell (i := 0) (by omega)
      have x1 := R3.cell (i := 1) (by omega)
      have y0 := R3.frozen 0
      have y1 := R3.frozen 1
      have xlt := R2.lt
      have R5 := R2.alloc (.cells #[.slice va n c', .int .i64 ((j : Int) + 1)] 111)
      have x0' := R5.cell (i := 0) (by omega)
      have x1' := R5.cell (i := 1) (by omega)
      have y0' := R5.frozen 0
      have y1' := R5.frozen 1
      have R7 := (R2.set 0 (.slice va n c')).alloc (.cells #[.slice va n c', .int .i64 ((j : Int) + 1)] 111)
      have x0'' := R7.cell (i := 0) (by omega)
      have x1'' := R7.cell (i := 1) (by omega)
      have y0'' := R7.frozen 0
      have y1'' := R7.frozen 1
      have R8 := ((R2.set 0 (.slice va n c')).set 1 (.int .i64 ((j : Int) + 1))).alloc (.cells #[.slice va n c', .int .i64 ((j : Int) + 1)] 111)
      clear R2 R3 R5 R7
      go_wp2_with fail
      refine (m_isb HM2.out (i := j) (rfl) (l := sRight) hr2 rfl (by decide)).mono ?_
      rintro e w' ⟨rfl, rfl⟩
      go_wp2
      refine bodyPost_ret (ret_ex (k := 4) rfl (R8.cell (i := 0) (by omega)) (R8.cell (i := 1) (by omega)) _ rfl) rfl ?_
      rw [HR.out]
      obtain ⟨W1, W2⟩ := box_ex HB2.out HR2.out (.slice va n c') (.int .i64 ((j : Int) + 1))
      exact ⟨W1.alloc W1.size _, va, n, c', (j : Int) + 1, zs, rfl, by omega, ((W2 _ _ _ HRT.out).below (bel1 _ _)).mono (by simp), hzs⟩

end Go.Proofs.YtdjkgilohhjfoaaGreatDoor

