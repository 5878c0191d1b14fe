/-
  Merged for the claim: PgG PgH PgI.
-/
import Derived.Test.YtdjkgilohhjfoaaGreatDoorM14
namespace Go.Proofs.YtdjkgilohhjfoaaGreatDoor
open Go.RowKit

/-- What comes of a reader of types of the model's. -/
def MTR (w : World) (r : Option (List TI × Nat)) (e : Ending) (w' : World) : Prop := Below w.heap.size w w' ∧ match r with
  | none => ∃ a n c, e = .returned (.agg #[.slice a n c, .int .i64 (-1)])
  | some (l, j) => ∃ a n c k zs, e = .returned (.agg #[.slice a n c, .int .i64 k]) ∧ k = (j : Int) ∧ RT w.heap.size w' (.slice a n c) zs ∧ zs.map Prod.fst = l

/-- The model's reader of types, of this fuel. -/
def MTC (tb o : Nat) (ts : List TK) (f : Nat) : Prop := ∀ (w : World) (ao : Option Addr) (c : Nat) (a : Int) (i : Nat), MS w tb o ao ts → a = i → ts.length - i < f → i ≤ 1100 → Calls Tryz.prog 63 #[.slice ao ts.length c, .int .i64 a] w (MTR w (tyP false ts f i))

theorem below_box {w w1 : World} (h : Below w.heap.size w w1) (a b : Value) : Below w.heap.size w ((w1.setCell ⟨w.heap.size, 0, none⟩ a).setCell ⟨w.heap.size, 1, none⟩ b) :=
  ⟨h.os, h.tape, h.output, by rw [World.size_setCell, World.size_setCell]; exact h.size, fun k hk => by
    rw [Below.heap_setCell _ _ _ _ (by show k ≠ w.heap.size; omega), Below.heap_setCell _ _ _ _ (by show k ≠ w.heap.size; omega)]
    exact h.block k hk⟩

abbrev bxT (w : World) : World := w.alloc (.cells #[.slice none 0 0, .int .i64 0] 108)

set_option maxRecDepth 100000 in
theorem mb_int {tb o c : Nat} {ao : Option Addr} {ts : List TK} {T : Nat → Option (List TI × Nat)} (w : World) (h : MS w tb o ao ts) {i : Nat} (hi9 : i ≤ 1100) (hc : isC ts i 1 = false) (q0 : isT ts i sInt = true) :
    Calls Tryz.prog 71 #[.slice ao ts.length c, .int .i64 (i : Int)] w (MTR w (baseP false ts T i)) := by
  have HR : Hid (baseP false ts T i = some ([tyO 1], i + 1)) := by
    show _ = _
    unfold baseP
    rw [hc, if_neg (by decide), if_pos q0]
  have HMS : Hid (MS (bxT w) tb o ao ts) := h.below (bel1 _ _)
  have HI : Hid (i ≤ 1100) := hi9
  clear h hc
  go_enter Tryz.func71, Tryz.ntmps71
  go_wp2_with fail
  refine (m_isb HMS.out (i := i) (rfl) (l := sInt) q0 rfl (by decide)).mono ?_
  rintro e w' ⟨rfl, rfl⟩
  go_wp2
  have R := (row2 w (.slice (some ⟨w.heap.size + 1, 0, none⟩) 1 1) (.int .i64 ((i : Int) + 1)) 108).alloc (.cells #[.int .i64 1, .string ⟨#[]⟩, .string ⟨#[]⟩, .slice none 0 0] 120)
  have L := rt_lit (w.alloc (.cells #[.slice (some ⟨w.heap.size + 1, 0, none⟩) 1 1, .int .i64 ((i : Int) + 1)] 108)) (B := w.heap.size) (by simp) 1 ⟨#[]⟩ ⟨#[]⟩
  simp only [World.size_alloc] at L
  refine bodyPost_ret (ret_ty (k := 4) rfl (R.cell (i := 0) (by omega)) (R.cell (i := 1) (by omega)) _ rfl) rfl ?_
  rw [HR.out]
  exact ⟨(bel1 _ _).alloc (by simp) _, some ⟨w.heap.size + 1, 0, none⟩, 1, 1, _, _, rfl, by omega, L, rfl⟩

set_option maxRecDepth 100000 in
theorem mb_bool {tb o c : Nat} {ao : Option Addr} {ts : List TK} {T : Nat → Option (List TI × Nat)} (w : World) (h : MS w tb o ao ts) {i : Nat} (hi9 : i ≤ 1100) (hc : isC ts i 1 = false) (q0 : isT ts i sInt = false) (q1 : isT ts i sBool = true) :
    Calls Tryz.prog 71 #[.slice ao ts.length c, .int .i64 (i : Int)] w (MTR w (baseP false ts T i)) := by
  have HR : Hid (baseP false ts T i = some ([tyO 2], i + 1)) := by
    show _ = _
    unfold baseP
    rw [hc, if_neg (by decide), q0, if_neg (by decide), if_pos q1]
  have HMS : Hid (MS (bxT w) tb o ao ts) := h.below (bel1 _ _)
  have HI : Hid (i ≤ 1100) := hi9
  clear h hc
  go_enter Tryz.func71, Tryz.ntmps71
  go_wp2_with fail
  refine (m_isb HMS.out (i := i) (rfl) (l := sInt) q0 rfl (by decide)).mono ?_
  rintro e w' ⟨rfl, rfl⟩
  go_wp2_with fail
  refine (m_isb HMS.out (i := i) (rfl) (l := sBool) q1 rfl (by decide)).mono ?_
  rintro e w' ⟨rfl, rfl⟩
  go_wp2
  have R := (row2 w (.slice (some ⟨w.heap.size + 1, 0, none⟩) 1 1) (.int .i64 ((i : Int) + 1)) 108).alloc (.cells #[.int .i64 2, .string ⟨#[]⟩, .string ⟨#[]⟩, .slice none 0 0] 120)
  have L := rt_lit (w.alloc (.cells #[.slice (some ⟨w.heap.size + 1, 0, none⟩) 1 1, .int .i64 ((i : Int) + 1)] 108)) (B := w.heap.size) (by simp) 2 ⟨#[]⟩ ⟨#[]⟩
  simp only [World.size_alloc] at L
  refine bodyPost_ret (ret_ty (k := 4) rfl (R.cell (i := 0) (by omega)) (R.cell (i := 1) (by omega)) _ rfl) rfl ?_
  rw [HR.out]
  exact ⟨(bel1 _ _).alloc (by simp) _, some ⟨w.heap.size + 1, 0, none⟩, 1, 1, _, _, rfl, by omega, L, rfl⟩

set_option maxRecDepth 100000 in
theorem mb_any {tb o c : Nat} {ao : Option Addr} {ts : List TK} {T : Nat → Option (List TI × Nat)} (w : World) (h : MS w tb o ao ts) {i : Nat} (hi9 : i ≤ 1100) (hc : isC ts i 1 = false) (q0 : isT ts i sInt = false) (q1 : isT ts i sBool = false) (q2 : isT ts i sAny = true) :
    Calls Tryz.prog 71 #[.slice ao ts.length c, .int .i64 (i : Int)] w (MTR w (baseP false ts T i)) := by
  have HR : Hid (baseP false ts T i = some ([tyO 3], i + 1)) := by
    show _ = _
    unfold baseP
    rw [hc, if_neg (by decide), q0, if_neg (by decide), q1, if_neg (by decide), if_pos q2]
  have HMS : Hid (MS (bxT w) tb o ao ts) := h.below (bel1 _ _)
  have HI : Hid (i ≤ 1100) := hi9
  clear h hc
  go_enter Tryz.func71, Tryz.ntmps71
  go_wp2_with fail
  refine (m_isb HMS.out (i := i) (rfl) (l := sInt) q0 rfl (by decide)).mono ?_
  rintro e w' ⟨rfl, rfl⟩
  go_wp2_with fail
  refine (m_isb HMS.out (i := i) (rfl) (l := sBool) q1 rfl (by decide)).mono ?_
  rintro e w' ⟨rfl, rfl⟩
  go_wp2_with fail
  refine (m_isb HMS.out (i := i) (rfl) (l := sAny) q2 rfl (by decide)).mono ?_
  rintro e w' ⟨rfl, rfl⟩
  go_wp2
  have R := (row2 w (.slice (some ⟨w.heap.size + 1, 0, none⟩) 1 1) (.int .i64 ((i : Int) + 1)) 108).alloc (.cells #[.int .i64 3, .string ⟨#[]⟩, .string ⟨#[]⟩, .slice none 0 0] 120)
  have L := rt_lit (w.alloc (.cells #[.slice (some ⟨w.heap.size + 1, 0, none⟩) 1 1, .int .i64 ((i : Int) + 1)] 108)) (B := w.heap.size) (by simp) 3 ⟨#[]⟩ ⟨#[]⟩
  simp only [World.size_alloc] at L
  refine bodyPost_ret (ret_ty (k := 4) rfl (R.cell (i := 0) (by omega)) (R.cell (i := 1) (by omega)) _ rfl) rfl ?_
  rw [HR.out]
  exact ⟨(bel1 _ _).alloc (by simp) _, some ⟨w.heap.size + 1, 0, none⟩, 1, 1, _, _, rfl, by omega, L, rfl⟩

set_option maxRecDepth 100000 in
theorem mb_none {tb o c : Nat} {ao : Option Addr} {ts : List TK} {T : Nat → Option (List TI × Nat)} (w : World) (h : MS w tb o ao ts) {i : Nat} (hi9 : i ≤ 1100) (hc : isC ts i 1 = false) (q0 : isT ts i sInt = false) (q1 : isT ts i sBool = false) (q2 : isT ts i sAny = false) (q3 : isT ts i sLeft = false) (q4 : isT ts i sOpen = false) :
    Calls Tryz.prog 71 #[.slice ao ts.length c, .int .i64 (i : Int)] w (MTR w (baseP false ts T i)) := by
  have HR : Hid (baseP false ts T i = none) := by
    show _ = _
    unfold baseP
    rw [hc, if_neg (by decide), q0, if_neg (by decide), q1, if_neg (by decide), q2, if_neg (by decide), q4, if_neg (by decide), q3, if_neg (by decide)]
  have HMS : Hid (MS (bxT w) tb o ao ts) := h.below (bel1 _ _)
  have HI : Hid (i ≤ 1100) := hi9
  clear h
  go_enter Tryz.func71, Tryz.ntmps71
  go_wp2_with fail
  refine (m_isb HMS.out (i := i) (rfl) (l := sInt) q0 rfl (by decide)).mono ?_
  rintro e w' ⟨rfl, rfl⟩
  go_wp2_with fail
  refine (m_isb HMS.out (i := i) (rfl) (l := sBool) q1 rfl (by decide)).mono ?_
  rintro e w' ⟨rfl, rfl⟩
  go_wp2_with fail
  refine (m_isb HMS.out (i := i) (rfl) (l := sAny) q2 rfl (by decide)).mono ?_
  rintro e w' ⟨rfl, rfl⟩
  go_wp2_with fail
  refine (m_isN HMS.out (i := i) (rfl) hc).mono ?_
  rintro e w' ⟨rfl, rfl⟩
  go_wp2_with fail
  refine (m_isb HMS.out (i := i) (rfl) (l := sLeft) q3 rfl (by decide)).mono ?_
  rintro e w' ⟨rfl, rfl⟩
  go_wp2_with fail
  refine (m_isb HMS.out (i := i) (rfl) (l := sOpen) q4 rfl (by decide)).mono ?_
  rintro e w' ⟨rfl, rfl⟩
  go_wp2_with fail
  refine (m_noType _).mono ?_
  rintro e w1 ⟨⟨va, n, c', rfl⟩, hb1⟩
  have R := (row2 w (.slice none 0 0) (.int .i64 0) 108).of_block (hb1.out.block _ (by simp))
  have d0 := R.cell (i := 0) (by omega)
  have d1 := R.cell (i := 1) (by omega)
  have z0 := R.frozen 0
  have z1 := R.frozen 1
  go_wp2
  have R2 := (R.set 0 (.slice va n c')).set 1 (.int .i64 (-1))
  refine bodyPost_ret (ret_ty (k := 4) rfl (R2.cell (i := 0) (by omega)) (R2.cell (i := 1) (by omega)) _ rfl) rfl ?_
  rw [HR.out]
  exact ⟨below_box ((bel1 _ _).trans (hb1.out.mono (by simp))) _ _, va, n, c', rfl⟩

end Go.Proofs.YtdjkgilohhjfoaaGreatDoor

namespace Go.Proofs.YtdjkgilohhjfoaaGreatDoor
open Go.RowKit

theorem row_drew {w : World} {b n : Nat} {t : TypeId} {f : Nat → Value} (h : w.rowIs b t n f) : w.drew.rowIs b t n f := h
theorem RT.drew {B : Nat} {w : World} {v : Value} {xs : List (TI × NPl)} (h : RT B w v xs) : RT B w.drew v xs := ⟨h.own, h.nm⟩
theorem RE.drew {B : Nat} {w : World} {v : Value} {xs : List (EI × EPl)} (h : RE B w v xs) : RE B w.drew v xs := ⟨h.own, fun x hx => ⟨(h.ok x hx).nm, (h.ok x hx).ty.drew, (h.ok x hx).is⟩⟩
theorem MS.drew {w : World} {tb o : Nat} {ao : Option Addr} {ts : List TK} (h : MS w tb o ao ts) : MS w.drew tb o ao ts := ⟨⟨h.tk.c0, h.tk.c1, h.tk.c2, h.tk.len, h.tk.sz, h.tk.gd⟩, h.at_⟩

set_option maxRecDepth 100000 in
set_option maxHeartbeats 1000000 in
theorem mb_name0 {tb o c : Nat} {ao : Option Addr} {ts : List TK} {T : Nat → Option (List TI × Nat)} (w : World) (h : MS w tb o ao ts) {i : Nat} (hi9 : i ≤ 1100) (hc : isC ts i 1 = true) (p1 : isT ts (i + 1) sColon = false) :
    Calls Tryz.prog 71 #[.slice ao ts.length c, .int .i64 (i : Int)] w (MTR w (baseP false ts T i)) := by
  have hi := isC_lt hc
  have hct : ∀ s, cls s ≠ 1 → isT ts i s = false := fun s hs => isC_isT h.tk hc hs
  have q0 := hct sInt (by decide)
  have q1 := hct sBool (by decide)
  have q2 := hct sAny (by decide)
  have e := h.at_ (by omega)
  subst e
  have hln := h.tk.len
  have k1 := h.tk.c1 i hi
  rw [← tx_at hi] at k1
  have tlt : tb < w.heap.size := World.block_lt_of_cell? _ _ k1
  have BX := bel1 w (.cells #[.slice none 0 0, .int .i64 0] 108)
  have k1' := (BX.cell (p := ⟨tb, o + i * 3 + 1, none⟩) tlt).trans k1
  have HMS : Hid (MS (bxT w) tb o (some ⟨tb, o, none⟩) ts) := h.below (bel1 _ _)
  have HI : Hid (i ≤ 1100) := hi9
  have HR : Hid (baseP false ts T i = some ([⟨4, e0, tx ts i, []⟩], i + 1)) := by
    show _ = _
    unfold baseP
    rw [if_pos hc]
    have : pathP false ts i = some (e0, tx ts i, i + 1) := by
      unfold pathP
      rw [p1]; rfl
    rw [this]
  obtain ⟨nn, hnn⟩ : ∃ z, z = tx ts i := ⟨_, rfl⟩
  rw [← hnn] at k1'
  have HNN : Hid (tx ts i = nn) := hnn.symm
  clear k1 hct hnn h
  go_enter Tryz.func71, Tryz.ntmps71
  go_wp2_with fail
  refine (m_isb HMS.out (i := i) (rfl) (l := sInt) q0 rfl (by decide)).mono ?_
  rintro e w' ⟨rfl, rfl⟩
  go_wp2_with fail
  refine (m_isb HMS.out (i := i) (rfl) (l := sBool) q1 rfl (by decide)).mono ?_
  rintro e w' ⟨rfl, rfl⟩
  go_wp2_with fail
  refine (m_isb HMS.out (i := i) (rfl) (l := sAny) q2 rfl (by decide)).mono ?_
  rintro e w' ⟨rfl, rfl⟩
  go_wp2_with fail
  refine (m_isN HMS.out (i := i) (rfl) hc).mono ?_
  rintro e w' ⟨rfl, rfl⟩
  go_wp2_with fail
  refine (m_isb HMS.out (i := i + 1) (by omega) (l := sColon) p1 rfl (by decide)).mono ?_
  rintro e w' ⟨rfl, rfl⟩
  go_wp2
  have R := (row2 w (.slice (some ⟨w.heap.size + 1, 0, none⟩) 1 1) (.int .i64 ((i : Int) + 1)) 108).alloc (.cells #[.int .i64 4, .string ⟨#[]⟩, .string nn, .slice none 0 0] 120)
  have L := rt_lit (w.alloc (.cells #[.slice (some ⟨w.heap.size + 1, 0, none⟩) 1 1, .int .i64 ((i : Int) + 1)] 108)) (B := w.heap.size) (by simp) 4 ⟨#[]⟩ nn
  simp only [World.size_alloc] at L
  refine bodyPost_ret (ret_ty (k := 4) rfl (R.cell (i := 0) (by omega)) (R.cell (i := 1) (by omega)) _ rfl) rfl ?_
  rw [HR.out, HNN.out]
  exact ⟨(bel1 _ _).alloc (by simp) _, some ⟨w.heap.size + 1, 0, none⟩, 1, 1, _, _, rfl, by omega, L, rfl⟩

set_option maxRecDepth 100000 in
set_option maxHeartbeats 1000000 in
theorem mb_name1 {tb o c : Nat} {ao : Option Addr} {ts : List TK} {T : Nat → Option (List TI × Nat)} (w : World) (h : MS w tb o ao ts) {i : Nat} (hi9 : i ≤ 1100) (hc : isC ts i 1 = true) (p1 : isT ts (i + 1) sColon = true) (p2 : isC ts (i + 2) 1 = false) :
    Calls Tryz.prog 71 #[.slice ao ts.length c, .int .i64 (i : Int)] w (MTR w (baseP false ts T i)) := by
  have hi := isC_lt hc
  have hct : ∀ s, cls s ≠ 1 → isT ts i s = false := fun s hs => isC_isT h.tk hc hs
  have q0 := hct sInt (by decide)
  have q1 := hct sBool (by decide)
  have q2 := hct sAny (by decide)
  have e := h.at_ (by omega)
  subst e
  have hln := h.tk.len
  have k1 := h.tk.c1 i hi
  rw [← tx_at hi] at k1
  have tlt : tb < w.heap.size := World.block_lt_of_cell? _ _ k1
  have BX := bel1 w (.cells #[.slice none 0 0, .int .i64 0] 108)
  have k1' := (BX.cell (p := ⟨tb, o + i * 3 + 1, none⟩) tlt).trans k1
  have HMS : Hid (MS (bxT w) tb o (some ⟨tb, o, none⟩) ts) := h.below (bel1 _ _)
  have HI : Hid (i ≤ 1100) := hi9
  have HR : Hid (baseP false ts T i = some ([⟨4, e0, tx ts i, []⟩], i + 1)) := by
    show _ = _
    unfold baseP
    rw [if_pos hc]
    have : pathP false ts i = some (e0, tx ts i, i + 1) := by
      unfold pathP
      rw [p1, p2]; rfl
    rw [this]
  obtain ⟨nn, hnn⟩ : ∃ z, z = tx ts i := ⟨_, rfl⟩
  rw [← hnn] at k1'
  have HNN : Hid (tx ts i = nn) := hnn.symm
  clear k1 hct hnn h
  go_enter Tryz.func71, Tryz.ntmps71
  go_wp2_with fail
  refine (m_isb HMS.out (i := i) (rfl) (l := sInt) q0 rfl (by decide)).mono ?_
  rintro e w' ⟨rfl, rfl⟩
  go_wp2_with fail
  refine (m_isb HMS.out (i := i) (rfl) (l := sBool) q1 rfl (by decide)).mono ?_
  rintro e w' ⟨rfl, rfl⟩
  go_wp2_with fail
  refine (m_isb HMS.out (i := i) (rfl) (l := sAny) q2 rfl (by decide)).mono ?_
  rintro e w' ⟨rfl, rfl⟩
  go_wp2_with fail
  refine (m_isN HMS.out (i := i) (rfl) hc).mono ?_
  rintro e w' ⟨rfl, rfl⟩
  go_wp2_with fail
  refine (m_isb HMS.out (i := i + 1) (by omega) (l := sColon) p1 rfl (by decide)).mono ?_
  rintro e w' ⟨rfl, rfl⟩
  go_wp2_with fail
  refine (m_isN HMS.out (i := i + 2) (by omega) p2).mono ?_
  rintro e w' ⟨rfl, rfl⟩
  go_wp2
  have R := (row2 w (.slice (some ⟨w.heap.size + 1, 0, none⟩) 1 1) (.int .i64 ((i : Int) + 1)) 108).alloc (.cells #[.int .i64 4, .string ⟨#[]⟩, .string nn, .slice none 0 0] 120)
  have L := rt_lit (w.alloc (.cells #[.slice (some ⟨w.heap.size + 1, 0, none⟩) 1 1, .int .i64 ((i : Int) + 1)] 108)) (B := w.heap.size) (by simp) 4 ⟨#[]⟩ nn
  simp only [World.size_alloc] at L
  refine bodyPost_ret (ret_ty (k := 4) rfl (R.cell (i := 0) (by omega)) (R.cell (i := 1) (by omega)) _ rfl) rfl ?_
  rw [HR.out, HNN.out]
  exact ⟨(bel1 _ _).alloc (by simp) _, some ⟨w.heap.size + 1, 0, none⟩, 1, 1, _, _, rfl, by omega, L, rfl⟩

set_option maxRecDepth 100000 in
set_option maxHeartbeats 1000000 in
theorem mb_path {tb o c : Nat} {ao : Option Addr} {ts : List TK} {T : Nat → Option (List TI × Nat)} (w : World) (h : MS w tb o ao ts) {i : Nat} (hi9 : i ≤ 1100) (hc : isC ts i 1 = true) (p1 : isT ts (i + 1) sColon = true) (p2 : isC ts (i + 2) 1 = true) :
    Calls Tryz.prog 71 #[.slice ao ts.length c, .int .i64 (i : Int)] w (MTR w (baseP false ts T i)) := by
  have hi := isC_lt hc
  have hct : ∀ s, cls s ≠ 1 → isT ts i s = false := fun s hs => isC_isT h.tk hc hs
  have q0 := hct sInt (by decide)
  have q1 := hct sBool (by decide)
  have q2 := hct sAny (by decide)
  have e := h.at_ (by omega)
  subst e
  have hln := h.tk.len
  have k1 := h.tk.c1 i hi
  rw [← tx_at hi] at k1
  have tlt : tb < w.heap.size := World.block_lt_of_cell? _ _ k1
  have BX := bel1 w (.cells #[.slice none 0 0, .int .i64 0] 108)
  have k1' := (BX.cell (p := ⟨tb, o + i * 3 + 1, none⟩) tlt).trans k1
  have HMS : Hid (MS (bxT w) tb o (some ⟨tb, o, none⟩) ts) := h.below (bel1 _ _)
  have HI : Hid (i ≤ 1100) := hi9
  have hi2 := isC_lt p2
  have k2 := h.tk.c1 (i + 2) hi2
  rw [← tx_at hi2] at k2
  have k2' : (bxT w).cell? ⟨tb, o + ((i : Int) + 2).toNat * 3 + 1, none⟩ = some (.string (tx ts (i + 2))) := by
    rw [show ((i : Int) + 2).toNat = i + 2 by omega]
    exact (BX.cell (p := ⟨tb, o + (i + 2) * 3 + 1, none⟩) tlt).trans k2
  have HR : Hid (baseP false ts T i = some ([⟨4, tx ts i, tx ts (i + 2), []⟩], i + 3)) := by
    show _ = _
    unfold baseP
    rw [if_pos hc]
    have : pathP false ts i = some (tx ts i, tx ts (i + 2), i + 3) := by
      unfold pathP
      rw [p1, p2]; rfl
    rw [this]
  obtain ⟨nn, hnn⟩ : ∃ z, z = tx ts i := ⟨_, rfl⟩
  rw [← hnn] at k1'
  have HNN : Hid (tx ts i = nn) := hnn.symm
  obtain ⟨mm, hmm⟩ : ∃ z, z = tx ts (i + 2) := ⟨_, rfl⟩
  rw [← hmm] at k2'
  have HMM : Hid (tx ts (i + 2) = mm) := hmm.symm
  have htn : tb ≠ w.heap.size := by omega
  have hi3 : (i : Int) + 2 < (ts.length : Int) := by omega
  have hi4 : (0 : Int) ≤ (i : Int) + 2 := by omega
  have hi5 : (i : Int) < (ts.length : Int) := by omega
  have hi6 : (0 : Int) ≤ (i : Int) := by omega
  have wr2 : IntKind.i64.wrap ((i : Int) + 2) = (i : Int) + 2 := by rw [IntKind.wrap_i64]; omega
  have wr3 : IntKind.i64.wrap ((i : Int) + 3) = (i : Int) + 3 := by rw [IntKind.wrap_i64]; omega
  rw [← hnn] at k1
  rw [← hmm] at k2
  have HK : Hid (∀ (x y : Obj), ((w.alloc x).alloc y).drew.cell? ⟨tb, o + i * 3 + 1, none⟩ = some (.string nn) ∧ ((w.alloc x).alloc y).drew.cell? ⟨tb, o + ((i : Int) + 2).toNat * 3 + 1, none⟩ = some (.string mm)) := fun x y => by
    have B2 : Below w.heap.size w ((w.alloc x).alloc y) := (bel1 _ _).alloc (by simp) _
    rw [show ((i : Int) + 2).toNat = i + 2 by omega]
    exact ⟨(B2.cell (p := ⟨tb, o + i * 3 + 1, none⟩) tlt).trans k1, (B2.cell (p := ⟨tb, o + (i + 2) * 3 + 1, none⟩) tlt).trans k2⟩
  clear k1 k2 hct hnn hmm h
  go_enter Tryz.func71, Tryz.ntmps71
  go_wp2_with fail
  refine (m_isb HMS.out (i := i) (rfl) (l := sInt) q0 rfl (by decide)).mono ?_
  rintro e w' ⟨rfl, rfl⟩
  go_wp2_with fail
  refine (m_isb HMS.out (i := i) (rfl) (l := sBool) q1 rfl (by decide)).mono ?_
  rintro e w' ⟨rfl, rfl⟩
  go_wp2_with fail
  refine (m_isb HMS.out (i := i) (rfl) (l := sAny) q2 rfl (by decide)).mono ?_
  rintro e w' ⟨rfl, rfl⟩
  go_wp2_with fail
  refine (m_isN HMS.out (i := i) (rfl) hc).mono ?_
  rintro e w' ⟨rfl, rfl⟩
  go_wp2_with fail
  refine (m_isb HMS.out (i := i + 1) (by omega) (l := sColon) p1 rfl (by decide)).mono ?_
  rintro e w' ⟨rfl, rfl⟩
  go_wp2_with fail
  refine (m_isN HMS.out (i := i + 2) (by omega) p2).mono ?_
  rintro e w' ⟨rfl, rfl⟩
  go_wp2
  go_region_held3 (fun w' => w'.cell? ⟨tb, o + i * 3 + 1, none⟩ = some (.string nn) ∧ w'.cell? ⟨tb, o + ((i : Int) + 2).toNat * 3 + 1, none⟩ = some (.string mm)) (first | exact HK.out _ _ | go_keep) (fail)
  go_wp2
  have R := (row2 w (.slice (some ⟨w.heap.size + 1, 0, none⟩) 1 1) (.int .i64 ((i : Int) + 3)) 108).alloc (.cells #[.int .i64 4, .string nn, .string mm, .slice none 0 0] 120)
  have R := row_drew R
  have L := rt_lit (w.alloc (.cells #[.slice (some ⟨w.heap.size + 1, 0, none⟩) 1 1, .int .i64 ((i : Int) + 3)] 108)) (B := w.heap.size) (by simp) 4 nn mm
  simp only [World.size_alloc] at L
  refine bodyPost_ret (ret_ty (k := 4) rfl (R.cell (i := 0) (by omega)) (R.cell (i := 1) (by omega)) _ rfl) rfl ?_
  rw [HR.out, HNN.out, HMM.out]
  exact ⟨((bel1 _ _).alloc (by simp) _).drew, some ⟨w.heap.size + 1, 0, none⟩, 1, 1, _, _, rfl, by omega, L.drew, rfl⟩

end Go.Proofs.YtdjkgilohhjfoaaGreatDoor

namespace Go.Proofs.YtdjkgilohhjfoaaGreatDoor
open Go.RowKit

theorem box_ty {w w2 : World} {f : Nat → Value} (h : Below w.heap.size w w2) (R : w2.rowIs w.heap.size 108 2 f) (a b : Value) : Below w.heap.size w ((w2.setCell ⟨w.heap.size, 0, none⟩ a).setCell ⟨w.heap.size, 1, none⟩ b) ∧ ∀ B v xs, RT B w2 v xs → RT B ((w2.setCell ⟨w.heap.size, 0, none⟩ a).setCell ⟨w.heap.size, 1, none⟩ b) v xs :=
  ⟨below_box h a b, fun _ _ _ hx => hx.kp ((kp_set R 0 a).trans (kp_set (R.set 0 a) 1 b)) (by decide) (by decide)⟩
theorem box_ex {w w2 : World} {f : Nat → Value} (h : Below w.heap.size w w2) (R : w2.rowIs w.heap.size 111 2 f) (a b : Value) : Below w.heap.size w ((w2.setCell ⟨w.heap.size, 0, none⟩ a).setCell ⟨w.heap.size, 1, none⟩ b) ∧ ∀ B v xs, RE B w2 v xs → RE B ((w2.setCell ⟨w.heap.size, 0, none⟩ a).setCell ⟨w.heap.size, 1, none⟩ b) v xs :=
  ⟨below_box h a b, fun _ _ _ hx => hx.kp ((kp_set R 0 a).trans (kp_set (R.set 0 a) 1 b)) (by decide) (by decide) (by decide)⟩

set_option maxRecDepth 100000 in
set_option maxHeartbeats 1000000 in
theorem mb_brk {tb o c : Nat} {ao : Option Addr} {ts : List TK} {f : Nat} (IH : MTC tb o ts f) (w : World) (h : MS w tb o ao ts) {i : Nat} (hf : ts.length - i < f + 1) (hs : isT ts i sLeft = true) :
    Calls Tryz.prog 71 #[.slice ao ts.length c, .int .i64 (i : Int)] w (MTR w (baseP false ts (tyP false ts f) i)) := by
  have hi := isT_lt hs
  have hln := h.tk.len
  have hc : isC ts i 1 = false := by
    cases z : isC ts i 1 with
    | false => rfl
    | true => rw [isC_isT h.tk z (by decide)] at hs; cases hs
  have q0 : isT ts i sInt = false := isT_one hs (by decide)
  have q1 : isT ts i sBool = false := isT_one hs (by decide)
  have q2 : isT ts i sAny = false := isT_one hs (by decide)
  have q4 : isT ts i sOpen = false := isT_one hs (by decide)
  have HR0 : Hid (baseP false ts (tyP false ts f) i = brkP ts (tyP false ts f) (i + 1)) := by
    show _ = _
    unfold baseP
    rw [hc, if_neg (by decide), q0, if_neg (by decide), q1, if_neg (by decide), q2, if_neg (by decide), q4, if_neg (by decide), if_pos hs]
  have HMS : Hid (MS (bxT w) tb o ao ts) := h.below (bel1 _ _)
  have C : Hid (Calls Tryz.prog 63 #[.slice ao ts.length c, .int .i64 ((i : Int) + 1)] (bxT w) (MTR (bxT w) (tyP false ts f (i + 1)))) := IH _ _ _ _ _ HMS.out (by omega) (by omega) (by omega)
  have HFAR : Hid (Far ts.length (tyP false ts f)) := ty_far f
  clear h IH
  go_enter Tryz.func71, Tryz.ntmps71
  go_wp2_with fail
  refine (m_isb HMS.out (i := i) (rfl) (l := sInt) q0 rfl (by decide)).mono ?_
  rintro e w' ⟨rfl, rfl⟩
  go_wp2_with fail
  refine (m_isb HMS.out (i := i) (rfl) (l := sBool) q1 rfl (by decide)).mono ?_
  rintro e w' ⟨rfl, rfl⟩
  go_wp2_with fail
  refine (m_isb HMS.out (i := i) (rfl) (l := sAny) q2 rfl (by decide)).mono ?_
  rintro e w' ⟨rfl, rfl⟩
  go_wp2_with fail
  refine (m_isN HMS.out (i := i) (rfl) hc).mono ?_
  rintro e w' ⟨rfl, rfl⟩
  go_wp2_with fail
  refine (m_isb HMS.out (i := i) (rfl) (l := sLeft) hs rfl (by decide)).mono ?_
  rintro e w' ⟨rfl, rfl⟩
  go_wp2_with fail
  refine C.out.mono ?_
  rintro e w2 ⟨hb2, hr⟩
  have R2 := (row2 w (.slice none 0 0) (.int .i64 0) 108).of_block (hb2.block _ (by simp))
  have HB2 : Hid (Below w.heap.size w w2) := (bel1 _ _).trans (hb2.mono (by simp))
  have hws := HB2.out.size
  cases ht : tyP false ts f (i + 1) with
  | none =>
    rw [ht] at hr
    obtain ⟨va, n, c', rfl⟩ := hr
    have HR : Hid (baseP false ts (tyP false ts f) i = none) := by show _ = _; rw [HR0.out]; unfold brkP; rw [ht]
    have R3 := R2.alloc (.cells #[.slice va n c', .int .i64 (-1)] 108)
    have HB3 : Hid (Below w.heap.size w (w2.alloc (.cells #[.slice va n c', .int .i64 (-1)] 108))) := HB2.out.alloc hws _
    clear ht R2 hb2
    go_wp2_with fail
    refine (m_noType _).mono ?_
    rintro e w4 ⟨⟨va4, n4, c4, rfl⟩, hb4⟩
    have R := R3.of_block (hb4.out.block _ R3.lt)
    have d0 := R.cell (i := 0) (by omega)
    have d1 := R.cell (i := 1) (by omega)
    have z0 := R.frozen 0
    have z1 := R.frozen 1
    clear R3
    go_wp2
    have R2 := (R.set 0 (.slice va4 n4 c4)).set 1 (.int .i64 (-1))
    refine bodyPost_ret (ret_ty (k := 4) rfl (R2.cell (i := 0) (by omega)) (R2.cell (i := 1) (by omega)) _ rfl) rfl ?_
    rw [HR.out]
    exact ⟨below_box (HB3.out.trans (hb4.out.mono HB3.out.size)) _ _, va4, n4, c4, rfl⟩
  | some z =>
    obtain ⟨l, j⟩ := z
    rw [ht] at hr
    obtain ⟨va, n, c', k, zs, rfl, rfl, hrt, hzs⟩ := hr
    obtain ⟨far1, far2, far3⟩ := HFAR.out _ _ _ ht
    have R3 := R2.alloc (.cells #[.slice va n c', .int .i64 (j : Int)] 108)
    have HB3 : Hid (Below w.heap.size w (w2.alloc (.cells #[.slice va n c', .int .i64 (j : Int)] 108))) := HB2.out.alloc hws _
    have HM2 : Hid (MS (w2.alloc (.cells #[.slice va n c', .int .i64 (j : Int)] 108)) tb o ao ts) := (HMS.out.below hb2).below (bel1 _ _)
    have hj0 : ¬ (j : Int) < 0 := by omega
    have HRT : Hid (RT (bxT w).heap.size w2 (.slice va n c') zs) := hrt
    cases hr2 : isT ts j sRight with
    | false =>
      have HR : Hid (baseP false ts (tyP false ts f) i = none) := by show _ = _; rw [HR0.out]; unfold brkP; rw [ht]; show (if isT ts j sRight = true then _ else none) = _; rw [hr2]; rfl
      clear ht R2 hb2 hrt
      go_wp2_with fail
      refine (m_isb HM2.out (i := j) (rfl) (l := sRight) hr2 rfl (by decide)).mono ?_
      rintro e w' ⟨rfl, rfl⟩
      go_wp2_with fail
      refine (m_noType _).mono ?_
      rintro e w4 ⟨⟨va4, n4, c4, rfl⟩, hb4⟩
      have R := R3.of_block (hb4.out.block _ R3.lt)
      have d0 := R.cell (i := 0) (by omega)
      have d1 := R.cell (i := 1) (by omega)
      have z0 := R.frozen 0
      have z1 := R.frozen 1
      clear R3
      go_wp2
      have R2 := (R.set 0 (.slice va4 n4 c4)).set 1 (.int .i64 (-1))
      refine bodyPost_ret (ret_ty (k := 4) rfl (R2.cell (i := 0) (by omega)) (R2.cell (i := 1) (by omega)) _ rfl) rfl ?_
      rw [HR.out]
      exact ⟨below_box (HB3.out.trans (hb4.out.mono HB3.out.size)) _ _, va4, n4, c4, rfl⟩
    | true =>
      have HR : Hid (baseP false ts (tyP false ts f) i = some (l, j + 1)) := by show _ = _; rw [HR0.out]; unfold brkP; rw [ht]; show (if isT ts j sRight = true then _ else none) = _; rw [hr2]; rfl
      clear ht hb2 hrt
      have HR2 : Hid (w2.rowIs w.heap.size 108 2 (v2 (.slice none 0 0) (.int .i64 0))) := R2
      have x0 := R3.cell (i := 0) (by omega)
      have x1 := R3.cell (i := 1) (by omega)
      have y0 := R3.frozen 0
      have y1 := R3.frozen 1
      have xlt := R2.lt
      have R5 := R2.alloc (.cells #[.slice va n c', .int .i64 ((j : Int) + 1)] 108)
      have x0' := R5.cell (i := 0) (by omega)
      have x1' := R5.cell (i := 1) (by omega)
      have y0' := R5.frozen 0
      have y1' := R5.frozen 1
      have R7 := (R2.set 0 (.slice va n c')).alloc (.cells #[.slice va n c', .int .i64 ((j : Int) + 1)] 108)
      have x0'' := R7.cell (i := 0) (by omega)
      have x1'' := R7.cell (i := 1) (by omega)
      have y0'' := R7.frozen 0
      have y1'' := R7.frozen 1
      have R8 := ((R2.set 0 (.slice va n c')).set 1 (.int .i64 ((j : Int) + 1))).alloc (.cells #[.slice va n c', .int .i64 ((j : Int) + 1)] 108)
      clear R2 R3 R5 R7
      go_wp2_with fail
      refine (m_isb HM2.out (i := j) (rfl) (l := sRight) hr2 rfl (by decide)).mono ?_
      rintro e w' ⟨rfl, rfl⟩
      go_wp2
      refine bodyPost_ret (ret_ty (k := 4) rfl (R8.cell (i := 0) (by omega)) (R8.cell (i := 1) (by omega)) _ rfl) rfl ?_
      rw [HR.out]
      obtain ⟨W1, W2⟩ := box_ty HB2.out HR2.out (.slice va n c') (.int .i64 ((j : Int) + 1))
      exact ⟨W1.alloc W1.size _, va, n, c', (j : Int) + 1, zs, rfl, by omega, ((W2 _ _ _ HRT.out).below (bel1 _ _)).mono (by simp), hzs⟩

end Go.Proofs.YtdjkgilohhjfoaaGreatDoor

