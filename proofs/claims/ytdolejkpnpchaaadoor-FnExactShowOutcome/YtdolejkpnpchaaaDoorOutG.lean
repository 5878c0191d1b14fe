/-
  Outcomes as text: the program's line of an answer.
-/
import Derived.Test.YtdolejkpnpchaaaDoorOutD
import Derived.Test.YtdolejkpnpchaaaDoorOutF
import Derived.Lib.AppendIntMem
namespace Go.Proofs.YtdolejkpnpchaaaDoor
open Go.RowKit

theorem grow_below (w : World) (k : Nat) (os : Array Obj) : Below w.heap.size w (Go.Sort.grow (w.drewN k) os) := by
  refine ⟨rfl, rfl, rfl, ?_, fun x hx => ?_⟩
  · show w.heap.size ≤ (w.heap ++ os).size
    simp
  · show (w.heap ++ os)[x]? = _
    exact Array.getElem?_append_left hx
/-- The table of tens stands. -/
def Ten (w : World) : Prop := Lib.TabIs Tryd.prog w "internal/strconv.uint64pow10" .u64 Lib.pow10Tab
theorem Ten.below {w w' : World} (h : Ten w) (hb : Below w.heap.size w w') : Ten w' := Lib.tabBelow_of_tabIs h w' hb
theorem p_itoa (n : Int) (h : i64R n) (w : World) (ht : Ten w) :
    Calls Tryd.prog 22 #[.int .i64 n] w fun e w' => e = .returned (.string (shw n)) ∧ Below w.heap.size w w' := by
  refine (Tryd.strconv_Itoa n h.1 h.2 w ht).mono ?_
  rintro e w' ⟨rfl, k, os, rfl⟩
  exact ⟨ret_s (itoa_shw n), grow_below w k os⟩
/-- Behind a world, at any draw. -/
theorem p_itoa_in {Y : World} {n : Int} (h : i64R n) (ht : Ten Y) (W : World) (hb : Below Y.heap.size Y W) (m : Nat) :
    Calls Tryd.prog 22 #[.int .i64 n] (W.drewN m) fun e w' => e = .returned (.string (shw n)) ∧ Below Y.heap.size Y w' := by
  have hb2 : Below Y.heap.size Y (W.drewN m) := ⟨hb.os, hb.tape, hb.output, hb.size, hb.block⟩
  refine (p_itoa n h (W.drewN m) (ht.below hb2)).mono ?_
  rintro e w' ⟨he, h2⟩
  exact ⟨he, hb2.trans (h2.mono hb2.size)⟩

/-- Texts in memory of one's own. -/
def OwnS (w : World) (base : Nat) (v : Value) (xs : List ByteArray) : Prop := w.ownsRow base 9 1 v xs.length (xs.map Value.string)
theorem Tryd.infoS : (Tryd.prog.info? 9).map (fun i => (i.zero, i.size, i.bytes)) = some (some (.string ⟨#[]⟩), 1, 16) := by kernel_rfl

/-- The line of an answer. -/
def lineA (a : AD) : ByteArray := ((ahead a ++ fullT a) ++ dgsT a.dg a.nd) ++ nl
/-- A finding as a word. -/
def dw (d : Int × Int) : ByteArray := (shw d.1 ++ ⟨#[58]⟩) ++ shw d.2
def dgl (dg : Nat → Int × Int) : Nat → List ByteArray
  | 0 => []
  | l + 1 => dgl dg l ++ [dw (dg l)]
theorem dgl_len (dg : Nat → Int × Int) : ∀ l, (dgl dg l).length = l
  | 0 => rfl
  | l + 1 => by show (dgl dg l ++ [dw (dg l)]).length = _; rw [List.length_append, dgl_len dg l]; rfl
theorem jnt_dgl (dg : Nat → Int × Int) : ∀ l, jnt (dgl dg l) = dgsT dg l
  | 0 => rfl
  | l + 1 => by
    show jnt (dgl dg l ++ [dw (dg l)]) = dgsT dg l ++ dgT (dg l)
    rw [jnt_app, jnt_dgl dg l]
    congr 1
    show (sp ++ dw (dg l)) ++ (⟨#[]⟩ : ByteArray) = _
    rw [app_nil']
    unfold dw dgT
    rw [ByteArray.append_assoc, ByteArray.append_assoc, ByteArray.append_assoc]
theorem jn_answer (a : AD) : jn (([⟨#[97, 110, 115, 119, 101, 114]⟩, shw a.call, a.name, shw a.rev] ++ (if a.full = true then [⟨#[102, 117, 108, 108]⟩] else [])) ++ dgl a.dg a.nd) = (ahead a ++ fullT a) ++ dgsT a.dg a.nd := by
  have e0 : jn [⟨#[97, 110, 115, 119, 101, 114]⟩, shw a.call, a.name, shw a.rev] = ahead a := by
    show (⟨#[97, 110, 115, 119, 101, 114]⟩ : ByteArray) ++ ((sp ++ shw a.call) ++ ((sp ++ a.name) ++ ((sp ++ shw a.rev) ++ (⟨#[]⟩ : ByteArray)))) = _
    unfold ahead
    have e : (⟨#[97, 110, 115, 119, 101, 114, 32]⟩ : ByteArray) = ⟨#[97, 110, 115, 119, 101, 114]⟩ ++ sp := by decide
    rw [e, app_nil']
    simp only [ByteArray.append_assoc]
  have e1 : jnt (if a.full = true then [⟨#[102, 117, 108, 108]⟩] else []) = fullT a := by
    unfold fullT
    cases a.full
    · rfl
    · decide
  rw [List.append_assoc]
  show jn ((⟨#[97, 110, 115, 119, 101, 114]⟩ :: [shw a.call, a.name, shw a.rev]) ++ _) = _
  rw [jn_app, jnt_app, e0, e1, jnt_dgl, ByteArray.append_assoc]
theorem own_bel {w w' : World} {base : Nat} {e : TypeId} {size : Nat} {v : Value} {n : Nat} {xs : List Value} (h : w.ownsRow base e size v n xs) (hb : Below w.heap.size w w') : w'.ownsRow base e size v n xs := by
  refine ⟨h.1, ?_⟩
  rcases h.2 with h2 | ⟨g, cap, cur, rfl, h1, h2, h3⟩
  · exact Or.inl h2
  · refine Or.inr ⟨g, cap, cur, rfl, h1, ?_, h3⟩
    rw [hb.block g ?_]; exact h2
    rcases Nat.lt_or_ge g w.heap.size with h' | h'
    · exact h'
    · rw [Array.getElem?_eq_none h'] at h2; simp at h2
theorem below_grownG {base : Nat} {w W W' : World} {v : Value} {e : TypeId} {size n : Nat} {xs : List Value} (hbw : base ≤ W.heap.size) (hb : Below base w W) (ho : W.ownsRow base e size v n xs) {o : Obj} (hg : (W.alloc o).grownBy W' v.ownBlock) : Below base w W' :=
  (hb.alloc hbw o).grown hg (by simp; omega) (fun k hk => (ho.lt k hk).1)
theorem box2 (w : World) (t : TypeId) (x y : Value) : (w.alloc (.cells #[x, y] t)).cell? ⟨w.heap.size, 0, none⟩ = some x ∧ (w.alloc (.cells #[x, y] t)).cell? ⟨w.heap.size, 1, none⟩ = some y := by
  have r : (w.alloc (.cells #[x, y] t)).rowIs w.heap.size t 2 (fun i => if i = 0 then x else y) := World.rowIs_alloc w #[x, y] t (fun i => if i = 0 then x else y) (fun i hi => by
    match i, hi with
    | 0, _ => rfl
    | 1, _ => rfl)
  exact ⟨r.cell (i := 0) (by omega), r.cell (i := 1) (by omega)⟩

set_option maxRecDepth 100000 in
set_option maxHeartbeats 4000000 in
theorem p_answer (a : AD) (oa : Option Addr) (gd cd : Nat) (w : World) (OK : AOk a) (dh : 0 < a.nd → oa = some ⟨gd, 0, none⟩) (d0 : ∀ j, j < a.nd → w.cell? ⟨gd, j * 2, none⟩ = some (.int .i64 (a.dg j).1)) (d1 : ∀ j, j < a.nd → w.cell? ⟨gd, j * 2 + 1, none⟩ = some (.int .i64 (a.dg j).2)) (ht : Ten w) :
    Calls Tryd.prog 19 #[.agg #[.int .i64 a.call, .string a.name, .int .i64 a.rev, .bool a.full, .slice oa a.nd cd]] w fun e w' => e = .returned (.string (lineA a)) ∧ Below w.heap.size w w' := by
  obtain ⟨call, hcall⟩ : ∃ z, z = a.call := ⟨_, rfl⟩
  obtain ⟨nm, hnm⟩ : ∃ z, z = a.name := ⟨_, rfl⟩
  obtain ⟨rv, hrv⟩ : ∃ z, z = a.rev := ⟨_, rfl⟩
  obtain ⟨fl, hfl⟩ : ∃ z, z = a.full := ⟨_, rfl⟩
  obtain ⟨nd, hnd⟩ : ∃ z, z = a.nd := ⟨_, rfl⟩
  obtain ⟨dg, hdg⟩ : ∃ z, z = a.dg := ⟨_, rfl⟩
  obtain ⟨bA, hbA⟩ : ∃ z, z = w.heap.size := ⟨_, rfl⟩
  obtain ⟨Y, hY⟩ : ∃ Y, Y = w.alloc (.cells #[.int .i64 call, .string nm, .int .i64 rv, .bool fl, .slice oa nd cd] 47) := ⟨_, rfl⟩
  have BX : Hid (Box5 Y bA call nm rv fl (.slice oa nd cd)) := by rw [hY, hbA]; exact box5 w _ _ _ _ _ _
  have hYs : Y.heap.size = bA + 1 := by rw [hY, hbA]; simp
  have BY : Hid (Below bA w Y) := by rw [hY, hbA]; exact (Below.refl _ _).alloc (Nat.le_refl _) _
  have TY : Hid (Ten Y) := ht.below (by rw [← hbA]; exact BY.out)
  have HBC : Hid (∀ W, Below (bA + 1) Y W → W.cell? ⟨bA, 0, none⟩ = some (.int .i64 call) ∧ W.cell? ⟨bA, 1, none⟩ = some (.string nm) ∧ W.cell? ⟨bA, 2, none⟩ = some (.int .i64 rv) ∧ W.cell? ⟨bA, 3, none⟩ = some (.bool fl) ∧ W.cell? ⟨bA, 4, none⟩ = some (.slice oa nd cd)) := fun W hW => BX.out.of_block (hW.block bA (Nat.lt_succ_self _))
  obtain ⟨sc, hsc⟩ : ∃ z, z = shw call := ⟨_, rfl⟩
  obtain ⟨sv, hsv⟩ : ∃ z, z = shw rv := ⟨_, rfl⟩
  have C1 : Hid (∀ W, Below (bA + 1) Y W → Calls Tryd.prog 22 #[.int .i64 call] W fun e w' => e = .returned (.string sc) ∧ Below (bA + 1) Y w') := fun W hW => by
    rw [← hYs] at hW
    rw [hsc, ← hYs]; exact p_itoa_in (by rw [hcall]; exact OK.call) TY.out W hW 0
  have C2 : Hid (∀ W, Below (bA + 1) Y W → Calls Tryd.prog 22 #[.int .i64 rv] W fun e w' => e = .returned (.string sv) ∧ Below (bA + 1) Y w') := fun W hW => by
    rw [← hYs] at hW
    rw [hsv, ← hYs]; exact p_itoa_in (by rw [hrv]; exact OK.rev) TY.out W hW 0
  have B0 : Below (bA + 1) Y Y := Below.refl _ _
  obtain ⟨LA, hLA⟩ : ∃ z, z = lineA a := ⟨_, rfl⟩
  have y0 := BX.out.1
  have y1 := BX.out.2.1
  have y2 := BX.out.2.2.1
  have y3 := BX.out.2.2.2.1
  have y4 := BX.out.2.2.2.2
  have HOK : Hid (AOk a) := OK
  have HD : Hid (call = a.call ∧ nm = a.name ∧ rv = a.rev ∧ fl = a.full ∧ nd = a.nd ∧ dg = a.dg ∧ sc = shw call ∧ sv = shw rv ∧ LA = lineA a) := ⟨hcall, hnm, hrv, hfl, hnd, hdg, hsc, hsv, hLA⟩
  have HG : Hid ((0 < nd → oa = some ⟨gd, 0, none⟩) ∧ (∀ j, j < nd → w.cell? ⟨gd, j * 2, none⟩ = some (.int .i64 (dg j).1)) ∧ (∀ j, j < nd → w.cell? ⟨gd, j * 2 + 1, none⟩ = some (.int .i64 (dg j).2))) := by rw [hnd, hdg]; exact ⟨dh, d0, d1⟩
  rw [← hcall, ← hnm, ← hrv, ← hfl, ← hnd, ← hLA]
  have HW : Hid (bA = w.heap.size) := hbA
  have z6 : nd ≤ 1048576 := by rw [hnd]; exact OK.nd
  clear hcall hnm hrv hfl hnd hdg hsc hsv hLA OK dh d0 d1 ht
  go_enter Tryd.func19, Tryd.ntmps19
  go_wp2_with fail
  rw [← hY, ← hbA]
  clear hY hbA
  go_region_held3 (fun w' => w'.cell? ⟨bA, 0, none⟩ = some (.int .i64 call) ∧ w'.cell? ⟨bA, 1, none⟩ = some (.string nm) ∧ w'.cell? ⟨bA, 2, none⟩ = some (.int .i64 rv)) (go_keep) (first
    | (go_at_call 22; refine (C1.out _ (by first | exact B0 | exact B0.drew)).mono ?_; rintro e w5 ⟨rfl, B5⟩; obtain ⟨q0, q1, q2, q3, q4⟩ := HBC.out w5 B5)
    | (go_at_call 22; refine (C2.out _ (by first | exact B5 | exact B5.drew)).mono ?_; rintro e w6 ⟨rfl, B6⟩; obtain ⟨p0, p1, p2, p3, p4⟩ := HBC.out w6 B6))
  obtain ⟨i0, hi0, hz0, hz1, hz2⟩ := info_parts5 Tryd.infoS
  obtain ⟨X0, hX0⟩ : ∃ X0 : List ByteArray, X0 = [⟨#[97, 110, 115, 119, 101, 114]⟩, sc, nm, sv] := ⟨_, rfl⟩
  obtain ⟨w7, hw7⟩ : ∃ w7, w7 = w6.alloc (.cells #[.string ⟨#[97, 110, 115, 119, 101, 114]⟩, .string sc, .string nm, .string sv] 9) := ⟨_, rfl⟩
  have hb6 : bA + 1 ≤ w6.heap.size := by rw [← hYs]; exact B6.size
  have O7 : Hid (OwnS w7 (bA + 1) (.slice (some ⟨w6.heap.size, 0, none⟩) 4 4) X0) := by
    rw [hw7, hX0]
    exact World.ownsRow_lit w6 #[.string ⟨#[97, 110, 115, 119, 101, 114]⟩, .string sc, .string nm, .string sv] 4 hb6 (by unfold maxLen; omega) rfl
  have B7 : Hid (Below (bA + 1) Y w7) := by rw [hw7]; exact B6.alloc hb6 _
  obtain ⟨g6, hg6⟩ : ∃ g6, g6 = w6.heap.size := ⟨_, rfl⟩
  have HX0 : Hid (X0 = [⟨#[97, 110, 115, 119, 101, 114]⟩, sc, nm, sv]) := hX0
  have hX0l : X0.length = 4 := by rw [hX0]; rfl
  rw [← hw7, ← hg6]
  rw [← hg6] at O7
  clear hw7 hg6 hX0 B6 B5 p0 p1 p2 p3 p4 q0 q1 q2 q3 q4 y0 y1 y2 y3 y4 C1 C2 B0 hb6
  obtain ⟨q0, q1, q2, q3, q4⟩ := HBC.out w7 B7.out
  clear q0 q1 q2
  obtain ⟨F0, hF0⟩ : ∃ F0 : List ByteArray, F0 = X0 ++ (if fl = true then [⟨#[102, 117, 108, 108]⟩] else []) := ⟨_, rfl⟩
  have HF0 : Hid (F0 = X0 ++ (if fl = true then [⟨#[102, 117, 108, 108]⟩] else [])) := hF0
  clear hF0
  have HJ : Hid (jn (F0 ++ dgl dg nd) = (ahead a ++ fullT a) ++ dgsT a.dg a.nd) := by
    obtain ⟨h1, h2, h3, h4, h5, h6, h7, h8, h9⟩ := HD.out
    show _ = _
    rw [HF0.out, HX0.out, h7, h8, h1, h2, h3, h4, h5, h6]
    exact jn_answer a
  have HJZ : Hid ((jn (F0 ++ dgl dg nd)).size ≤ 140000000000000) := by
    show _ ≤ _
    have k1 := ahead_size HOK.out.call HOK.out.rev HOK.out.name
    have k2 := fullT_size a
    have k3 := dgsT_size a.dg a.nd HOK.out.dg
    have k4 := HOK.out.nd
    rw [HJ.out, ByteArray.size_append, ByteArray.size_append]
    omega
  have HJL : Hid (jn (F0 ++ dgl dg nd) ++ nl = LA) := by
    show _ = _
    rw [HJ.out, HD.out.2.2.2.2.2.2.2.2]; rfl
  have HF4 : Hid (0 < (F0 ++ dgl dg nd).length ∧ (F0 ++ dgl dg nd).length ≤ 140737488355328) := by
    have e2 : X0.length = 4 := by rw [HX0.out]; rfl
    have e3 : (F0 ++ dgl dg nd).length = 4 + (if fl = true then [(⟨#[102, 117, 108, 108]⟩ : ByteArray)] else []).length + nd := by rw [List.length_append, HF0.out, List.length_append, e2, dgl_len]
    have e4 : (if fl = true then [(⟨#[102, 117, 108, 108]⟩ : ByteArray)] else []).length ≤ 1 := by cases fl <;> simp
    show _ ∧ _
    rw [e3]; omega
  have HGC : Hid (∀ W : World, Below (bA + 1) Y W → ∀ j, j < nd → W.cell? ⟨gd, j * 2, none⟩ = some (.int .i64 (dg j).1) ∧ W.cell? ⟨gd, j * 2 + 1, none⟩ = some (.int .i64 (dg j).2)) := fun W hW j hj => by
    have hb : Below w.heap.size w W := by rw [← HW.out]; exact BY.out.trans (hW.mono (Nat.le_succ _))
    exact ⟨cell_kept (HG.out.2.1 j hj) hb, cell_kept (HG.out.2.2 j hj) hb⟩
  have hF5 : F0.length ≤ 5 := by rw [HF0.out, List.length_append, hX0l]; cases fl <;> simp
  have hX4 : OwnS w7 (bA + 1) (.slice (some ⟨g6, 0, none⟩) 4 4) X0 → w7.ownsRow (bA + 1) 9 1 (.slice (some ⟨g6, 0, none⟩) 4 4) 4 (X0.map Value.string) := fun h => by unfold OwnS at h; rw [hX0l] at h; exact h
  have HO4 : Hid (w7.ownsRow (bA + 1) 9 1 (.slice (some ⟨g6, 0, none⟩) 4 4) 4 (X0.map Value.string)) := hX4 O7.out
  obtain ⟨L0, hL0⟩ : ∃ L0, L0 = X0.map Value.string := ⟨_, rfl⟩
  rw [← hL0] at HO4
  have HL0 : Hid (L0 = X0.map Value.string) := hL0
  have hs7 : bA + 1 ≤ w7.heap.size := by rw [← hYs]; exact B7.out.size
  clear hX4 hL0 hX0l
  have hcut : ∃ K0 : Nat, K0 = 0 := ⟨0, rfl⟩
  clear hcut
  cases fl
  · have O8 : Hid (OwnS w7 (bA + 1) (.slice (some ⟨g6, 0, none⟩) 4 4) (F0 ++ dgl dg 0)) := by
      have e : F0 ++ dgl dg 0 = X0 := by rw [HF0.out]; simp [dgl]
      rw [e]; exact O7.out
    clear HO4 O7
    go_wp2_with fail
    go_loopw [3, 23] (fun v i wi => ∃ l : Nat, l ≤ nd ∧ i = .int .i64 (l : Int) ∧ Hid (OwnS wi (bA + 1) v (F0 ++ dgl dg l)) ∧ Hid (Below (bA + 1) Y wi)) (fun _ i _ => nd - (intOf i).toNat)
    case atStart => exact ⟨0, Nat.zero_le _, rfl, O8, B7⟩
    case round =>
      clear O8 B7 q4
      try clear q3
      obtain ⟨l, hl, rfl, HO, HB⟩ := hrel
      by_cases hlt : l < nd
      · have e0 := HG.out.1 (by omega)
        subst e0
        obtain ⟨g0, g1⟩ := HGC.out wr HB.out l hlt
        have OKd := HOK.out.dg l (by rw [← HD.out.2.2.2.2.1]; exact hlt)
        rw [← HD.out.2.2.2.2.2.1] at OKd
        obtain ⟨x0, hx0⟩ : ∃ z, z = (dg l).1 := ⟨_, rfl⟩
        obtain ⟨x1, hx1⟩ : ∃ z, z = (dg l).2 := ⟨_, rfl⟩
        rw [← hx0] at g0 OKd
        rw [← hx1] at g1 OKd
        obtain ⟨s0, hs0⟩ : ∃ z, z = shw x0 := ⟨_, rfl⟩
        obtain ⟨s1, hs1⟩ : ∃ z, z = shw x1 := ⟨_, rfl⟩
        have r0 : s0.size ≤ 21 := by rw [hs0]; exact shw_size OKd.1
        have r1 : s1.size ≤ 21 := by rw [hs1]; exact shw_size OKd.2
        have r3 : (⟨#[58]⟩ : ByteArray).size = 1 := rfl
        have n1 : ¬ 9223372036854775807 < s0.size + 1 := by omega
        have n2 : ¬ 9223372036854775807 < s0.size + 1 + s1.size := by omega
        obtain ⟨bD, hbD⟩ : ∃ z, z = wr.heap.size := ⟨_, rfl⟩
        obtain ⟨Z, hZ⟩ : ∃ Z, Z = wr.alloc (.cells #[.int .i64 x0, .int .i64 x1] 51) := ⟨_, rfl⟩
        have hZs : Z.heap.size = bD + 1 := by rw [hZ, hbD]; simp
        have hbb : bA + 1 ≤ bD := by rw [hbD, ← hYs]; exact HB.out.size
        have BZ : Hid (Below (bA + 1) Y Z) := by rw [hZ]; exact HB.out.alloc (by rw [← hbD]; exact hbb) _
        have OZ : Hid (OwnS Z (bA + 1) u3 (F0 ++ dgl dg l)) := by rw [hZ]; exact HO.out.alloc _
        have NE : Hid (u3.ownBlock ≠ some bD) := fun h => by have := (HO.out.lt bD h).2; omega
        have BC : Hid (Z.cell? ⟨bD, 0, none⟩ = some (.int .i64 x0) ∧ Z.cell? ⟨bD, 1, none⟩ = some (.int .i64 x1)) := by rw [hZ, hbD]; exact box2 wr _ _ _
        have TZ : Ten Z := TY.out.below (by rw [hYs]; exact BZ.out)
        have BCW : Hid (∀ W, Below (bD + 1) Z W → W.cell? ⟨bD, 0, none⟩ = some (.int .i64 x0) ∧ W.cell? ⟨bD, 1, none⟩ = some (.int .i64 x1)) := fun W hW => ⟨(hW.cell (Nat.lt_succ_self bD)).trans BC.out.1, (hW.cell (Nat.lt_succ_self bD)).trans BC.out.2⟩
        have C3 : Hid (∀ W, Below (bD + 1) Z W → Calls Tryd.prog 22 #[.int .i64 x0] W fun e w' => e = .returned (.string s0) ∧ Below (bD + 1) Z w') := fun W hW => by
          rw [← hZs] at hW
          rw [hs0, ← hZs]; exact p_itoa_in OKd.1 TZ W hW 0
        have C4 : Hid (∀ W, Below (bD + 1) Z W → Calls Tryd.prog 22 #[.int .i64 x1] W fun e w' => e = .returned (.string s1) ∧ Below (bD + 1) Z w') := fun W hW => by
          rw [← hZs] at hW
          rw [hs1, ← hZs]; exact p_itoa_in OKd.2 TZ W hW 0
        have BZ0 : Below (bD + 1) Z Z := Below.refl _ _
        obtain ⟨ln, hln⟩ : ∃ ln, ln = (F0 ++ dgl dg l).length := ⟨_, rfl⟩
        obtain ⟨L, hL⟩ : ∃ L, L = (F0 ++ dgl dg l).map Value.string := ⟨_, rfl⟩
        obtain ⟨oS, cS, hv⟩ : ∃ oS cS, u3 = .slice oS ln cS := by
          rcases HO.out.2 with ⟨h1, h0⟩ | ⟨g, cap, _, h1, _⟩
          · exact ⟨none, 0, by rw [h1, hln, h0]⟩
          · exact ⟨_, cap, by rw [h1, hln]⟩
        have hlz : ln ≤ 1048581 := by rw [hln, List.length_append, dgl_len]; omega
        subst hv
        have OW : Hid (∀ W, Below (bD + 1) Z W → W.ownsRow (bA + 1) 9 1 (.slice oS ln cS) ln L) := fun W hW => by
          have := own_bel OZ.out (by rw [hZs]; exact hW)
          unfold OwnS at this
          rw [hln, hL]; rw [hln] at this; exact this
        have HNX : Hid (∀ (w3 : World) (v3 : Value), w3.ownsRow (bA + 1) 9 1 v3 (ln + 1) (L ++ [.string ((s0 ++ ⟨#[58]⟩) ++ s1)]) → OwnS w3 (bA + 1) v3 (F0 ++ dgl dg (l + 1))) := fun w3 v3 h => by
          have e : F0 ++ dgl dg (l + 1) = (F0 ++ dgl dg l) ++ [(s0 ++ ⟨#[58]⟩) ++ s1] := by
            rw [hs0, hs1, hx0, hx1, List.append_assoc]; rfl
          rw [e]; unfold OwnS
          rw [List.length_append, List.map_append, ← hln, ← hL]
          exact h
        have HBG : Hid (∀ (W W' : World) (o : Obj), Below (bD + 1) Z W → (W.alloc o).grownBy W' (Value.slice oS ln cS).ownBlock → Below (bA + 1) Y W' ∧ W'.cell? ⟨bD, 0, none⟩ = some (.int .i64 x0) ∧ W'.cell? ⟨bD, 1, none⟩ = some (.int .i64 x1)) := fun W W' o hW hg => by
          have hsz : bD + 1 ≤ W.heap.size := by rw [← hZs]; exact hW.size
          have hb := BZ.out.trans (hW.mono (by omega))
          have blk : W'.heap[bD]? = W.heap[bD]? := (hg.block bD (by simp; omega) (fun e => NE.out e.symm)).trans (Below.heap_alloc _ _ _ (by omega))
          obtain ⟨c0, c1⟩ := BCW.out W hW
          exact ⟨below_grownG (by omega) hb (OW.out W hW) hg, (World.cell?_of_block (a := ⟨bD, 0, none⟩) blk).trans c0, (World.cell?_of_block (a := ⟨bD, 1, none⟩) blk).trans c1⟩
        obtain ⟨y0, y1⟩ := BC.out
        have hml : ln + 1 ≤ maxLen := by unfold maxLen; omega
        have hby : (ln + 1) * 16 ≤ 140737488355328 := by omega
        clear hs0 hs1 hx0 hx1 hln hL OKd TZ BC HO HB
        go_upto_region 7 with fail
        rw [← hZ, ← hbD]
        clear hZ hbD
        go_region_held3 (fun w' => w'.cell? ⟨bD, 0, none⟩ = some (.int .i64 x0) ∧ w'.cell? ⟨bD, 1, none⟩ = some (.int .i64 x1)) (go_keep) (first
          | (go_at_call 22; refine (C3.out _ (by first | exact BZ0 | exact BZ0.drew)).mono ?_; rintro e w5 ⟨rfl, B5⟩; obtain ⟨a0, a1⟩ := BCW.out w5 B5)
          | (go_at_call 22; refine (C4.out _ (by first | exact B5 | exact B5.drew)).mono ?_; rintro e w6 ⟨rfl, B6⟩; obtain ⟨c0, c1⟩ := BCW.out w6 B6; have hs6 : bA + 1 ≤ w6.heap.size := (by have h := B6.size; omega))
          | (refine step_append_lies _ (by rfl) _ _ _ (by rfl) (bA + 1) 9 i0 _ 1 16 Tryd.underlying84 hi0 hz0 hz1 hz2 rfl (by omega) (.slice oS ln cS) ln L (by rfl) (by exact (OW.out w6 B6).alloc _) ⟨w6.heap.size, 0, none⟩ 1 1 [.string ((s0 ++ ⟨#[58]⟩) ++ s1)] (by rfl) (by rfl) (World.news_of_block (cs := #[.string ((s0 ++ ⟨#[58]⟩) ++ s1)]) (t := 9) (fr := (0, 0)) (heap_alloc_new w6 _)) (by simp [Value.oneCell']) (by omega) hml hby (by simp; omega) (w6.heap.size + 1) (by simp) ?_; intro gg cap5 w9 hown5 hg5 hat5 hlt5; obtain ⟨BF, e0, e1⟩ := HBG.out w6 w9 _ B6 hg5))
        all_goals
          have FIN : Hid (OwnS w9 (bA + 1) (.slice (some ⟨gg, 0, none⟩) (ln + 1) cap5) (F0 ++ dgl dg (l + 1)) ∧ Below (bA + 1) Y w9) := ⟨HNX.out _ _ hown5, BF⟩
          clear hown5 hg5 hat5 hlt5 e0 e1 c0 c1 a0 a1 B5 B6 BF C3 C4 HBG HNX OW BCW BZ0
          go_wp2
          go_roundw
          case rel => exact ⟨l + 1, by omega, by go_num, FIN.out.1, FIN.out.2⟩
          case measure => simp [RowKit.intOf]; omega
      · have e1 : l = nd := by omega
        subst e1
        obtain ⟨g, cap, hv, hcp, hgl, hcs⟩ : ∃ g cap, u3 = .slice (some ⟨g, 0, none⟩) (F0 ++ dgl dg l).length cap ∧ (F0 ++ dgl dg l).length ≤ cap ∧ g < wr.heap.size ∧ ∀ (j : Nat) x, (F0 ++ dgl dg l)[j]? = some x → wr.cell? ⟨g, j, none⟩ = some (.string x) := by
          rcases HO.out.2 with ⟨_, h0⟩ | ⟨g, cap, cur, h1, _, h2, h3, _⟩
          · exact absurd h0 (by have := HF4.out.1; omega)
          · refine ⟨g, cap, h1, h3, ?_, fun j x hx => ?_⟩
            · rcases Nat.lt_or_ge g wr.heap.size with h' | h'
              · exact h'
              · rw [Array.getElem?_eq_none h'] at h2; simp at h2
            · have h5 : wr.ownsRow (bA + 1) 9 1 (.slice (some ⟨g, 0, none⟩) (F0 ++ dgl dg l).length cap) (F0 ++ dgl dg l).length ((F0 ++ dgl dg l).map Value.string) := by
                have h6 := HO.out
                rw [h1] at h6
                exact h6
              obtain ⟨hj, _⟩ := List.getElem?_eq_some_iff.1 hx
              rw [h5.cellAt j (by omega), List.getElem?_map, hx]; rfl
        have CL := hid_of (p_line g cap (F0 ++ dgl dg l) wr hcs hgl hcp HF4.out.2 HJZ.out)
        rw [HJL.out] at CL
        obtain ⟨ln, hln⟩ : ∃ ln, ln = (F0 ++ dgl dg l).length := ⟨_, rfl⟩
        rw [← hln] at CL hv
        clear hln hcs hcp
        subst hv
        go_wp2_with (go_at_call 20; refine CL.out.mono ?_)
        rintro e w9 ⟨rfl, hb9⟩
        go_wp2
        go_ret
        refine ⟨rfl, ?_⟩
        rw [← HW.out]
        exact BY.out.trans ((HB.out.mono (Nat.le_succ _)).trans (hb9.mono (by have := HB.out.size; omega)))
  · go_wp2_with (at_builtin; refine wpList_append_lies _ rfl _ _ 84 rfl (bA + 1) 9 i0 _ 1 16 Tryd.underlying84 hi0 hz0 hz1 hz2 rfl (by omega) (.slice (some ⟨g6, 0, none⟩) 4 4) 4 L0 rfl (HO4.out.alloc _) ⟨w7.heap.size, 0, none⟩ 1 1 [.string ⟨#[102, 117, 108, 108]⟩] rfl rfl (World.news_of_block (cs := #[.string ⟨#[102, 117, 108, 108]⟩]) (t := 9) (fr := (0, 0)) (heap_alloc_new w7 _)) (by simp [Value.oneCell']) (by omega) (by unfold maxLen; omega) (by omega) (by simp; omega) (w7.heap.size + 1) (by simp) ?_; intro gg cap3 w8 hown3 hg3 hat hlt3; have q5 := (HBC.out w8 (below_grownG hs7 B7.out HO4.out hg3)).2.2.2.2)
    have O8 : Hid (OwnS w8 (bA + 1) (.slice (some ⟨gg, 0, none⟩) (4 + 1) cap3) (F0 ++ dgl dg 0)) := by
      have e : F0 ++ dgl dg 0 = X0 ++ [⟨#[102, 117, 108, 108]⟩] := by rw [HF0.out]; simp [dgl]
      have e2 : X0.length = 4 := by rw [HX0.out]; rfl
      rw [e]; unfold OwnS
      rw [List.length_append, e2, List.map_append, ← HL0.out]
      exact hown3
    have B8 : Hid (Below (bA + 1) Y w8) := below_grownG hs7 B7.out HO4.out hg3
    clear hown3 hg3 hat hlt3 HO4 O7 B7 q3 q4
    have q4 := q5
    have B7 := B8
    clear B8 q5
    go_loopw [3, 23] (fun v i wi => ∃ l : Nat, l ≤ nd ∧ i = .int .i64 (l : Int) ∧ Hid (OwnS wi (bA + 1) v (F0 ++ dgl dg l)) ∧ Hid (Below (bA + 1) Y wi)) (fun _ i _ => nd - (intOf i).toNat)
    case atStart => exact ⟨0, Nat.zero_le _, rfl, O8, B7⟩
    case round =>
      clear O8 B7 q4
      try clear q3
      obtain ⟨l, hl, rfl, HO, HB⟩ := hrel
      by_cases hlt : l < nd
      · have e0 := HG.out.1 (by omega)
        subst e0
        obtain ⟨g0, g1⟩ := HGC.out wr HB.out l hlt
        have OKd := HOK.out.dg l (by rw [← HD.out.2.2.2.2.1]; exact hlt)
        rw [← HD.out.2.2.2.2.2.1] at OKd
        obtain ⟨x0, hx0⟩ : ∃ z, z = (dg l).1 := ⟨_, rfl⟩
        obtain ⟨x1, hx1⟩ : ∃ z, z = (dg l).2 := ⟨_, rfl⟩
        rw [← hx0] at g0 OKd
        rw [← hx1] at g1 OKd
        obtain ⟨s0, hs0⟩ : ∃ z, z = shw x0 := ⟨_, rfl⟩
        obtain ⟨s1, hs1⟩ : ∃ z, z = shw x1 := ⟨_, rfl⟩
        have r0 : s0.size ≤ 21 := by rw [hs0]; exact shw_size OKd.1
        have r1 : s1.size ≤ 21 := by rw [hs1]; exact shw_size OKd.2
        have r3 : (⟨#[58]⟩ : ByteArray).size = 1 := rfl
        have n1 : ¬ 9223372036854775807 < s0.size + 1 := by omega
        have n2 : ¬ 9223372036854775807 < s0.size + 1 + s1.size := by omega
        obtain ⟨bD, hbD⟩ : ∃ z, z = wr.heap.size := ⟨_, rfl⟩
        obtain ⟨Z, hZ⟩ : ∃ Z, Z = wr.alloc (.cells #[.int .i64 x0, .int .i64 x1] 51) := ⟨_, rfl⟩
        have hZs : Z.heap.size = bD + 1 := by rw [hZ, hbD]; simp
        have hbb : bA + 1 ≤ bD := by rw [hbD, ← hYs]; exact HB.out.size
        have BZ : Hid (Below (bA + 1) Y Z) := by rw [hZ]; exact HB.out.alloc (by rw [← hbD]; exact hbb) _
        have OZ : Hid (OwnS Z (bA + 1) u3 (F0 ++ dgl dg l)) := by rw [hZ]; exact HO.out.alloc _
        have NE : Hid (u3.ownBlock ≠ some bD) := fun h => by have := (HO.out.lt bD h).2; omega
        have BC : Hid (Z.cell? ⟨bD, 0, none⟩ = some (.int .i64 x0) ∧ Z.cell? ⟨bD, 1, none⟩ = some (.int .i64 x1)) := by rw [hZ, hbD]; exact box2 wr _ _ _
        have TZ : Ten Z := TY.out.below (by rw [hYs]; exact BZ.out)
        have BCW : Hid (∀ W, Below (bD + 1) Z W → W.cell? ⟨bD, 0, none⟩ = some (.int .i64 x0) ∧ W.cell? ⟨bD, 1, none⟩ = some (.int .i64 x1)) := fun W hW => ⟨(hW.cell (Nat.lt_succ_self bD)).trans BC.out.1, (hW.cell (Nat.lt_succ_self bD)).trans BC.out.2⟩
        have C3 : Hid (∀ W, Below (bD + 1) Z W → Calls Tryd.prog 22 #[.int .i64 x0] W fun e w' => e = .returned (.string s0) ∧ Below (bD + 1) Z w') := fun W hW => by
          rw [← hZs] at hW
          rw [hs0, ← hZs]; exact p_itoa_in OKd.1 TZ W hW 0
        have C4 : Hid (∀ W, Below (bD + 1) Z W → Calls Tryd.prog 22 #[.int .i64 x1] W fun e w' => e = .returned (.string s1) ∧ Below (bD + 1) Z w') := fun W hW => by
          rw [← hZs] at hW
          rw [hs1, ← hZs]; exact p_itoa_in OKd.2 TZ W hW 0
        have BZ0 : Below (bD + 1) Z Z := Below.refl _ _
        obtain ⟨ln, hln⟩ : ∃ ln, ln = (F0 ++ dgl dg l).length := ⟨_, rfl⟩
        obtain ⟨L, hL⟩ : ∃ L, L = (F0 ++ dgl dg l).map Value.string := ⟨_, rfl⟩
        obtain ⟨oS, cS, hv⟩ : ∃ oS cS, u3 = .slice oS ln cS := by
          rcases HO.out.2 with ⟨h1, h0⟩ | ⟨g, cap, _, h1, _⟩
          · exact ⟨none, 0, by rw [h1, hln, h0]⟩
          · exact ⟨_, cap, by rw [h1, hln]⟩
        have hlz : ln ≤ 1048581 := by rw [hln, List.length_append, dgl_len]; omega
        subst hv
        have OW : Hid (∀ W, Below (bD + 1) Z W → W.ownsRow (bA + 1) 9 1 (.slice oS ln cS) ln L) := fun W hW => by
          have := own_bel OZ.out (by rw [hZs]; exact hW)
          unfold OwnS at this
          rw [hln, hL]; rw [hln] at this; exact this
        have HNX : Hid (∀ (w3 : World) (v3 : Value), w3.ownsRow (bA + 1) 9 1 v3 (ln + 1) (L ++ [.string ((s0 ++ ⟨#[58]⟩) ++ s1)]) → OwnS w3 (bA + 1) v3 (F0 ++ dgl dg (l + 1))) := fun w3 v3 h => by
          have e : F0 ++ dgl dg (l + 1) = (F0 ++ dgl dg l) ++ [(s0 ++ ⟨#[58]⟩) ++ s1] := by
            rw [hs0, hs1, hx0, hx1, List.append_assoc]; rfl
          rw [e]; unfold OwnS
          rw [List.length_append, List.map_append, ← hln, ← hL]
          exact h
        have HBG : Hid (∀ (W W' : World) (o : Obj), Below (bD + 1) Z W → (W.alloc o).grownBy W' (Value.slice oS ln cS).ownBlock → Below (bA + 1) Y W' ∧ W'.cell? ⟨bD, 0, none⟩ = some (.int .i64 x0) ∧ W'.cell? ⟨bD, 1, none⟩ = some (.int .i64 x1)) := fun W W' o hW hg => by
          have hsz : bD + 1 ≤ W.heap.size := by rw [← hZs]; exact hW.size
          have hb := BZ.out.trans (hW.mono (by omega))
          have blk : W'.heap[bD]? = W.heap[bD]? := (hg.block bD (by simp; omega) (fun e => NE.out e.symm)).trans (Below.heap_alloc _ _ _ (by omega))
          obtain ⟨c0, c1⟩ := BCW.out W hW
          exact ⟨below_grownG (by omega) hb (OW.out W hW) hg, (World.cell?_of_block (a := ⟨bD, 0, none⟩) blk).trans c0, (World.cell?_of_block (a := ⟨bD, 1, none⟩) blk).trans c1⟩
        obtain ⟨y0, y1⟩ := BC.out
        have hml : ln + 1 ≤ maxLen := by unfold maxLen; omega
        have hby : (ln + 1) * 16 ≤ 140737488355328 := by omega
        clear hs0 hs1 hx0 hx1 hln hL OKd TZ BC HO HB
        go_upto_region 7 with fail
        rw [← hZ, ← hbD]
        clear hZ hbD
        go_region_held3 (fun w' => w'.cell? ⟨bD, 0, none⟩ = some (.int .i64 x0) ∧ w'.cell? ⟨bD, 1, none⟩ = some (.int .i64 x1)) (go_keep) (first
          | (go_at_call 22; refine (C3.out _ (by first | exact BZ0 | exact BZ0.drew)).mono ?_; rintro e w5 ⟨rfl, B5⟩; obtain ⟨a0, a1⟩ := BCW.out w5 B5)
          | (go_at_call 22; refine (C4.out _ (by first | exact B5 | exact B5.drew)).mono ?_; rintro e w6 ⟨rfl, B6⟩; obtain ⟨c0, c1⟩ := BCW.out w6 B6; have hs6 : bA + 1 ≤ w6.heap.size := (by have h := B6.size; omega))
          | (refine step_append_lies _ (by rfl) _ _ _ (by rfl) (bA + 1) 9 i0 _ 1 16 Tryd.underlying84 hi0 hz0 hz1 hz2 rfl (by omega) (.slice oS ln cS) ln L (by rfl) (by exact (OW.out w6 B6).alloc _) ⟨w6.heap.size, 0, none⟩ 1 1 [.string ((s0 ++ ⟨#[58]⟩) ++ s1)] (by rfl) (by rfl) (World.news_of_block (cs := #[.string ((s0 ++ ⟨#[58]⟩) ++ s1)]) (t := 9) (fr := (0, 0)) (heap_alloc_new w6 _)) (by simp [Value.oneCell']) (by omega) hml hby (by simp; omega) (w6.heap.size + 1) (by simp) ?_; intro gg cap5 w9 hown5 hg5 hat5 hlt5; obtain ⟨BF, e0, e1⟩ := HBG.out w6 w9 _ B6 hg5))
        all_goals
          have FIN : Hid (OwnS w9 (bA + 1) (.slice (some ⟨gg, 0, none⟩) (ln + 1) cap5) (F0 ++ dgl dg (l + 1)) ∧ Below (bA + 1) Y w9) := ⟨HNX.out _ _ hown5, BF⟩
          clear hown5 hg5 hat5 hlt5 e0 e1 c0 c1 a0 a1 B5 B6 BF C3 C4 HBG HNX OW BCW BZ0
          go_wp2
          go_roundw
          case rel => exact ⟨l + 1, by omega, by go_num, FIN.out.1, FIN.out.2⟩
          case measure => simp [RowKit.intOf]; omega
      · have e1 : l = nd := by omega
        subst e1
        obtain ⟨g, cap, hv, hcp, hgl, hcs⟩ : ∃ g cap, u3 = .slice (some ⟨g, 0, none⟩) (F0 ++ dgl dg l).length cap ∧ (F0 ++ dgl dg l).length ≤ cap ∧ g < wr.heap.size ∧ ∀ (j : Nat) x, (F0 ++ dgl dg l)[j]? = some x → wr.cell? ⟨g, j, none⟩ = some (.string x) := by
          rcases HO.out.2 with ⟨_, h0⟩ | ⟨g, cap, cur, h1, _, h2, h3, _⟩
          · exact absurd h0 (by have := HF4.out.1; omega)
          · refine ⟨g, cap, h1, h3, ?_, fun j x hx => ?_⟩
            · rcases Nat.lt_or_ge g wr.heap.size with h' | h'
              · exact h'
              · rw [Array.getElem?_eq_none h'] at h2; simp at h2
            · have h5 : wr.ownsRow (bA + 1) 9 1 (.slice (some ⟨g, 0, none⟩) (F0 ++ dgl dg l).length cap) (F0 ++ dgl dg l).length ((F0 ++ dgl dg l).map Value.string) := by
                have h6 := HO.out
                rw [h1] at h6
                exact h6
              obtain ⟨hj, _⟩ := List.getElem?_eq_some_iff.1 hx
              rw [h5.cellAt j (by omega), List.getElem?_map, hx]; rfl
        have CL := hid_of (p_line g cap (F0 ++ dgl dg l) wr hcs hgl hcp HF4.out.2 HJZ.out)
        rw [HJL.out] at CL
        obtain ⟨ln, hln⟩ : ∃ ln, ln = (F0 ++ dgl dg l).length := ⟨_, rfl⟩
        rw [← hln] at CL hv
        clear hln hcs hcp
        subst hv
        go_wp2_with (go_at_call 20; refine CL.out.mono ?_)
        rintro e w9 ⟨rfl, hb9⟩
        go_wp2
        go_ret
        refine ⟨rfl, ?_⟩
        rw [← HW.out]
        exact BY.out.trans ((HB.out.mono (Nat.le_succ _)).trans (hb9.mono (by have := HB.out.size; omega)))
end Go.Proofs.YtdolejkpnpchaaaDoor
