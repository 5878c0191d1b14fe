/-
  Outcomes: the contracts of the functions that copy: the outcome.
-/
import Derived.Test.YtdolejkpnpchaaaDoorOutV
namespace Go.Proofs.YtdolejkpnpchaaaDoor
open Go.RowKit

def t7 (a b c d e f g : Value) : Nat → Value
  | 0 => a
  | 1 => b
  | 2 => c
  | 3 => d
  | 4 => e
  | 5 => f
  | _ => g
theorem rowt7 (w : World) (a b c d e f g : Value) (t : TypeId) : (w.alloc (.cells #[a, b, c, d, e, f, g] t)).rowIs w.heap.size t 7 (t7 a b c d e f g) :=
  World.rowIs_alloc w #[a, b, c, d, e, f, g] t _ (fun i hi => by
    match i, hi with
    | 0, _ => rfl
    | 1, _ => rfl
    | 2, _ => rfl
    | 3, _ => rfl
    | 4, _ => rfl
    | 5, _ => rfl
    | 6, _ => rfl)
theorem t7_all {F : Nat → Value} {a b c d e f g : Value} (h0 : F 0 = a) (h1 : F 1 = b) (h2 : F 2 = c) (h3 : F 3 = d) (h4 : F 4 = e) (h5 : F 5 = f) (h6 : F 6 = g) (i : Nat) (hi : i < 7) : F i = t7 a b c d e f g i := by
  match i, hi with
  | 0, _ => exact h0
  | 1, _ => exact h1
  | 2, _ => exact h2
  | 3, _ => exact h3
  | 4, _ => exact h4
  | 5, _ => exact h5
  | 6, _ => exact h6
theorem seven_at {w : World} {B : Nat} {t : TypeId} {a b c d e f g : Value} (h : w.rowIs B t 7 (t7 a b c d e f g)) :
    (w.cell? ⟨B, 0, none⟩ = some a ∧ w.cell? ⟨B, 1, none⟩ = some b ∧ w.cell? ⟨B, 2, none⟩ = some c ∧ w.cell? ⟨B, 3, none⟩ = some d ∧ w.cell? ⟨B, 4, none⟩ = some e ∧ w.cell? ⟨B, 5, none⟩ = some f ∧ w.cell? ⟨B, 6, none⟩ = some g) ∧ (w.frozen? ⟨B, 0, none⟩ = false ∧ w.frozen? ⟨B, 1, none⟩ = false ∧ w.frozen? ⟨B, 2, none⟩ = false ∧ w.frozen? ⟨B, 3, none⟩ = false ∧ w.frozen? ⟨B, 4, none⟩ = false ∧ w.frozen? ⟨B, 5, none⟩ = false ∧ w.frozen? ⟨B, 6, none⟩ = false) :=
  ⟨⟨h.cell (i := 0) (by omega), h.cell (i := 1) (by omega), h.cell (i := 2) (by omega), h.cell (i := 3) (by omega), h.cell (i := 4) (by omega), h.cell (i := 5) (by omega), h.cell (i := 6) (by omega)⟩, ⟨h.frozen _, h.frozen _, h.frozen _, h.frozen _, h.frozen _, h.frozen _, h.frozen _⟩⟩

theorem cell_set {w : World} {x a : Addr} {v u : Value} (h : w.cell? x = some u) (hb : x.block ≠ a.block) : (w.setCell a v).cell? x = some u := by
  rw [World.cell?_setCell_other _ _ _ _ (fun e => hb (by have := congrArg Addr.block e; first | exact this | exact this.symm))]; exact h
theorem AnsAt.set {W : World} {oa : Option Addr} {ga n : Nat} {A : Nat → AD} {P : Nat → Option Addr × Nat × Nat} (h : AnsAt W oa ga n A P) {a : Addr} (h1 : ga ≠ a.block) (h2 : ∀ i, i < n → (P i).2.1 ≠ a.block) (v : Value) : AnsAt (W.setCell a v) oa ga n A P :=
  ⟨h.here, fun i hi => cell_set (h.c0 i hi) h1, fun i hi => cell_set (h.c1 i hi) h1, fun i hi => cell_set (h.c2 i hi) h1, fun i hi => cell_set (h.c3 i hi) h1, fun i hi => cell_set (h.c4 i hi) h1, h.dh, fun i hi j hj => cell_set (h.d0 i hi j hj) (h2 i hi), fun i hi j hj => cell_set (h.d1 i hi j hj) (h2 i hi)⟩
theorem RanAt.set {W : World} {oa : Option Addr} {ga n : Nat} {R : Nat → RD} (h : RanAt W oa ga n R) {a : Addr} (h1 : ga ≠ a.block) (v : Value) : RanAt (W.setCell a v) oa ga n R :=
  ⟨h.here, fun i hi => cell_set (h.c0 i hi) h1, fun i hi => cell_set (h.c1 i hi) h1, fun i hi => cell_set (h.c2 i hi) h1, fun i hi => cell_set (h.c3 i hi) h1⟩

set_option maxRecDepth 100000 in
set_option maxHeartbeats 4000000 in
theorem t_outcome (code drops rev slots : Int) (oa : Option Addr) (ga a0 n ca : Nat) (A : Nat → AD) (P : Nat → DP) (orr : Option Addr) (gr r0 m cr : Nat) (R : Nat → RD) (ot : Option Addr) (bt o nt ct : Nat) (p : Nat → SP) (D : Nat → SD) (w : World) (hn : n ≤ 1048576) (hd : ∀ i, i < n → (A i).nd ≤ 1048576) (hm : m ≤ 1048576) (hnt : nt ≤ 1048576) (hG : ∀ i, i < nt → (D i).n ≤ 1048576) (h1 : AnsO w oa ga a0 n A P) (h3 : RanO w orr gr r0 m R) (h5 : SlotsAt w ot bt o nt p D) :
    Calls Tryd.prog 6 #[.agg #[.int .i64 code, .slice oa n ca, .slice orr m cr, .int .i64 drops, .int .i64 rev, .int .i64 slots, .slice ot nt ct]] w fun e w' => ∃ b1 b2 b3 q p', e = .returned (.agg #[.int .i64 code, .slice (some ⟨b1, 0, none⟩) n n, .slice (some ⟨b2, 0, none⟩) m m, .int .i64 drops, .int .i64 rev, .int .i64 slots, .slice (some ⟨b3, 0, none⟩) nt nt]) ∧ AnsAt w' (some ⟨b1, 0, none⟩) b1 n A (newP A q) ∧ RanAt w' (some ⟨b2, 0, none⟩) b2 m R ∧ SlotsAt w' (some ⟨b3, 0, none⟩) b3 0 nt p' D ∧ Below w.heap.size w w' := by
  have H1 : Hid (∀ W, Below w.heap.size w W → AnsO W oa ga a0 n A P) := fun W hW => h1.below hW
  have H3 : Hid (∀ W, Below w.heap.size w W → RanO W orr gr r0 m R) := fun W hW => h3.below hW
  have H5 : Hid (∀ W, Below w.heap.size w W → SlotsAt W ot bt o nt p D) := fun W hW => h5.below hW
  have HD : Hid (∀ i, i < n → (A i).nd ≤ 1048576) := hd
  have HG : Hid (∀ i, i < nt → (D i).n ≤ 1048576) := hG
  clear h1 h3 h5 hd hG
  go_enter Tryd.func6, Tryd.ntmps6
  go_wp2_with fail
  have BY := bel3 w (.cells #[.int .i64 code, .slice oa n ca, .slice orr m cr, .int .i64 drops, .int .i64 rev, .int .i64 slots, .slice ot nt ct] 28) (.cells #[.int .i64 0, .slice none 0 0, .slice none 0 0, .int .i64 0, .int .i64 0, .int .i64 0, .slice none 0 0] 37) (.cells #[.int .i64 code, .slice none 0 0, .slice none 0 0, .int .i64 0, .int .i64 0, .int .i64 0, .slice none 0 0] 37)
  have R1 := ((rowt7 w (.int .i64 code) (.slice oa n ca) (.slice orr m cr) (.int .i64 drops) (.int .i64 rev) (.int .i64 slots) (.slice ot nt ct) 28).alloc (.cells #[.int .i64 0, .slice none 0 0, .slice none 0 0, .int .i64 0, .int .i64 0, .int .i64 0, .slice none 0 0] 37)).alloc (.cells #[.int .i64 code, .slice none 0 0, .slice none 0 0, .int .i64 0, .int .i64 0, .int .i64 0, .slice none 0 0] 37)
  have R2 := (rowt7 (w.alloc (.cells #[.int .i64 code, .slice oa n ca, .slice orr m cr, .int .i64 drops, .int .i64 rev, .int .i64 slots, .slice ot nt ct] 28)) (.int .i64 0) (.slice none 0 0) (.slice none 0 0) (.int .i64 0) (.int .i64 0) (.int .i64 0) (.slice none 0 0) 37).alloc (.cells #[.int .i64 code, .slice none 0 0, .slice none 0 0, .int .i64 0, .int .i64 0, .int .i64 0, .slice none 0 0] 37)
  have R3 := rowt7 ((w.alloc (.cells #[.int .i64 code, .slice oa n ca, .slice orr m cr, .int .i64 drops, .int .i64 rev, .int .i64 slots, .slice ot nt ct] 28)).alloc (.cells #[.int .i64 0, .slice none 0 0, .slice none 0 0, .int .i64 0, .int .i64 0, .int .i64 0, .slice none 0 0] 37)) (.int .i64 code) (.slice none 0 0) (.slice none 0 0) (.int .i64 0) (.int .i64 0) (.int .i64 0) (.slice none 0 0) 37
  refine (t_answers oa ga a0 n ca A P _ hn HD.out (H1.out _ BY)).mono ?_
  rintro e w1 ⟨q, rfl, A1, hb1, hz1, hq1⟩
  have B1 := BY.trans (hb1.mono (by simp; omega))
  replace R1 := R1.of_block (hb1.block _ (by simp; omega))
  replace R2 := R2.of_block (hb1.block _ (by simp))
  replace R3 := R3.of_block (hb1.block _ (by simp))
  simp only [World.size_alloc] at R2 R3 A1 hz1 hq1
  obtain ⟨⟨x0, x1, x2, x3, x4, x5, x6⟩, _⟩ := seven_at R1
  obtain ⟨⟨y0, y1, y2, y3, y4, y5, y6⟩, ⟨z0, z1, z2, z3, z4, z5, z6⟩⟩ := seven_at R3
  have hs1 : w.heap.size + 1 + 1 < w1.heap.size := World.block_lt_of_cell? _ _ y0
  have N1 : ∀ i, i < n → (newP A q i).2.1 ≠ w.heap.size + 1 + 1 := fun i hi => by have := hq1 i hi; show q i ≠ _; omega
  have N1' : ∀ i, i < n → (newP A q i).2.1 ≠ w.heap.size + 1 := fun i hi => by have := hq1 i hi; show q i ≠ _; omega
  have V1 := B1.setCell (p := ⟨w.heap.size + 1 + 1, 1, none⟩) (by show w.heap.size ≤ w.heap.size + 1 + 1; omega) (.slice (some ⟨w.heap.size + 1 + 1 + 1, 0, none⟩) n n)
  have A1' := A1.set (a := ⟨w.heap.size + 1 + 1, 1, none⟩) (by show w.heap.size + 1 + 1 + 1 ≠ w.heap.size + 1 + 1; omega) N1 (.slice (some ⟨w.heap.size + 1 + 1 + 1, 0, none⟩) n n)
  have S1 := R1.setOther (a := ⟨w.heap.size + 1 + 1, 1, none⟩) (by show w.heap.size ≠ w.heap.size + 1 + 1; omega) (.slice (some ⟨w.heap.size + 1 + 1 + 1, 0, none⟩) n n)
  have S2 := R2.setOther (a := ⟨w.heap.size + 1 + 1, 1, none⟩) (by show w.heap.size + 1 ≠ w.heap.size + 1 + 1; omega) (.slice (some ⟨w.heap.size + 1 + 1 + 1, 0, none⟩) n n)
  have S3 := (R3.set 1 (.slice (some ⟨w.heap.size + 1 + 1 + 1, 0, none⟩) n n)).congr (t7_all (a := .int .i64 code) (b := .slice (some ⟨w.heap.size + 1 + 1 + 1, 0, none⟩) n n) (c := .slice none 0 0) (d := .int .i64 0) (e := .int .i64 0) (f := .int .i64 0) (g := .slice none 0 0) rfl rfl rfl rfl rfl rfl rfl)
  have HK := hid_of (And.intro A1' (And.intro V1 (And.intro S1 (And.intro S2 S3))))
  have HN := hid_of (And.intro N1 N1')
  have C2 := hid_of (t_rans orr gr r0 m cr R _ hm (H3.out _ V1))
  clear BY hb1 A1 B1 R1 R2 R3 V1 A1' S1 S2 S3 N1 N1'
  simp only [World.size_alloc]
  go_wp2_with fail
  refine C2.out.mono ?_
  rintro e w2 ⟨rfl, Q2, hb2, hz2⟩
  obtain ⟨A1, V1, S1, S2, S3⟩ := HK.out
  have A2 := A1.below hb2
  have V2 := V1.trans (hb2.mono V1.size)
  replace S1 := S1.of_block (hb2.block _ S1.lt)
  replace S2 := S2.of_block (hb2.block _ S2.lt)
  replace S3 := S3.of_block (hb2.block _ S3.lt)
  simp only [World.size_setCell] at Q2 hz2
  clear x0 x1 x2 x3 x4 x5 x6 y0 y1 y2 y3 y4 y5 y6 z0 z1 z2 z3 z4 z5 z6 A1 V1 hb2 C2 HK
  obtain ⟨⟨x0, x1, x2, x3, x4, x5, x6⟩, _⟩ := seven_at S1
  obtain ⟨⟨y0, y1, y2, y3, y4, y5, y6⟩, ⟨z0, z1, z2, z3, z4, z5, z6⟩⟩ := seven_at S3
  have HK2 := hid_of (And.intro A2 (And.intro V2 (And.intro S1 (And.intro S2 (And.intro S3 Q2)))))
  clear A2 V2 S1 S2 S3 Q2
  simp only [World.size_setCell]
  go_wp2_with fail
  obtain ⟨A2, V2, S1, S2, S3, Q2⟩ := HK2.out
  obtain ⟨N1, N1'⟩ := HN.out
  have ne1 : w.heap.size + 1 + 1 + 1 ≠ w.heap.size + 1 + 1 := by omega
  have ne2 : w1.heap.size ≠ w.heap.size + 1 + 1 := by omega
  have ne3 : w.heap.size ≠ w.heap.size + 1 + 1 := by omega
  have ne4 : w.heap.size + 1 ≠ w.heap.size + 1 + 1 := by omega
  have le1 : w.heap.size ≤ w.heap.size + 1 + 1 := by omega
  have A3 := ((((((((A2).set (a := ⟨w.heap.size + 1 + 1, 2, none⟩) ne1 N1 (.slice (some ⟨w1.heap.size, 0, none⟩) m m))).set (a := ⟨w.heap.size + 1 + 1, 3, none⟩) ne1 N1 (.int .i64 drops))).set (a := ⟨w.heap.size + 1 + 1, 4, none⟩) ne1 N1 (.int .i64 rev))).set (a := ⟨w.heap.size + 1 + 1, 5, none⟩) ne1 N1 (.int .i64 slots))
  have Q3 := ((((((((Q2).set (a := ⟨w.heap.size + 1 + 1, 2, none⟩) ne2 (.slice (some ⟨w1.heap.size, 0, none⟩) m m))).set (a := ⟨w.heap.size + 1 + 1, 3, none⟩) ne2 (.int .i64 drops))).set (a := ⟨w.heap.size + 1 + 1, 4, none⟩) ne2 (.int .i64 rev))).set (a := ⟨w.heap.size + 1 + 1, 5, none⟩) ne2 (.int .i64 slots))
  have V3 := ((((((((V2).setCell (p := ⟨w.heap.size + 1 + 1, 2, none⟩) le1 (.slice (some ⟨w1.heap.size, 0, none⟩) m m))).setCell (p := ⟨w.heap.size + 1 + 1, 3, none⟩) le1 (.int .i64 drops))).setCell (p := ⟨w.heap.size + 1 + 1, 4, none⟩) le1 (.int .i64 rev))).setCell (p := ⟨w.heap.size + 1 + 1, 5, none⟩) le1 (.int .i64 slots))
  have U1 := ((((((((S1).setOther (a := ⟨w.heap.size + 1 + 1, 2, none⟩) ne3 (.slice (some ⟨w1.heap.size, 0, none⟩) m m))).setOther (a := ⟨w.heap.size + 1 + 1, 3, none⟩) ne3 (.int .i64 drops))).setOther (a := ⟨w.heap.size + 1 + 1, 4, none⟩) ne3 (.int .i64 rev))).setOther (a := ⟨w.heap.size + 1 + 1, 5, none⟩) ne3 (.int .i64 slots))
  have U2 := ((((((((S2).setOther (a := ⟨w.heap.size + 1 + 1, 2, none⟩) ne4 (.slice (some ⟨w1.heap.size, 0, none⟩) m m))).setOther (a := ⟨w.heap.size + 1 + 1, 3, none⟩) ne4 (.int .i64 drops))).setOther (a := ⟨w.heap.size + 1 + 1, 4, none⟩) ne4 (.int .i64 rev))).setOther (a := ⟨w.heap.size + 1 + 1, 5, none⟩) ne4 (.int .i64 slots))
  have U3 := (((((((((S3).set 2 (.slice (some ⟨w1.heap.size, 0, none⟩) m m))).set 3 (.int .i64 drops))).set 4 (.int .i64 rev))).set 5 (.int .i64 slots))).congr (t7_all (a := .int .i64 code) (b := .slice (some ⟨w.heap.size + 1 + 1 + 1, 0, none⟩) n n) (c := .slice (some ⟨w1.heap.size, 0, none⟩) m m) (d := .int .i64 drops) (e := .int .i64 rev) (f := .int .i64 slots) (g := .slice none 0 0) rfl rfl rfl rfl rfl rfl rfl)
  refine (c8 ot bt o nt ct p D _ (H5.out _ V3) hnt HG.out).mono ?_
  rintro e w3 ⟨b3, p', rfl, T3, hb3, hz3, hp3⟩
  replace A3 := A3.below hb3
  replace Q3 := Q3.below hb3
  replace V3 := V3.trans (hb3.mono V3.size)
  replace U1 := U1.of_block (hb3.block _ U1.lt)
  replace U2 := U2.of_block (hb3.block _ U2.lt)
  replace U3 := U3.of_block (hb3.block _ U3.lt)
  simp only [World.size_setCell] at hz3
  clear x0 x1 x2 x3 x4 x5 x6 y0 y1 y2 y3 y4 y5 y6 z0 z1 z2 z3 z4 z5 z6 A2 V2 S1 S2 S3 Q2 hb3 HK2
  obtain ⟨⟨x0, x1, x2, x3, x4, x5, x6⟩, _⟩ := seven_at U1
  obtain ⟨⟨y0, y1, y2, y3, y4, y5, y6⟩, ⟨z0, z1, z2, z3, z4, z5, z6⟩⟩ := seven_at U3
  obtain ⟨⟨m0, m1, m2, m3, m4, m5, m6⟩, ⟨l0, l1, l2, l3, l4, l5, l6⟩⟩ := seven_at U2
  have hz4 : w.heap.size + 1 + 1 < b3 := by have h := World.block_lt_of_cell? _ _ y0; omega
  have M1 : ∀ i, i < nt → (p' i).b ≠ w.heap.size + 1 + 1 := fun i hi => by have := (hp3 i hi).1; omega
  have M2 : ∀ i, i < nt → (p' i).b ≠ w.heap.size + 1 := fun i hi => by have := (hp3 i hi).1; omega
  have HK3 := hid_of (And.intro A3 (And.intro Q3 (And.intro T3 V3)))
  have HM := hid_of (And.intro M1 (And.intro M2 (And.intro N1 N1')))
  clear A3 Q3 T3 V3 U1 U2 U3 hp3 M1 M2 N1 N1'
  go_wp2_with fail
  refine bodyPost_ret (v := .agg #[.int .i64 code, .slice (some ⟨w.heap.size + 1 + 1 + 1, 0, none⟩) n n, .slice (some ⟨w1.heap.size, 0, none⟩) m m, .int .i64 drops, .int .i64 rev, .int .i64 slots, .slice (some ⟨b3, 0, none⟩) nt nt]) (by simp [results, Tryd.results6, go_sem, m0, m1, m2, m3, m4, m5, m6]) rfl ⟨w.heap.size + 1 + 1 + 1, w1.heap.size, b3, q, p', rfl, ?_, ?_, ?_, ?_⟩
  · repeat' (first | with_reducible exact HK3.out.1 | refine AnsAt.set ?_ ?_ ?_ _)
    all_goals first | exact HM.out.2.2.1 | exact HM.out.2.2.2 | (simp; try omega)
  · repeat' (first | with_reducible exact HK3.out.2.1 | refine RanAt.set ?_ ?_ _)
    all_goals (simp; try omega)
  · repeat' (first | with_reducible exact HK3.out.2.2.1 | refine SlotsAt.set ?_ ?_ ?_ _)
    all_goals first | exact HM.out.1 | exact HM.out.2.1 | (simp; try omega)
  · repeat' (first | with_reducible exact HK3.out.2.2.2 | refine Below.setCell ?_ ?_ _)
    all_goals (simp; try omega)
end Go.Proofs.YtdolejkpnpchaaaDoor
