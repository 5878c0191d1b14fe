/-
  Tables: a thing put behind the others.
-/
import Derived.Test.YtefplfcfoapnjaaTabO
import Derived.Deep.AppendLies
import Derived.Deep.RegionLaw
import Derived.Deep.RegionHeld
namespace Go.Proofs.Ytefplfcfoapnjaa
open Go.RowKit

theorem info_parts' {o : Option TypeInfo} {z : Value} {s b : Nat} (h : o.map (fun i => (i.zero, i.size, i.bytes)) = some (some z, s, b)) : ∃ i, o = some i ∧ i.zero = some z ∧ i.size = s ∧ i.bytes = b := by
  obtain ⟨i, hi, hzz⟩ := Option.map_eq_some_iff.1 h
  simp only [Prod.mk.injEq] at hzz
  exact ⟨i, hi, hzz.1, hzz.2.1, hzz.2.2⟩

set_option maxRecDepth 100000 in
set_option maxHeartbeats 4000000 in
theorem c53z (base lb : Nat) (sv : Value) (n : Nat) (p : Nat → SP) (D : Nat → SD) (w : World) (h : OS w base lb sv n p D) (hn : Hid (n = 0)) (hn2 : n ≤ 1048576) (hs : base ≤ w.heap.size) :
    Calls Try.prog 53 #[.pointer (some ⟨lb, 0, none⟩), edv (p n) (D n)] w fun e w' => e = .returned (.bool true) ∧ Kept (fun b => b < w.heap.size ∧ b ≠ lb ∧ some b ≠ sv.ownBlock) w w' ∧ ∃ sv', OS w' base lb sv' (n + 1) p D ∧ (sv'.ownBlock = sv.ownBlock ∨ ∃ g, sv'.ownBlock = some g ∧ w.heap.size ≤ g) := by
  unfold edv
  obtain ⟨oa, cap, rfl⟩ := own_form h.own
  have HH : Hid (OS w base lb (.slice oa n cap) n p D) := h
  have hR := h.row.alloc (.cells #[.int .i64 (D n).k, .string (D n).m, .int .i64 (D n).sin, .int .i64 (D n).own, .bool (D n).has, .string (D n).v, .slice (p n).a (D n).n (p n).c, .int .i64 (D n).ver, .int .i64 (D n).chg] 81)
  have c0 : (w.alloc (.cells #[.int .i64 (D n).k, .string (D n).m, .int .i64 (D n).sin, .int .i64 (D n).own, .bool (D n).has, .string (D n).v, .slice (p n).a (D n).n (p n).c, .int .i64 (D n).ver, .int .i64 (D n).chg] 81)).cell? ⟨lb, 0, none⟩ = some (.slice oa n cap) := hR.cell (i := 0) (by omega)
  have n0 : decide (0 < n) = false := decide_eq_false (by have := hn.out; omega)
  clear h hR
  go_enter Try.func53, Try.ntmps53
  go_wp2
  go_quiet (fail)
  go_wp2
  have BX0 : Hid (Below w.heap.size w ((w.alloc (.cells #[.int .i64 (D n).k, .string (D n).m, .int .i64 (D n).sin, .int .i64 (D n).own, .bool (D n).has, .string (D n).v, .slice (p n).a (D n).n (p n).c, .int .i64 (D n).ver, .int .i64 (D n).chg] 81)).drewN nq)) := below_drewN (bel1 _ _) _
  have rB : ((w.alloc (.cells #[.int .i64 (D n).k, .string (D n).m, .int .i64 (D n).sin, .int .i64 (D n).own, .bool (D n).has, .string (D n).v, .slice (p n).a (D n).n (p n).c, .int .i64 (D n).ver, .int .i64 (D n).chg] 81)).drewN nq).rowIs w.heap.size 81 9 (v9 (.int .i64 (D n).k) (.string (D n).m) (.int .i64 (D n).sin) (.int .i64 (D n).own) (.bool (D n).has) (.string (D n).v) (.slice (p n).a (D n).n (p n).c) (.int .i64 (D n).ver) (.int .i64 (D n).chg)) := row9 w (.int .i64 (D n).k) (.string (D n).m) (.int .i64 (D n).sin) (.int .i64 (D n).own) (.bool (D n).has) (.string (D n).v) (.slice (p n).a (D n).n (p n).c) (.int .i64 (D n).ver) (.int .i64 (D n).chg) 81
  obtain ⟨X, hX⟩ : ∃ X, X = (w.alloc (.cells #[.int .i64 (D n).k, .string (D n).m, .int .i64 (D n).sin, .int .i64 (D n).own, .bool (D n).has, .string (D n).v, .slice (p n).a (D n).n (p n).c, .int .i64 (D n).ver, .int .i64 (D n).chg] 81)).drewN nq := ⟨_, rfl⟩
  rw [← hX] at BX0 rB
  rw [← hX]
  have BX : Hid (Below w.heap.size w X) := BX0
  obtain ⟨e0, e1, e2, e3, e4, e5, e6, e7, e8⟩ := nine_cells rB
  have hwX : w.heap.size < X.heap.size := rB.lt
  clear hX BX0 rB c0
  obtain ⟨i0, hi0, hz0, hz1, hz2⟩ := info_parts' Try.info81
  have hsX := BX.out.size
  have hll := HH.out.row.lt
  have OWN : X.ownsRow base 81 9 (.slice oa n cap) n (ecells p D n) := (HH.out.below BX.out).own
  have r2 : X.rowIs lb 107 3 (v3 (.slice oa n cap) kf of_) := (HH.out.below BX.out).row
  have n1 : some lb ≠ (Value.slice oa n cap).ownBlock := HH.out.ne
  have d1 : X.cell? ⟨lb, 0, none⟩ = some (.slice oa n cap) := r2.cell (i := 0) (by omega)
  have d2 := r2.frozen 0
  have d1' : ((X.alloc (.cells #[.int .i64 (D n).k, .string (D n).m, .int .i64 (D n).sin, .int .i64 (D n).own, .bool (D n).has, .string (D n).v, .slice (p n).a (D n).n (p n).c, .int .i64 (D n).ver, .int .i64 (D n).chg] 81)).drew).cell? ⟨lb, 0, none⟩ = some (.slice oa n cap) := (r2.alloc (.cells #[.int .i64 (D n).k, .string (D n).m, .int .i64 (D n).sin, .int .i64 (D n).own, .bool (D n).has, .string (D n).v, .slice (p n).a (D n).n (p n).c, .int .i64 (D n).ver, .int .i64 (D n).chg] 81)).cell (i := 0) (by omega)
  have d2' : ((X.alloc (.cells #[.int .i64 (D n).k, .string (D n).m, .int .i64 (D n).sin, .int .i64 (D n).own, .bool (D n).has, .string (D n).v, .slice (p n).a (D n).n (p n).c, .int .i64 (D n).ver, .int .i64 (D n).chg] 81)).drew).frozen? ⟨lb, 0, none⟩ = false := (r2.alloc (.cells #[.int .i64 (D n).k, .string (D n).m, .int .i64 (D n).sin, .int .i64 (D n).own, .bool (D n).has, .string (D n).v, .slice (p n).a (D n).n (p n).c, .int .i64 (D n).ver, .int .i64 (D n).chg] 81)).frozen 0
  have hbs : base ≤ X.heap.size := by omega
  have hbb : (n + 1) * 104 ≤ 140737488355328 := by omega
  have hml2 : n + 1 ≤ maxLen := by unfold maxLen; omega
  have hll2 : lb < X.heap.size := by omega
  go_region_law (refine step_append_lies _ (by rfl) _ _ _ (by rfl) base 81 i0 _ 9 104 Try.underlying103 hi0 hz0 hz1 hz2 rfl (by omega) (.slice oa n cap) n (ecells p D n) (by rfl) ((OWN.alloc _).drew) ⟨X.heap.size, 0, none⟩ 1 1 (ec (p n) (D n)) (by rfl) (by rfl) (World.news_of_block (cs := #[.int .i64 (D n).k, .string (D n).m, .int .i64 (D n).sin, .int .i64 (D n).own, .bool (D n).has, .string (D n).v, .slice (p n).a (D n).n (p n).c, .int .i64 (D n).ver, .int .i64 (D n).chg]) (t := 81) (fr := (0, 0)) (heap_alloc_new X _)) (by simp [ec, Value.oneCell']) (by omega) hml2 hbb (by simp; omega) (X.heap.size + 1) (by simp) ?_; intro gg cap3 w3 hown3 hg3 hat hlt3; have f1 : w3.cell? ⟨lb, 0, none⟩ = some (.slice oa n cap) := (hg3.cell_far ⟨lb, 0, none⟩ (by simp; omega) n1).trans d1'; have f2 : w3.frozen? ⟨lb, 0, none⟩ = false := (hg3.frozen_far ⟨lb, 0, none⟩ (by simp; omega) n1).trans d2')
  all_goals
    have FIN : Hid (_ ∧ _) := os_step HH.out BX.out hown3 hg3 hat
    clear hown3 hg3 hat f1 f2 d1 d2 d1' d2' OWN r2 e0 e1 e2 e3 e4 e5 e6 e7 e8
    go_wp2
    go_ret
    exact ⟨rfl, FIN.out⟩

/-- What putLast gives. -/
def PlPost (w : World) (base lb n : Nat) (p : Nat → SP) (D : Nat → SD) (sv : Value) (r : Int) (e : Ending) (w' : World) : Prop :=
  e = .returned (.bool (decide (r < 0))) ∧ Kept (fun b => b < w.heap.size ∧ b ≠ lb ∧ some b ≠ sv.ownBlock) w w' ∧ (r < 0 → ∃ sv', OS w' base lb sv' (n + 1) p D ∧ (sv'.ownBlock = sv.ownBlock ∨ ∃ g, sv'.ownBlock = some g ∧ w.heap.size ≤ g))

/-- What the region of the comparison reads. -/
def Reads (w W : World) (lb g n q cap : Nat) (p : Nat → SP) (D : Nat → SD) : Prop :=
  W.cell? ⟨lb, 0, none⟩ = some (.slice (some ⟨g, 0, none⟩) n cap) ∧ W.cell? ⟨lb, 1, none⟩ = some kf ∧ W.cell? ⟨lb, 2, none⟩ = some of_ ∧ W.cell? ⟨g, q * 9, none⟩ = some (.int .i64 (D q).k) ∧ W.cell? ⟨g, q * 9 + 1, none⟩ = some (.string (D q).m) ∧ W.cell? ⟨g, q * 9 + 2, none⟩ = some (.int .i64 (D q).sin) ∧ W.cell? ⟨g, q * 9 + 3, none⟩ = some (.int .i64 (D q).own) ∧ W.cell? ⟨g, q * 9 + 4, none⟩ = some (.bool (D q).has) ∧ W.cell? ⟨g, q * 9 + 5, none⟩ = some (.string (D q).v) ∧ W.cell? ⟨g, q * 9 + 6, none⟩ = some (.slice (p q).a (D q).n (p q).c) ∧ W.cell? ⟨g, q * 9 + 7, none⟩ = some (.int .i64 (D q).ver) ∧ W.cell? ⟨g, q * 9 + 8, none⟩ = some (.int .i64 (D q).chg) ∧ W.cell? ⟨w.heap.size, 0, none⟩ = some (.int .i64 (D n).k) ∧ W.cell? ⟨w.heap.size, 1, none⟩ = some (.string (D n).m) ∧ W.cell? ⟨w.heap.size, 2, none⟩ = some (.int .i64 (D n).sin) ∧ W.cell? ⟨w.heap.size, 3, none⟩ = some (.int .i64 (D n).own) ∧ W.cell? ⟨w.heap.size, 4, none⟩ = some (.bool (D n).has) ∧ W.cell? ⟨w.heap.size, 5, none⟩ = some (.string (D n).v) ∧ W.cell? ⟨w.heap.size, 6, none⟩ = some (.slice (p n).a (D n).n (p n).c) ∧ W.cell? ⟨w.heap.size, 7, none⟩ = some (.int .i64 (D n).ver) ∧ W.cell? ⟨w.heap.size, 8, none⟩ = some (.int .i64 (D n).chg)

theorem reads_of {w W : World} {base lb g n q cap : Nat} {p : Nat → SP} {D : Nat → SD} (h : OS w base lb (.slice (some ⟨g, 0, none⟩) n cap) n p D) (hq : q < n) (hb : Below (w.alloc (.cells #[.int .i64 (D n).k, .string (D n).m, .int .i64 (D n).sin, .int .i64 (D n).own, .bool (D n).has, .string (D n).v, .slice (p n).a (D n).n (p n).c, .int .i64 (D n).ver, .int .i64 (D n).chg] 81)).heap.size (w.alloc (.cells #[.int .i64 (D n).k, .string (D n).m, .int .i64 (D n).sin, .int .i64 (D n).own, .bool (D n).has, .string (D n).v, .slice (p n).a (D n).n (p n).c, .int .i64 (D n).ver, .int .i64 (D n).chg] 81)) W) : Reads w W lb g n q cap p D := by
  have hB : Below w.heap.size w W := (bel1 w _).trans (hb.mono (by simp))
  have h2 := h.below hB
  obtain ⟨g0, g1, g2, g3, g4, g5, g6, g7, g8⟩ := nine_ec h2.own q hq
  obtain ⟨b0, b1, b2, b3, b4, b5, b6, b7, b8⟩ := nine_cells ((row9 w (.int .i64 (D n).k) (.string (D n).m) (.int .i64 (D n).sin) (.int .i64 (D n).own) (.bool (D n).has) (.string (D n).v) (.slice (p n).a (D n).n (p n).c) (.int .i64 (D n).ver) (.int .i64 (D n).chg) 81).of_block (hb.block _ (by simp)))
  exact ⟨h2.row.cell (i := 0) (by omega), h2.row.cell (i := 1) (by omega), h2.row.cell (i := 2) (by omega), g0, g1, g2, g3, g4, g5, g6, g7, g8, b0, b1, b2, b3, b4, b5, b6, b7, b8⟩

set_option maxRecDepth 100000 in
set_option maxHeartbeats 8000000 in
theorem c53s (base lb : Nat) (sv : Value) (n q : Nat) (p : Nat → SP) (D : Nat → SD) (w : World) (h : OS w base lb sv n p D) (hn : Hid (n = q + 1)) (hn2 : n ≤ 1048576) (hs : base ≤ w.heap.size) :
    Calls Try.prog 53 #[.pointer (some ⟨lb, 0, none⟩), edv (p n) (D n)] w fun e w' => PlPost w base lb n p D sv (ck (D q).k (D q).m (D n).k (D n).m) e w' := by
  unfold edv
  obtain ⟨g, cap, rfl⟩ := h.some (by have := hn.out; omega)
  have HH : Hid (OS w base lb (.slice (some ⟨g, 0, none⟩) n cap) n p D) := h
  obtain ⟨oa, hoa⟩ : ∃ oa : Option Addr, oa = some ⟨g, 0, none⟩ := ⟨_, rfl⟩
  have HZ : Hid (∀ W, Below (w.alloc (.cells #[.int .i64 (D n).k, .string (D n).m, .int .i64 (D n).sin, .int .i64 (D n).own, .bool (D n).has, .string (D n).v, .slice (p n).a (D n).n (p n).c, .int .i64 (D n).ver, .int .i64 (D n).chg] 81)).heap.size (w.alloc (.cells #[.int .i64 (D n).k, .string (D n).m, .int .i64 (D n).sin, .int .i64 (D n).own, .bool (D n).has, .string (D n).v, .slice (p n).a (D n).n (p n).c, .int .i64 (D n).ver, .int .i64 (D n).chg] 81)) W → Reads w W lb g n q cap p D) := fun W hW => reads_of h (by have := hn.out; omega) hW
  have hz : w.heap.size < (w.alloc (.cells #[.int .i64 (D n).k, .string (D n).m, .int .i64 (D n).sin, .int .i64 (D n).own, .bool (D n).has, .string (D n).v, .slice (p n).a (D n).n (p n).c, .int .i64 (D n).ver, .int .i64 (D n).chg] 81)).heap.size := by simp
  have HXB : Hid (Below w.heap.size w (w.alloc (.cells #[.int .i64 (D n).k, .string (D n).m, .int .i64 (D n).sin, .int .i64 (D n).own, .bool (D n).has, .string (D n).v, .slice (p n).a (D n).n (p n).c, .int .i64 (D n).ver, .int .i64 (D n).chg] 81))) := bel1 _ _
  have R0 := HZ.out _ (Below.refl _ _)
  obtain ⟨r, hr⟩ : ∃ r, r = ck (D q).k (D q).m (D n).k (D n).m := ⟨_, rfl⟩
  rw [← hr]
  have CA : Hid (∀ W, Calls Try.prog 70 #[.agg #[.int .i64 (D q).k, .string (D q).m, .int .i64 (D q).sin, .int .i64 (D q).own, .bool (D q).has, .string (D q).v, .slice (p q).a (D q).n (p q).c, .int .i64 (D q).ver, .int .i64 (D q).chg]] W fun e w' => e = .returned (.agg #[.int .i64 (D q).k, .string (D q).m]) ∧ Below W.heap.size W w') := fun W => c70 _ _ _ _ _ _ _ _ _ _ _ W
  have CB : Hid (∀ W, Calls Try.prog 70 #[.agg #[.int .i64 (D n).k, .string (D n).m, .int .i64 (D n).sin, .int .i64 (D n).own, .bool (D n).has, .string (D n).v, .slice (p n).a (D n).n (p n).c, .int .i64 (D n).ver, .int .i64 (D n).chg]] W fun e w' => e = .returned (.agg #[.int .i64 (D n).k, .string (D n).m]) ∧ Below W.heap.size W w') := fun W => c70 _ _ _ _ _ _ _ _ _ _ _ W
  have CC : Hid (∀ W, Calls Try.prog 71 #[.agg #[.int .i64 (D q).k, .string (D q).m], .agg #[.int .i64 (D n).k, .string (D n).m]] W fun e w' => e = .returned (.int .i64 r) ∧ Below W.heap.size W w') := fun W => by rw [hr]; exact c71 _ _ _ _ W
  have n0 : 0 < n := by have := hn.out; omega
  have hw1 : IntKind.i64.wrap ((n : Int) - 1) = (q : Int) := by have := hn.out; rw [IntKind.wrap_i64]; omega
  have hq1 : (q : Int) < (n : Int) := by have := hn.out; omega
  have hq2 : (0 : Int) ≤ (q : Int) := by omega
  have l0 : (w.alloc (.cells #[.int .i64 (D n).k, .string (D n).m, .int .i64 (D n).sin, .int .i64 (D n).own, .bool (D n).has, .string (D n).v, .slice (p n).a (D n).n (p n).c, .int .i64 (D n).ver, .int .i64 (D n).chg] 81)).cell? ⟨lb, 0, none⟩ = some (.slice (some ⟨g, 0, none⟩) n cap) := R0.1
  have HR0 : Hid (Reads w (w.alloc (.cells #[.int .i64 (D n).k, .string (D n).m, .int .i64 (D n).sin, .int .i64 (D n).own, .bool (D n).has, .string (D n).v, .slice (p n).a (D n).n (p n).c, .int .i64 (D n).ver, .int .i64 (D n).chg] 81)) lb g n q cap p D) := R0
  clear h hr hoa R0 oa
  go_enter Try.func53, Try.ntmps53
  go_wp2_with (fail)
  clear l0
  obtain ⟨WX, hWX⟩ : ∃ WX, WX = w.alloc (.cells #[.int .i64 (D n).k, .string (D n).m, .int .i64 (D n).sin, .int .i64 (D n).own, .bool (D n).has, .string (D n).v, .slice (p n).a (D n).n (p n).c, .int .i64 (D n).ver, .int .i64 (D n).chg] 81) := ⟨_, rfl⟩
  rw [← hWX] at HZ hz HXB HR0
  rw [← hWX]
  have R0 := HR0.out
  unfold Reads at R0
  obtain ⟨l0, l1, l2, g0, g1, g2, g3, g4, g5, g6, g7, g8, b0, b1, b2, b3, b4, b5, b6, b7, b8⟩ := R0
  clear hWX HR0
  have CA' : Hid (∀ W, Below WX.heap.size WX W → Calls Try.prog 70 #[.agg #[.int .i64 (D q).k, .string (D q).m, .int .i64 (D q).sin, .int .i64 (D q).own, .bool (D q).has, .string (D q).v, .slice (p q).a (D q).n (p q).c, .int .i64 (D q).ver, .int .i64 (D q).chg]] W fun e w' => e = .returned (.agg #[.int .i64 (D q).k, .string (D q).m]) ∧ Hid (Below WX.heap.size WX w')) := fun W hW => (CA.out W).mono fun e w' ⟨he, hb⟩ => ⟨he, hW.trans (hb.mono hW.size)⟩
  have CB' : Hid (∀ W, Hid (Below WX.heap.size WX W) → Calls Try.prog 70 #[.agg #[.int .i64 (D n).k, .string (D n).m, .int .i64 (D n).sin, .int .i64 (D n).own, .bool (D n).has, .string (D n).v, .slice (p n).a (D n).n (p n).c, .int .i64 (D n).ver, .int .i64 (D n).chg]] W fun e w' => e = .returned (.agg #[.int .i64 (D n).k, .string (D n).m]) ∧ Hid (Below WX.heap.size WX w')) := fun W hW => (CB.out W).mono fun e w' ⟨he, hb⟩ => ⟨he, hW.out.trans (hb.mono hW.out.size)⟩
  have CC' : Hid (∀ W, Hid (Below WX.heap.size WX W) → Calls Try.prog 71 #[.agg #[.int .i64 (D q).k, .string (D q).m], .agg #[.int .i64 (D n).k, .string (D n).m]] W fun e w' => e = .returned (.int .i64 r) ∧ Hid (Below WX.heap.size WX w')) := fun W hW => (CC.out W).mono fun e w' ⟨he, hb⟩ => ⟨he, hW.out.trans (hb.mono hW.out.size)⟩
  clear CA CB CC
  go_region_held3 (fun w' => w'.cell? ⟨lb, 0, none⟩ = some (.slice (some ⟨g, 0, none⟩) n cap) ∧ w'.cell? ⟨lb, 1, none⟩ = some kf ∧ w'.cell? ⟨lb, 2, none⟩ = some of_ ∧ w'.cell? ⟨g, q * 9, none⟩ = some (.int .i64 (D q).k) ∧ w'.cell? ⟨g, q * 9 + 1, none⟩ = some (.string (D q).m) ∧ w'.cell? ⟨g, q * 9 + 2, none⟩ = some (.int .i64 (D q).sin) ∧ w'.cell? ⟨g, q * 9 + 3, none⟩ = some (.int .i64 (D q).own) ∧ w'.cell? ⟨g, q * 9 + 4, none⟩ = some (.bool (D q).has) ∧ w'.cell? ⟨g, q * 9 + 5, none⟩ = some (.string (D q).v) ∧ w'.cell? ⟨g, q * 9 + 6, none⟩ = some (.slice (p q).a (D q).n (p q).c) ∧ w'.cell? ⟨g, q * 9 + 7, none⟩ = some (.int .i64 (D q).ver) ∧ w'.cell? ⟨g, q * 9 + 8, none⟩ = some (.int .i64 (D q).chg) ∧ w'.cell? ⟨w.heap.size, 0, none⟩ = some (.int .i64 (D n).k) ∧ w'.cell? ⟨w.heap.size, 1, none⟩ = some (.string (D n).m) ∧ w'.cell? ⟨w.heap.size, 2, none⟩ = some (.int .i64 (D n).sin) ∧ w'.cell? ⟨w.heap.size, 3, none⟩ = some (.int .i64 (D n).own) ∧ w'.cell? ⟨w.heap.size, 4, none⟩ = some (.bool (D n).has) ∧ w'.cell? ⟨w.heap.size, 5, none⟩ = some (.string (D n).v) ∧ w'.cell? ⟨w.heap.size, 6, none⟩ = some (.slice (p n).a (D n).n (p n).c) ∧ w'.cell? ⟨w.heap.size, 7, none⟩ = some (.int .i64 (D n).ver) ∧ w'.cell? ⟨w.heap.size, 8, none⟩ = some (.int .i64 (D n).chg)) (go_keep)
    (first
      | (go_at_call 70; first | ((with_reducible refine (CA'.out _ (Below.refl _ _).drew).mono ?_); rintro e w3 ⟨rfl, H3⟩; obtain ⟨l0x, l1x, l2x, g0x, g1x, g2x, g3x, g4x, g5x, g6x, g7x, g8x, b0x, b1x, b2x, b3x, b4x, b5x, b6x, b7x, b8x⟩ := HZ.out w3 H3.out) | ((with_reducible refine (CB'.out _ H3).mono ?_); rintro e w4 ⟨rfl, H4⟩; obtain ⟨l0y, l1y, l2y, g0y, g1y, g2y, g3y, g4y, g5y, g6y, g7y, g8y, b0y, b1y, b2y, b3y, b4y, b5y, b6y, b7y, b8y⟩ := HZ.out w4 H4.out))
      | (go_at_call 71; (with_reducible refine (CC'.out _ H4).mono ?_); rintro e w5 ⟨rfl, H5⟩; obtain ⟨l0z, l1z, l2z, g0z, g1z, g2z, g3z, g4z, g5z, g6z, g7z, g8z, b0z, b1z, b2z, b3z, b4z, b5z, b6z, b7z, b8z⟩ := HZ.out w5 H5.out))
  clear l0 l1 l2 g0 g1 g2 g3 g4 g5 g6 g7 g8 b0 b1 b2 b3 b4 b5 b6 b7 b8 l0x l1x l2x g0x g1x g2x g3x g4x g5x g6x g7x g8x b0x b1x b2x b3x b4x b5x b6x b7x b8x l0y l1y l2y g0y g1y g2y g3y g4y g5y g6y g7y g8y b0y b1y b2y b3y b4y b5y b6y b7y b8y l0z l1z l2z g0z g1z g2z g3z g4z g5z g6z g7z g8z CA' CB' CC' HZ H3 H4 hw1 hq1 hq2
  have BX : Hid (Below w.heap.size w w5) := HXB.out.trans (H5.out.mono HXB.out.size)
  have hww : w.heap.size < w5.heap.size := Nat.lt_of_lt_of_le hz H5.out.size
  clear H5 HXB hz
  by_cases hr : r < 0
  · have HR : Hid (r < 0) := hr
    go_wp2
    obtain ⟨i0, hi0, hz0, hz1, hz2⟩ := info_parts' Try.info81
    have hsw5 := BX.out.size
    have hll := HH.out.row.lt
    have OWN : w5.ownsRow base 81 9 (.slice (some ⟨g, 0, none⟩) n cap) n (ecells p D n) := (HH.out.below BX.out).own
    have r2 : w5.rowIs lb 107 3 (v3 (.slice (some ⟨g, 0, none⟩) n cap) kf of_) := (HH.out.below BX.out).row
    have n1 : some lb ≠ (Value.slice (some ⟨g, 0, none⟩) n cap).ownBlock := HH.out.ne
    have d1 : w5.cell? ⟨lb, 0, none⟩ = some (.slice (some ⟨g, 0, none⟩) n cap) := r2.cell (i := 0) (by omega)
    have d2 := r2.frozen 0
    have d1' : ((w5.alloc (.cells #[.int .i64 (D n).k, .string (D n).m, .int .i64 (D n).sin, .int .i64 (D n).own, .bool (D n).has, .string (D n).v, .slice (p n).a (D n).n (p n).c, .int .i64 (D n).ver, .int .i64 (D n).chg] 81)).drew).cell? ⟨lb, 0, none⟩ = some (.slice (some ⟨g, 0, none⟩) n cap) := (r2.alloc (.cells #[.int .i64 (D n).k, .string (D n).m, .int .i64 (D n).sin, .int .i64 (D n).own, .bool (D n).has, .string (D n).v, .slice (p n).a (D n).n (p n).c, .int .i64 (D n).ver, .int .i64 (D n).chg] 81)).cell (i := 0) (by omega)
    have d2' : ((w5.alloc (.cells #[.int .i64 (D n).k, .string (D n).m, .int .i64 (D n).sin, .int .i64 (D n).own, .bool (D n).has, .string (D n).v, .slice (p n).a (D n).n (p n).c, .int .i64 (D n).ver, .int .i64 (D n).chg] 81)).drew).frozen? ⟨lb, 0, none⟩ = false := (r2.alloc (.cells #[.int .i64 (D n).k, .string (D n).m, .int .i64 (D n).sin, .int .i64 (D n).own, .bool (D n).has, .string (D n).v, .slice (p n).a (D n).n (p n).c, .int .i64 (D n).ver, .int .i64 (D n).chg] 81)).frozen 0
    have hbs : base ≤ w5.heap.size := by omega
    have hbb : (n + 1) * 104 ≤ 140737488355328 := by omega
    have hml2 : n + 1 ≤ maxLen := by unfold maxLen; omega
    have hll2 : lb < w5.heap.size := by omega
    go_region_law (refine step_append_lies _ (by rfl) _ _ _ (by rfl) base 81 i0 _ 9 104 Try.underlying103 hi0 hz0 hz1 hz2 rfl (by omega) (.slice (some ⟨g, 0, none⟩) n cap) n (ecells p D n) (by rfl) ((OWN.alloc _).drew) ⟨w5.heap.size, 0, none⟩ 1 1 (ec (p n) (D n)) (by rfl) (by rfl) (World.news_of_block (cs := #[.int .i64 (D n).k, .string (D n).m, .int .i64 (D n).sin, .int .i64 (D n).own, .bool (D n).has, .string (D n).v, .slice (p n).a (D n).n (p n).c, .int .i64 (D n).ver, .int .i64 (D n).chg]) (t := 81) (fr := (0, 0)) (heap_alloc_new w5 _)) (by simp [ec, Value.oneCell']) (by omega) hml2 hbb (by simp; omega) (w5.heap.size + 1) (by simp) ?_; intro gg cap3 w3 hown3 hg3 hat hlt3; have f1 : w3.cell? ⟨lb, 0, none⟩ = some (.slice (some ⟨g, 0, none⟩) n cap) := (hg3.cell_far ⟨lb, 0, none⟩ (by simp; omega) n1).trans d1'; have f2 : w3.frozen? ⟨lb, 0, none⟩ = false := (hg3.frozen_far ⟨lb, 0, none⟩ (by simp; omega) n1).trans d2')
    all_goals
      have FIN : Hid (_ ∧ _) := os_step HH.out BX.out hown3 hg3 hat
      clear hown3 hg3 hat f1 f2 d1 d2 d1' d2' OWN r2 b0z b1z b2z b3z b4z b5z b6z b7z b8z
      go_wp2
      go_ret
      exact ⟨ret_bool (decide_eq_true HR.out).symm, FIN.out.1, fun _ => FIN.out.2⟩
  · have HR : Hid (¬ r < 0) := hr
    have hr' : 0 ≤ r := by omega
    clear hr
    go_wp2
    go_ret
    exact ⟨ret_bool (decide_eq_false (by have := HR.out; omega)).symm, ⟨BX.out.os, BX.out.tape, BX.out.output, BX.out.size, fun k hk => BX.out.block k hk.1⟩, fun h => absurd h (by have := HR.out; omega)⟩

/-- What putLast gives, whatever the length. -/
def PutPost (w : World) (base lb n : Nat) (p : Nat → SP) (D : Nat → SD) (sv : Value) (e : Ending) (w' : World) : Prop :=
  e = .returned (.bool (pl D n)) ∧ Kept (fun b => b < w.heap.size ∧ b ≠ lb ∧ some b ≠ sv.ownBlock) w w' ∧ (pl D n = true → ∃ sv', OS w' base lb sv' (n + 1) p D ∧ (sv'.ownBlock = sv.ownBlock ∨ ∃ g, sv'.ownBlock = some g ∧ w.heap.size ≤ g))

theorem c53 (base lb : Nat) (sv : Value) (n : Nat) (p : Nat → SP) (D : Nat → SD) (w : World) (h : OS w base lb sv n p D) (hn : n ≤ 1048576) (hs : base ≤ w.heap.size) :
    Calls Try.prog 53 #[.pointer (some ⟨lb, 0, none⟩), edv (p n) (D n)] w fun e w' => PutPost w base lb n p D sv e w' := by
  match n, h, hn with
  | 0, h, hn => exact (c53z base lb sv 0 p D w h rfl hn hs).mono fun e w' ⟨he, h1, h2⟩ => ⟨he, h1, fun _ => h2⟩
  | q + 1, h, hn => exact (c53s base lb sv (q + 1) q p D w h rfl hn hs).mono fun e w' ⟨he, h1, h2⟩ => ⟨he.trans (ret_bool (ck_lt _ _ _ _)), h1, fun hp => h2 (of_decide_eq_true ((ck_lt _ _ _ _).trans hp))⟩

end Go.Proofs.Ytefplfcfoapnjaa
