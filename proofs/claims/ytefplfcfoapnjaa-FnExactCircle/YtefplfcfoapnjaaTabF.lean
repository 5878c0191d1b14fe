/-
  Tables: the look for a key in the open table.
-/
import Derived.Test.YtefplfcfoapnjaaTabG
import Derived.Deep.LoopGhost
namespace Go.Proofs.Ytefplfcfoapnjaa
open Go.RowKit

/-- What the closure of the look reads. -/
def Reads2 (w W : World) (xb lb : Nat) (p : SP) (d : SD) (k : Int) (m : ByteArray) : Prop :=
  W.cell? ⟨xb, 0, none⟩ = some (.pointer (some ⟨lb, 0, none⟩)) ∧ W.cell? ⟨lb, 1, none⟩ = some kf ∧ W.cell? ⟨lb, 2, none⟩ = some of_ ∧ W.cell? ⟨w.heap.size, 0, none⟩ = some (.int .i64 d.k) ∧ W.cell? ⟨w.heap.size, 1, none⟩ = some (.string d.m) ∧ W.cell? ⟨w.heap.size, 2, none⟩ = some (.int .i64 d.sin) ∧ W.cell? ⟨w.heap.size, 3, none⟩ = some (.int .i64 d.own) ∧ W.cell? ⟨w.heap.size, 4, none⟩ = some (.bool d.has) ∧ W.cell? ⟨w.heap.size, 5, none⟩ = some (.string d.v) ∧ W.cell? ⟨w.heap.size, 6, none⟩ = some (.slice p.a d.n p.c) ∧ W.cell? ⟨w.heap.size, 7, none⟩ = some (.int .i64 d.ver) ∧ W.cell? ⟨w.heap.size, 8, none⟩ = some (.int .i64 d.chg) ∧ W.cell? ⟨w.heap.size + 1, 0, none⟩ = some (.int .i64 k) ∧ W.cell? ⟨w.heap.size + 1, 1, none⟩ = some (.string m)

set_option maxRecDepth 100000 in
set_option maxHeartbeats 4000000 in
theorem c78 (xb lb : Nat) (p : SP) (d : SD) (k : Int) (m : ByteArray) (w : World) (h0 : w.cell? ⟨xb, 0, none⟩ = some (.pointer (some ⟨lb, 0, none⟩))) (h1 : w.cell? ⟨lb, 1, none⟩ = some kf) (h2 : w.cell? ⟨lb, 2, none⟩ = some of_) :
    Calls Try.prog 78 #[.agg #[.int .i64 d.k, .string d.m, .int .i64 d.sin, .int .i64 d.own, .bool d.has, .string d.v, .slice p.a d.n p.c, .int .i64 d.ver, .int .i64 d.chg], .agg #[.int .i64 k, .string m], .pointer (some ⟨xb, 0, none⟩)] w fun e w' => e = .returned (.int .i64 (ck d.k d.m k m)) ∧ Below w.heap.size w w' := by
  have BB : Below w.heap.size w ((w.alloc (.cells #[.int .i64 d.k, .string d.m, .int .i64 d.sin, .int .i64 d.own, .bool d.has, .string d.v, .slice p.a d.n p.c, .int .i64 d.ver, .int .i64 d.chg] 81)).alloc (.cells #[.int .i64 k, .string m] 41)) := bel2 _ _ _
  have HZ0 : ∀ W, Below ((w.alloc (.cells #[.int .i64 d.k, .string d.m, .int .i64 d.sin, .int .i64 d.own, .bool d.has, .string d.v, .slice p.a d.n p.c, .int .i64 d.ver, .int .i64 d.chg] 81)).alloc (.cells #[.int .i64 k, .string m] 41)).heap.size ((w.alloc (.cells #[.int .i64 d.k, .string d.m, .int .i64 d.sin, .int .i64 d.own, .bool d.has, .string d.v, .slice p.a d.n p.c, .int .i64 d.ver, .int .i64 d.chg] 81)).alloc (.cells #[.int .i64 k, .string m] 41)) W → Reads2 w W xb lb p d k m := fun W hW => by
    have hB := BB.trans (hW.mono BB.size)
    obtain ⟨a0, a1, a2, a3, a4, a5, a6, a7, a8⟩ := nine_cells (((row9 w (.int .i64 d.k) (.string d.m) (.int .i64 d.sin) (.int .i64 d.own) (.bool d.has) (.string d.v) (.slice p.a d.n p.c) (.int .i64 d.ver) (.int .i64 d.chg) 81).alloc (.cells #[.int .i64 k, .string m] 41)).of_block (hW.block _ (by simp; omega)))
    refine ⟨by rw [hB.cell (p := ⟨xb, 0, none⟩) (World.block_lt_of_cell? _ _ h0)]; exact h0, by rw [hB.cell (p := ⟨lb, 1, none⟩) (World.block_lt_of_cell? _ _ h1)]; exact h1, by rw [hB.cell (p := ⟨lb, 2, none⟩) (World.block_lt_of_cell? _ _ h2)]; exact h2, a0, a1, a2, a3, a4, a5, a6, a7, a8, ?_, ?_⟩
    · rw [hW.cell (p := ⟨w.heap.size + 1, 0, none⟩) (by simp)]; simp
    · rw [hW.cell (p := ⟨w.heap.size + 1, 1, none⟩) (by simp)]; simp
  go_enter Try.func78, Try.ntmps78
  go_wp2_with fail
  obtain ⟨WX, hWX⟩ : ∃ WX, WX = ((w.alloc (.cells #[.int .i64 d.k, .string d.m, .int .i64 d.sin, .int .i64 d.own, .bool d.has, .string d.v, .slice p.a d.n p.c, .int .i64 d.ver, .int .i64 d.chg] 81)).alloc (.cells #[.int .i64 k, .string m] 41)) := ⟨_, rfl⟩
  rw [← hWX] at BB HZ0
  rw [← hWX]
  have HXB : Hid (Below w.heap.size w WX) := BB
  have HZ : Hid (∀ W, Below WX.heap.size WX W → Reads2 w W xb lb p d k m) := HZ0
  obtain ⟨r, hr⟩ : ∃ r, r = ck d.k d.m k m := ⟨_, rfl⟩
  have HR : Hid (r = ck d.k d.m k m) := hr
  have CA : Hid (∀ W, Below WX.heap.size WX W → Calls Try.prog 70 #[.agg #[.int .i64 d.k, .string d.m, .int .i64 d.sin, .int .i64 d.own, .bool d.has, .string d.v, .slice p.a d.n p.c, .int .i64 d.ver, .int .i64 d.chg]] W fun e w' => e = .returned (.agg #[.int .i64 d.k, .string d.m]) ∧ Hid (Below WX.heap.size WX w')) := fun W hW => (c70 _ _ _ _ _ _ _ _ _ _ _ W).mono fun e w' ⟨he, hb⟩ => ⟨he, hW.trans (hb.mono hW.size)⟩
  have CC : Hid (∀ W, Hid (Below WX.heap.size WX W) → Calls Try.prog 71 #[.agg #[.int .i64 d.k, .string d.m], .agg #[.int .i64 k, .string m]] W fun e w' => e = .returned (.int .i64 r) ∧ Hid (Below WX.heap.size WX w')) := fun W hW => by
    rw [hr]
    exact (c71 _ _ _ _ W).mono fun e w' ⟨he, hb⟩ => ⟨he, hW.out.trans (hb.mono hW.out.size)⟩
  have R0 := HZ.out WX (Below.refl _ _)
  unfold Reads2 at R0
  obtain ⟨s0w, s1w, s2w, a0w, a1w, a2w, a3w, a4w, a5w, a6w, a7w, a8w, b0w, b1w⟩ := R0
  clear h0 h1 h2 BB HZ0 hWX hr
  go_region_held3 (fun w' => w'.cell? ⟨xb, 0, none⟩ = some (.pointer (some ⟨lb, 0, none⟩)) ∧ w'.cell? ⟨lb, 1, none⟩ = some kf ∧ w'.cell? ⟨lb, 2, none⟩ = some of_ ∧ w'.cell? ⟨w.heap.size, 0, none⟩ = some (.int .i64 d.k) ∧ w'.cell? ⟨w.heap.size, 1, none⟩ = some (.string d.m) ∧ w'.cell? ⟨w.heap.size, 2, none⟩ = some (.int .i64 d.sin) ∧ w'.cell? ⟨w.heap.size, 3, none⟩ = some (.int .i64 d.own) ∧ w'.cell? ⟨w.heap.size, 4, none⟩ = some (.bool d.has) ∧ w'.cell? ⟨w.heap.size, 5, none⟩ = some (.string d.v) ∧ w'.cell? ⟨w.heap.size, 6, none⟩ = some (.slice p.a d.n p.c) ∧ w'.cell? ⟨w.heap.size, 7, none⟩ = some (.int .i64 d.ver) ∧ w'.cell? ⟨w.heap.size, 8, none⟩ = some (.int .i64 d.chg) ∧ w'.cell? ⟨w.heap.size + 1, 0, none⟩ = some (.int .i64 k) ∧ w'.cell? ⟨w.heap.size + 1, 1, none⟩ = some (.string m)) (go_keep)
    (first
      | (go_at_call 70; (with_reducible refine (CA.out _ (Below.refl _ _).drew).mono ?_); rintro e w3 ⟨rfl, H3⟩; obtain ⟨s0x, s1x, s2x, a0x, a1x, a2x, a3x, a4x, a5x, a6x, a7x, a8x, b0x, b1x⟩ := HZ.out w3 H3.out)
      | (go_at_call 71; (with_reducible refine (CC.out _ H3).mono ?_); rintro e w5 ⟨rfl, H5⟩; obtain ⟨s0y, s1y, s2y, a0y, a1y, a2y, a3y, a4y, a5y, a6y, a7y, a8y, b0y, b1y⟩ := HZ.out w5 H5.out))
  all_goals
    clear s0w s1w s2w a0w a1w a2w a3w a4w a5w a6w a7w a8w b0w b1w s0x s1x s2x a0x a1x a2x a3x a4x a5x a6x a7x a8x b0x b1x s0y s1y s2y a0y a1y a2y a3y a4y a5y a6y a7y a8y b0y b1y CA CC HZ
    go_wp2
    go_ret
    exact ⟨ret_int HR.out, HXB.out.trans (H5.out.mono HXB.out.size)⟩

/-- The order of the world in which a table is open. -/
structure Look (w : World) (xb lb g n cap : Nat) (p : Nat → SP) (D : Nat → SD) : Prop where
  x : w.cell? ⟨xb, 0, none⟩ = some (.pointer (some ⟨lb, 0, none⟩))
  f1 : w.cell? ⟨lb, 1, none⟩ = some kf
  f2 : w.cell? ⟨lb, 2, none⟩ = some of_
  cells : ∀ i, i < n → w.cell? ⟨g, i * 9, none⟩ = some (.int .i64 (D i).k) ∧ w.cell? ⟨g, i * 9 + 1, none⟩ = some (.string (D i).m) ∧ w.cell? ⟨g, i * 9 + 2, none⟩ = some (.int .i64 (D i).sin) ∧
    w.cell? ⟨g, i * 9 + 3, none⟩ = some (.int .i64 (D i).own) ∧ w.cell? ⟨g, i * 9 + 4, none⟩ = some (.bool (D i).has) ∧ w.cell? ⟨g, i * 9 + 5, none⟩ = some (.string (D i).v) ∧
    w.cell? ⟨g, i * 9 + 6, none⟩ = some (.slice (p i).a (D i).n (p i).c) ∧ w.cell? ⟨g, i * 9 + 7, none⟩ = some (.int .i64 (D i).ver) ∧ w.cell? ⟨g, i * 9 + 8, none⟩ = some (.int .i64 (D i).chg)

theorem Look.below {w w' : World} {xb lb g n cap : Nat} {p : Nat → SP} {D : Nat → SD} (h : Look w xb lb g n cap p D) (hb : Below w.heap.size w w') : Look w' xb lb g n cap p D := by
  have key : ∀ {a : Addr} {v : Value}, w.cell? a = some v → w'.cell? a = some v := fun {a v} h => by rw [hb.cell (World.block_lt_of_cell? _ _ h)]; exact h
  refine ⟨key h.x, key h.f1, key h.f2, fun i hi => ?_⟩
  obtain ⟨a0, a1, a2, a3, a4, a5, a6, a7, a8⟩ := h.cells i hi
  exact ⟨key a0, key a1, key a2, key a3, key a4, key a5, key a6, key a7, key a8⟩

/-- What the search gives. -/
def BsPost (w : World) (n : Nat) (D : Nat → SD) (k : Int) (m : ByteArray) (e : Ending) (w' : World) : Prop :=
  ∃ (i : Nat) (f : Bool), e = .returned (.tuple #[.int .i64 (i : Int), .bool f]) ∧ FindAt n D k m i f ∧ Below w.heap.size w w'

set_option maxRecDepth 100000 in
set_option maxHeartbeats 4000000 in
theorem c77 (xb lb g n cap : Nat) (p : Nat → SP) (D : Nat → SD) (k : Int) (m : ByteArray) (w : World) (h : Look w xb lb g n cap p D) (hU : Up n D) (hn : n ≤ 1048576) :
    Calls Try.prog 77 #[.slice (some ⟨g, 0, none⟩) n cap, .agg #[.int .i64 k, .string m], .func (.func 78) #[] #[.pointer (some ⟨xb, 0, none⟩)]] w fun e w' => BsPost w n D k m e w' := by
  have HL : Hid (∀ W, Below w.heap.size w W → Look W xb lb g n cap p D) := fun W hW => h.below hW
  have HU : Hid (Up n D) := hU
  clear h hU
  go_enter Try.func77, Try.ntmps77
  go_wp2
  go_loopg [9, 10] n (fun kx s9 s10 wr => ∃ lo hi : Nat, s9 = .int .i64 lo ∧ s10 = .int .i64 hi ∧ lo ≤ hi ∧ hi ≤ n ∧ hi - lo ≤ kx ∧ Hid (Below w.heap.size w wr) ∧ w.heap.size < wr.heap.size ∧ wr.cell? ⟨w.heap.size, 0, none⟩ = some (.int .i64 k) ∧ wr.cell? ⟨w.heap.size, 1, none⟩ = some (.string m) ∧
    Hid ((∀ t, t < lo → ck (D t).k (D t).m k m < 0) ∧ (∀ t, hi ≤ t → t < n → 0 ≤ ck (D t).k (D t).m k m)))
  case atStart => exact ⟨0, n, rfl, rfl, Nat.zero_le _, Nat.le_refl _, by omega, bel1 _ _, by simp, by simp, by simp, (⟨fun t ht => absurd ht (Nat.not_lt_zero _), fun t h1 h2 => by omega⟩ : (∀ t, t < 0 → ck (D t).k (D t).m k m < 0) ∧ (∀ t, n ≤ t → t < n → 0 ≤ ck (D t).k (D t).m k m))⟩
  case round =>
    obtain ⟨lo, hi, rfl, rfl, hlh, hin, hg, HB, hz, k0, k1, I⟩ := hrel
    by_cases hlt : lo < hi
    · obtain ⟨h, hh⟩ : ∃ h, (lo + hi) / 2 = h := ⟨_, rfl⟩
      have hle : lo ≤ h := by omega
      have hlt2 : h < hi := by omega
      have e1 : ((lo : Int) + (hi : Int)) / 2 = (h : Int) := by omega
      obtain ⟨d, hd⟩ : ∃ d, d = D h := ⟨_, rfl⟩
      obtain ⟨q, hq⟩ : ∃ q, q = p h := ⟨_, rfl⟩
      obtain ⟨r, hr⟩ : ∃ r, r = ck d.k d.m k m := ⟨_, rfl⟩
      have HR : Hid (r = ck (D h).k (D h).m k m) := by rw [hr, hd]; rfl
      have hqn : (h : Int) < (n : Int) := by omega
      have hq0 : (0 : Int) ≤ (h : Int) := by omega
      have HZ : Hid (∀ W, Below wr.heap.size wr W → W.cell? ⟨g, h * 9, none⟩ = some (.int .i64 d.k) ∧ W.cell? ⟨g, h * 9 + 1, none⟩ = some (.string d.m) ∧ W.cell? ⟨g, h * 9 + 2, none⟩ = some (.int .i64 d.sin) ∧ W.cell? ⟨g, h * 9 + 3, none⟩ = some (.int .i64 d.own) ∧ W.cell? ⟨g, h * 9 + 4, none⟩ = some (.bool d.has) ∧ W.cell? ⟨g, h * 9 + 5, none⟩ = some (.string d.v) ∧ W.cell? ⟨g, h * 9 + 6, none⟩ = some (.slice q.a d.n q.c) ∧ W.cell? ⟨g, h * 9 + 7, none⟩ = some (.int .i64 d.ver) ∧ W.cell? ⟨g, h * 9 + 8, none⟩ = some (.int .i64 d.chg) ∧ W.cell? ⟨w.heap.size, 0, none⟩ = some (.int .i64 k) ∧ W.cell? ⟨w.heap.size, 1, none⟩ = some (.string m)) := fun W hW => by
        have hB := HB.out.trans (hW.mono HB.out.size)
        obtain ⟨a0, a1, a2, a3, a4, a5, a6, a7, a8⟩ := (HL.out W hB).cells h (by omega)
        rw [← hd] at a0 a1 a2 a3 a4 a5 a6 a7 a8
        rw [← hq] at a6
        exact ⟨a0, a1, a2, a3, a4, a5, a6, a7, a8, by rw [hW.cell (p := ⟨w.heap.size, 0, none⟩) hz]; exact k0, by rw [hW.cell (p := ⟨w.heap.size, 1, none⟩) hz]; exact k1⟩
      have C78 : Hid (Calls Try.prog 78 #[.agg #[.int .i64 d.k, .string d.m, .int .i64 d.sin, .int .i64 d.own, .bool d.has, .string d.v, .slice q.a d.n q.c, .int .i64 d.ver, .int .i64 d.chg], .agg #[.int .i64 k, .string m], .pointer (some ⟨xb, 0, none⟩)] wr.drew fun e w' => e = .returned (.int .i64 r) ∧ Hid (Below wr.heap.size wr w')) := by
        have hl := HL.out wr.drew HB.out.drew
        rw [hr]
        exact (c78 xb lb q d k m wr.drew hl.x hl.f1 hl.f2).mono fun e w' ⟨he, hb⟩ => ⟨he, (Below.refl _ _).drew.trans (hb.mono (Nat.le_refl _))⟩
      obtain ⟨a0w, a1w, a2w, a3w, a4w, a5w, a6w, a7w, a8w, b0w, b1w⟩ := HZ.out wr (Below.refl _ _)
      clear hr hd hq k0 k1
      have HE : Hid (((lo : Int) + (hi : Int)) / 2 = (h : Int)) := e1
      clear e1 hh
      go_wp2_with fail
      simp only [HE.out]
      go_region_held3 (fun w' => w'.cell? ⟨g, h * 9, none⟩ = some (.int .i64 d.k) ∧ w'.cell? ⟨g, h * 9 + 1, none⟩ = some (.string d.m) ∧ w'.cell? ⟨g, h * 9 + 2, none⟩ = some (.int .i64 d.sin) ∧ w'.cell? ⟨g, h * 9 + 3, none⟩ = some (.int .i64 d.own) ∧ w'.cell? ⟨g, h * 9 + 4, none⟩ = some (.bool d.has) ∧ w'.cell? ⟨g, h * 9 + 5, none⟩ = some (.string d.v) ∧ w'.cell? ⟨g, h * 9 + 6, none⟩ = some (.slice q.a d.n q.c) ∧ w'.cell? ⟨g, h * 9 + 7, none⟩ = some (.int .i64 d.ver) ∧ w'.cell? ⟨g, h * 9 + 8, none⟩ = some (.int .i64 d.chg) ∧ w'.cell? ⟨w.heap.size, 0, none⟩ = some (.int .i64 k) ∧ w'.cell? ⟨w.heap.size, 1, none⟩ = some (.string m)) (go_keep)
        (first | (go_at_call 78; (with_reducible refine C78.out.mono ?_); rintro e w' ⟨rfl, H5⟩; obtain ⟨a0x, a1x, a2x, a3x, a4x, a5x, a6x, a7x, a8x, b0x, b1x⟩ := HZ.out w' H5.out))
      all_goals
        have HB2 : Hid (Below w.heap.size w w') := HB.out.trans (H5.out.mono HB.out.size)
        have hz2 : w.heap.size < w'.heap.size := Nat.lt_of_lt_of_le hz H5.out.size
        clear a0w a1w a2w a3w a4w a5w a6w a7w a8w b0w b1w a0x a1x a2x a3x a4x a5x a6x a7x a8x C78 HZ H5
        by_cases hyx : r < 0
        · have HY : Hid (r < 0) := hyx
          go_wp2
          go_roundg (hi - (h + 1))
          case measure => omega
          case rel =>
            have I2 : Hid ((∀ t, t < h + 1 → ck (D t).k (D t).m k m < 0) ∧ (∀ t, hi ≤ t → t < n → 0 ≤ ck (D t).k (D t).m k m)) := ⟨fun t ht => ck_mono HU.out (b := h) (by omega) (by omega) (by rw [← HR.out]; exact HY.out), I.out.2⟩
            exact ⟨h + 1, hi, by go_num, rfl, by omega, hin, Nat.le_refl _, HB2, hz2, b0x, b1x, I2⟩
        · have HY : Hid (0 ≤ r) := by show 0 ≤ r; omega
          go_wp2
          go_roundg (h - lo)
          case measure => omega
          case rel =>
            have I2 : Hid ((∀ t, t < lo → ck (D t).k (D t).m k m < 0) ∧ (∀ t, h ≤ t → t < n → 0 ≤ ck (D t).k (D t).m k m)) := ⟨I.out.1, fun t ht htn => Int.not_lt.1 fun hx => by
              have := ck_mono HU.out ht htn hx
              have h2 := HY.out
              rw [HR.out] at h2
              omega⟩
            exact ⟨lo, h, rfl, by go_num, by omega, by omega, Nat.le_refl _, HB2, hz2, b0x, b1x, I2⟩
    · obtain rfl : hi = lo := by omega
      by_cases hnn : hi < n
      · obtain ⟨h, hh⟩ : ∃ h, hi = h := ⟨_, rfl⟩
        have hlt2 : h < n := by omega
        obtain ⟨d, hd⟩ : ∃ d, d = D h := ⟨_, rfl⟩
        obtain ⟨q, hq⟩ : ∃ q, q = p h := ⟨_, rfl⟩
        obtain ⟨r, hr⟩ : ∃ r, r = ck d.k d.m k m := ⟨_, rfl⟩
        have HR : Hid (r = ck (D h).k (D h).m k m) := by rw [hr, hd]; rfl
        have hqn : (h : Int) < (n : Int) := by omega
        have hq0 : (0 : Int) ≤ (h : Int) := by omega
        have HZ : Hid (∀ W, Below wr.heap.size wr W → W.cell? ⟨g, h * 9, none⟩ = some (.int .i64 d.k) ∧ W.cell? ⟨g, h * 9 + 1, none⟩ = some (.string d.m) ∧ W.cell? ⟨g, h * 9 + 2, none⟩ = some (.int .i64 d.sin) ∧ W.cell? ⟨g, h * 9 + 3, none⟩ = some (.int .i64 d.own) ∧ W.cell? ⟨g, h * 9 + 4, none⟩ = some (.bool d.has) ∧ W.cell? ⟨g, h * 9 + 5, none⟩ = some (.string d.v) ∧ W.cell? ⟨g, h * 9 + 6, none⟩ = some (.slice q.a d.n q.c) ∧ W.cell? ⟨g, h * 9 + 7, none⟩ = some (.int .i64 d.ver) ∧ W.cell? ⟨g, h * 9 + 8, none⟩ = some (.int .i64 d.chg) ∧ W.cell? ⟨w.heap.size, 0, none⟩ = some (.int .i64 k) ∧ W.cell? ⟨w.heap.size, 1, none⟩ = some (.string m)) := fun W hW => by
          have hB := HB.out.trans (hW.mono HB.out.size)
          obtain ⟨a0, a1, a2, a3, a4, a5, a6, a7, a8⟩ := (HL.out W hB).cells h (by omega)
          rw [← hd] at a0 a1 a2 a3 a4 a5 a6 a7 a8
          rw [← hq] at a6
          exact ⟨a0, a1, a2, a3, a4, a5, a6, a7, a8, by rw [hW.cell (p := ⟨w.heap.size, 0, none⟩) hz]; exact k0, by rw [hW.cell (p := ⟨w.heap.size, 1, none⟩) hz]; exact k1⟩
        have C78 : Hid (Calls Try.prog 78 #[.agg #[.int .i64 d.k, .string d.m, .int .i64 d.sin, .int .i64 d.own, .bool d.has, .string d.v, .slice q.a d.n q.c, .int .i64 d.ver, .int .i64 d.chg], .agg #[.int .i64 k, .string m], .pointer (some ⟨xb, 0, none⟩)] wr.drew fun e w' => e = .returned (.int .i64 r) ∧ Hid (Below wr.heap.size wr w')) := by
          have hl := HL.out wr.drew HB.out.drew
          rw [hr]
          exact (c78 xb lb q d k m wr.drew hl.x hl.f1 hl.f2).mono fun e w' ⟨he, hb⟩ => ⟨he, (Below.refl _ _).drew.trans (hb.mono (Nat.le_refl _))⟩
        obtain ⟨a0w, a1w, a2w, a3w, a4w, a5w, a6w, a7w, a8w, b0w, b1w⟩ := HZ.out wr (Below.refl _ _)
        clear hr hd hq k0 k1
        rw [hh]
        go_wp2_with fail
        go_region_held3 (fun w' => w'.cell? ⟨g, h * 9, none⟩ = some (.int .i64 d.k) ∧ w'.cell? ⟨g, h * 9 + 1, none⟩ = some (.string d.m) ∧ w'.cell? ⟨g, h * 9 + 2, none⟩ = some (.int .i64 d.sin) ∧ w'.cell? ⟨g, h * 9 + 3, none⟩ = some (.int .i64 d.own) ∧ w'.cell? ⟨g, h * 9 + 4, none⟩ = some (.bool d.has) ∧ w'.cell? ⟨g, h * 9 + 5, none⟩ = some (.string d.v) ∧ w'.cell? ⟨g, h * 9 + 6, none⟩ = some (.slice q.a d.n q.c) ∧ w'.cell? ⟨g, h * 9 + 7, none⟩ = some (.int .i64 d.ver) ∧ w'.cell? ⟨g, h * 9 + 8, none⟩ = some (.int .i64 d.chg) ∧ w'.cell? ⟨w.heap.size, 0, none⟩ = some (.int .i64 k) ∧ w'.cell? ⟨w.heap.size, 1, none⟩ = some (.string m)) (go_keep)
          (first | (go_at_call 78; (with_reducible refine C78.out.mono ?_); rintro e w' ⟨rfl, H5⟩; obtain ⟨a0x, a1x, a2x, a3x, a4x, a5x, a6x, a7x, a8x, b0x, b1x⟩ := HZ.out w' H5.out))
        all_goals
          have HB2 : Hid (Below w.heap.size w w') := HB.out.trans (H5.out.mono HB.out.size)
          have hz2 : w.heap.size < w'.heap.size := Nat.lt_of_lt_of_le hz H5.out.size
          clear a0w a1w a2w a3w a4w a5w a6w a7w a8w b0w b1w a0x a1x a2x a3x a4x a5x a6x a7x a8x C78 HZ H5
          have HF : Hid (FindAt n D k m h (r == 0)) := by
            by_cases hyx : r = 0
            · have u0 : (r == 0) = true := by rw [beq_iff_eq]; exact hyx
              show FindAt n D k m h (r == 0)
              rw [u0]; exact find_yes hlt2 (HR.out.symm.trans hyx)
            · have u0 : (r == 0) = false := beq_eq_false_iff_ne.2 hyx
              show FindAt n D k m h (r == 0)
              rw [u0]; exact find_no HU.out (by rw [← hh]; exact I.out.1) (by rw [← hh]; exact I.out.2) (fun _ => by rw [← HR.out]; exact hyx)
          go_wp2
          go_ret2
          exact ⟨h, (r == 0), rfl, HF.out, HB2.out⟩
      · have HF : Hid (FindAt n D k m hi false) := find_no HU.out I.out.1 I.out.2 (fun h => absurd h hnn)
        have n0 : decide (hi < n) = false := decide_eq_false hnn
        clear hnn
        go_wp2
        go_quiet (fail)
        go_wp2
        go_ret2
        exact ⟨hi, false, rfl, HF.out, below_drewN HB.out _⟩

set_option maxRecDepth 100000 in
set_option maxHeartbeats 4000000 in
theorem c62 (base lb g n cap : Nat) (p : Nat → SP) (D : Nat → SD) (k : Int) (m : ByteArray) (w : World) (h : OS w base lb (.slice (some ⟨g, 0, none⟩) n cap) n p D) (hU : Up n D) (hn : n ≤ 1048576) :
    Calls Try.prog 62 #[.pointer (some ⟨lb, 0, none⟩), .agg #[.int .i64 k, .string m]] w fun e w' => BsPost w n D k m e w' := by
  have BB : Below w.heap.size w ((w.alloc (.cells #[.pointer (some ⟨lb, 0, none⟩)] 76)).alloc (.cells #[.int .i64 k, .string m] 41)) := bel2 _ _ _
  have HZ0 : ∀ W, Below ((w.alloc (.cells #[.pointer (some ⟨lb, 0, none⟩)] 76)).alloc (.cells #[.int .i64 k, .string m] 41)).heap.size ((w.alloc (.cells #[.pointer (some ⟨lb, 0, none⟩)] 76)).alloc (.cells #[.int .i64 k, .string m] 41)) W → Look W w.heap.size lb g n cap p D ∧ W.cell? ⟨lb, 0, none⟩ = some (.slice (some ⟨g, 0, none⟩) n cap) ∧ W.cell? ⟨w.heap.size + 1, 0, none⟩ = some (.int .i64 k) ∧ W.cell? ⟨w.heap.size + 1, 1, none⟩ = some (.string m) := fun W hW => by
    have h2 := h.below (BB.trans (hW.mono BB.size))
    refine ⟨⟨?_, h2.row.cell (i := 1) (by omega), h2.row.cell (i := 2) (by omega), fun i hi => nine_ec h2.own i hi⟩, h2.row.cell (i := 0) (by omega), ?_, ?_⟩
    · rw [hW.cell (p := ⟨w.heap.size, 0, none⟩) (by simp; omega)]; simp
    · rw [hW.cell (p := ⟨w.heap.size + 1, 0, none⟩) (by simp)]; simp
    · rw [hW.cell (p := ⟨w.heap.size + 1, 1, none⟩) (by simp)]; simp
  clear h
  go_enter Try.func62, Try.ntmps62
  go_wp2_with fail
  obtain ⟨WX, hWX⟩ : ∃ WX, WX = ((w.alloc (.cells #[.pointer (some ⟨lb, 0, none⟩)] 76)).alloc (.cells #[.int .i64 k, .string m] 41)) := ⟨_, rfl⟩
  rw [← hWX] at BB HZ0
  rw [← hWX]
  have HXB : Hid (Below w.heap.size w WX) := BB
  have HZ : Hid (∀ W, Below WX.heap.size WX W → Look W w.heap.size lb g n cap p D ∧ W.cell? ⟨lb, 0, none⟩ = some (.slice (some ⟨g, 0, none⟩) n cap) ∧ W.cell? ⟨w.heap.size + 1, 0, none⟩ = some (.int .i64 k) ∧ W.cell? ⟨w.heap.size + 1, 1, none⟩ = some (.string m)) := HZ0
  have C77 : Hid (Calls Try.prog 77 #[.slice (some ⟨g, 0, none⟩) n cap, .agg #[.int .i64 k, .string m], .func (.func 78) #[] #[.pointer (some ⟨w.heap.size, 0, none⟩)]] WX.drew fun e w' => ∃ (i : Nat) (f : Bool), e = .returned (.tuple #[.int .i64 (i : Int), .bool f]) ∧ Hid (FindAt n D k m i f) ∧ Hid (Below WX.heap.size WX w')) :=
    (c77 w.heap.size lb g n cap p D k m WX.drew (HZ.out WX.drew (Below.refl _ _).drew).1 hU hn).mono fun e w' ⟨i, f, he, hf, hb⟩ => ⟨i, f, he, hf, (Below.refl _ _).drew.trans (hb.mono (Nat.le_refl _))⟩
  obtain ⟨L0, l0, t0, t1⟩ := HZ.out WX (Below.refl _ _)
  have x0 := L0.x
  clear L0 hU BB HZ0 hWX
  go_region_held3 (fun w' => w'.cell? ⟨lb, 0, none⟩ = some (.slice (some ⟨g, 0, none⟩) n cap) ∧ w'.cell? ⟨w.heap.size + 1, 0, none⟩ = some (.int .i64 k) ∧ w'.cell? ⟨w.heap.size + 1, 1, none⟩ = some (.string m) ∧ w'.cell? ⟨w.heap.size, 0, none⟩ = some (.pointer (some ⟨lb, 0, none⟩))) (go_keep)
    (first | (go_at_call 77; (with_reducible refine C77.out.mono ?_); rintro e w3 ⟨i, f, rfl, HF, H3⟩; obtain ⟨L3, l3, t3, t4⟩ := HZ.out w3 H3.out; have x3 := L3.x))
  all_goals
    clear L3 l3 t3 t4 x3 l0 t0 t1 x0 C77 HZ
    go_wp2
    go_ret2
    exact ⟨i, f, rfl, HF.out, HXB.out.trans (H3.out.mono HXB.out.size)⟩

/-- What find gives: the place of the entry. -/
def FindPost (w : World) (g n : Nat) (D : Nat → SD) (k : Int) (m : ByteArray) (e : Ending) (w' : World) : Prop :=
  Below w.heap.size w w' ∧ ((e = .returned (.pointer none) ∧ ∀ j, j < n → ¬ sk (D j).k (D j).m k m) ∨ ∃ i, e = .returned (.pointer (some ⟨g, i * 9, none⟩)) ∧ i < n ∧ sk (D i).k (D i).m k m)

set_option maxRecDepth 100000 in
set_option maxHeartbeats 4000000 in
theorem c39 (base lb g n cap : Nat) (p : Nat → SP) (D : Nat → SD) (k : Int) (m : ByteArray) (w : World) (h : OS w base lb (.slice (some ⟨g, 0, none⟩) n cap) n p D) (hU : Up n D) (hn : n ≤ 1048576) :
    Calls Try.prog 39 #[.pointer (some ⟨lb, 0, none⟩), .agg #[.int .i64 k, .string m]] w fun e w' => FindPost w g n D k m e w' := by
  have HO : Hid (∀ W, Below w.heap.size w W → OS W base lb (.slice (some ⟨g, 0, none⟩) n cap) n p D) := fun W hW => h.below hW
  have HU : Hid (Up n D) := hU
  clear h hU
  go_enter Try.func39, Try.ntmps39
  go_wp2_with fail
  refine (c62 base lb g n cap p D k m _ (by exact HO.out _ (bel1 _ _)) HU.out hn).mono ?_
  rintro e w1 ⟨i, f, rfl, hf, hb1⟩
  have H1 : Hid (Below w.heap.size w w1) := (bel1 w _).trans (hb1.mono (by simp))
  have l0 : w1.cell? ⟨lb, 0, none⟩ = some (.slice (some ⟨g, 0, none⟩) n cap) := (HO.out w1 H1.out).row.cell (i := 0) (by omega)
  clear hb1
  cases f
  · have HF : Hid (∀ j, j < n → ¬ sk (D j).k (D j).m k m) := hf.2 rfl
    clear hf
    go_wp2
    go_ret
    exact ⟨H1.out, Or.inl ⟨rfl, HF.out⟩⟩
  · obtain ⟨hi, hs⟩ := hf.1 rfl
    have HF : Hid (i < n ∧ sk (D i).k (D i).m k m) := ⟨hi, hs⟩
    have hin : (i : Int) < (n : Int) := by omega
    clear hf hs
    go_wp2
    go_ret
    exact ⟨H1.out, Or.inr ⟨i, rfl, HF.out⟩⟩

end Go.Proofs.Ytefplfcfoapnjaa
