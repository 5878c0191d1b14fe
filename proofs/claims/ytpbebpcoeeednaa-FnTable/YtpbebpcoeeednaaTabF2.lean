/-
  Tables: the look for a key, and where a key belongs that is not there.
-/
import Derived.Test.YtpbebpcoeeednaaTabF
namespace Go.Proofs.Ytpbebpcoeeednaa
open Go.RowKit

/-- What the look for a key gives, with the place. -/
def FindAtR (n : Nat) (D : Nat → SD) (k : Int) (m : ByteArray) (i : Nat) (f : Bool) : Prop :=
  FindAt n D k m i f ∧ (f = false → i ≤ n ∧ (∀ j, j < i → kl (D j).k (D j).m k m = true) ∧ (i < n → kl (D i).k (D i).m k m = false))

theorem find_yesR {n i : Nat} {D : Nat → SD} {k : Int} {m : ByteArray} (hi : i < n) (h : ck (D i).k (D i).m k m = 0) : FindAtR n D k m i true :=
  ⟨find_yes hi h, fun h => (by cases h)⟩

theorem find_noR {n i : Nat} {D : Nat → SD} {k : Int} {m : ByteArray} (hle : i ≤ n) (hU : Up n D) (h1 : ∀ t, t < i → ck (D t).k (D t).m k m < 0) (h2 : ∀ t, i ≤ t → t < n → 0 ≤ ck (D t).k (D t).m k m) (h : i < n → ck (D i).k (D i).m k m ≠ 0) : FindAtR n D k m i false :=
  ⟨find_no hU h1 h2 h, fun _ => ⟨hle, fun j hj => kl_of (h1 j hj), fun hi => (ck_lt _ _ _ _).symm.trans (decide_eq_false (by have := h2 i (Nat.le_refl _) hi; omega))⟩⟩

/-- What the search gives. -/
def BsPostR (w : World) (n : Nat) (D : Nat → SD) (k : Int) (m : ByteArray) (e : Ending) (w' : World) : Prop :=
  ∃ (i : Nat) (f : Bool), e = .returned (.tuple #[.int .i64 (i : Int), .bool f]) ∧ FindAtR n D k m i f ∧ Below w.heap.size w w'

set_option maxRecDepth 100000 in
set_option maxHeartbeats 4000000 in
theorem r77 (xb lb g n cap : Nat) (p : Nat → SP) (D : Nat → SD) (k : Int) (m : ByteArray) (w : World) (h : Look w xb lb g n cap p D) (hU : Up n D) (hn : n ≤ 1048576) :
    Calls Try.prog 95 #[.slice (some ⟨g, 0, none⟩) n cap, .agg #[.int .i64 k, .string m], .func (.func 96) #[] #[.pointer (some ⟨xb, 0, none⟩)]] w fun e w' => BsPostR w n D k m e w' := by
  have HL : Hid (∀ W, Below w.heap.size w W → Look W xb lb g n cap p D) := fun W hW => h.below hW
  have HU : Hid (Up n D) := hU
  clear h hU
  go_enter Try.func95, Try.ntmps95
  go_wp2
  go_loopg [9, 10] n (fun kx s9 s10 wr => ∃ lo hi : Nat, s9 = .int .i64 lo ∧ s10 = .int .i64 hi ∧ lo ≤ hi ∧ hi ≤ n ∧ hi - lo ≤ kx ∧ Hid (Below w.heap.size w wr) ∧ w.heap.size < wr.heap.size ∧ wr.cell? ⟨w.heap.size, 0, none⟩ = some (.int .i64 k) ∧ wr.cell? ⟨w.heap.size, 1, none⟩ = some (.string m) ∧
    Hid ((∀ t, t < lo → ck (D t).k (D t).m k m < 0) ∧ (∀ t, hi ≤ t → t < n → 0 ≤ ck (D t).k (D t).m k m)))
  case atStart => exact ⟨0, n, rfl, rfl, Nat.zero_le _, Nat.le_refl _, by omega, bel1 _ _, by simp, by simp, by simp, (⟨fun t ht => absurd ht (Nat.not_lt_zero _), fun t h1 h2 => by omega⟩ : (∀ t, t < 0 → ck (D t).k (D t).m k m < 0) ∧ (∀ t, n ≤ t → t < n → 0 ≤ ck (D t).k (D t).m k m))⟩
  case round =>
    obtain ⟨lo, hi, rfl, rfl, hlh, hin, hg, HB, hz, k0, k1, I⟩ := hrel
    by_cases hlt : lo < hi
    · obtain ⟨h, hh⟩ : ∃ h, (lo + hi) / 2 = h := ⟨_, rfl⟩
      have hle : lo ≤ h := by omega
      have hlt2 : h < hi := by omega
      have e1 : ((lo : Int) + (hi : Int)) / 2 = (h : Int) := by omega
      obtain ⟨d, hd⟩ : ∃ d, d = D h := ⟨_, rfl⟩
      obtain ⟨q, hq⟩ : ∃ q, q = p h := ⟨_, rfl⟩
      obtain ⟨r, hr⟩ : ∃ r, r = ck d.k d.m k m := ⟨_, rfl⟩
      have HR : Hid (r = ck (D h).k (D h).m k m) := by rw [hr, hd]; rfl
      have hqn : (h : Int) < (n : Int) := by omega
      have hq0 : (0 : Int) ≤ (h : Int) := by omega
      have HZ : Hid (∀ W, Below wr.heap.size wr W → W.cell? ⟨g, h * 9, none⟩ = some (.int .i64 d.k) ∧ W.cell? ⟨g, h * 9 + 1, none⟩ = some (.string d.m) ∧ W.cell? ⟨g, h * 9 + 2, none⟩ = some (.int .i64 d.sin) ∧ W.cell? ⟨g, h * 9 + 3, none⟩ = some (.int .i64 d.own) ∧ W.cell? ⟨g, h * 9 + 4, none⟩ = some (.bool d.has) ∧ W.cell? ⟨g, h * 9 + 5, none⟩ = some (.string d.v) ∧ W.cell? ⟨g, h * 9 + 6, none⟩ = some (.slice q.a d.n q.c) ∧ W.cell? ⟨g, h * 9 + 7, none⟩ = some (.int .i64 d.ver) ∧ W.cell? ⟨g, h * 9 + 8, none⟩ = some (.int .i64 d.chg) ∧ W.cell? ⟨w.heap.size, 0, none⟩ = some (.int .i64 k) ∧ W.cell? ⟨w.heap.size, 1, none⟩ = some (.string m)) := fun W hW => by
        have hB := HB.out.trans (hW.mono HB.out.size)
        obtain ⟨a0, a1, a2, a3, a4, a5, a6, a7, a8⟩ := (HL.out W hB).cells h (by omega)
        rw [← hd] at a0 a1 a2 a3 a4 a5 a6 a7 a8
        rw [← hq] at a6
        exact ⟨a0, a1, a2, a3, a4, a5, a6, a7, a8, by rw [hW.cell (p := ⟨w.heap.size, 0, none⟩) hz]; exact k0, by rw [hW.cell (p := ⟨w.heap.size, 1, none⟩) hz]; exact k1⟩
      have C78 : Hid (Calls Try.prog 96 #[.agg #[.int .i64 d.k, .string d.m, .int .i64 d.sin, .int .i64 d.own, .bool d.has, .string d.v, .slice q.a d.n q.c, .int .i64 d.ver, .int .i64 d.chg], .agg #[.int .i64 k, .string m], .pointer (some ⟨xb, 0, none⟩)] wr.drew fun e w' => e = .returned (.int .i64 r) ∧ Hid (Below wr.heap.size wr w')) := by
        have hl := HL.out wr.drew HB.out.drew
        rw [hr]
        exact (c78 xb lb q d k m wr.drew hl.x hl.f1 hl.f2).mono fun e w' ⟨he, hb⟩ => ⟨he, (Below.refl _ _).drew.trans (hb.mono (Nat.le_refl _))⟩
      obtain ⟨a0w, a1w, a2w, a3w, a4w, a5w, a6w, a7w, a8w, b0w, b1w⟩ := HZ.out wr (Below.refl _ _)
      clear hr hd hq k0 k1
      have HE : Hid (((lo : Int) + (hi : Int)) / 2 = (h : Int)) := e1
      clear e1 hh
      go_wp2_with fail
      simp only [HE.out]
      go_region_held3 (fun w' => w'.cell? ⟨g, h * 9, none⟩ = some (.int .i64 d.k) ∧ w'.cell? ⟨g, h * 9 + 1, none⟩ = some (.string d.m) ∧ w'.cell? ⟨g, h * 9 + 2, none⟩ = some (.int .i64 d.sin) ∧ w'.cell? ⟨g, h * 9 + 3, none⟩ = some (.int .i64 d.own) ∧ w'.cell? ⟨g, h * 9 + 4, none⟩ = some (.bool d.has) ∧ w'.cell? ⟨g, h * 9 + 5, none⟩ = some (.string d.v) ∧ w'.cell? ⟨g, h * 9 + 6, none⟩ = some (.slice q.a d.n q.c) ∧ w'.cell? ⟨g, h * 9 + 7, none⟩ = some (.int .i64 d.ver) ∧ w'.cell? ⟨g, h * 9 + 8, none⟩ = some (.int .i64 d.chg) ∧ w'.cell? ⟨w.heap.size, 0, none⟩ = some (.int .i64 k) ∧ w'.cell? ⟨w.heap.size, 1, none⟩ = some (.string m)) (go_keep)
        (first | (go_at_call 96; (with_reducible refine C78.out.mono ?_); rintro e w' ⟨rfl, H5⟩; obtain ⟨a0x, a1x, a2x, a3x, a4x, a5x, a6x, a7x, a8x, b0x, b1x⟩ := HZ.out w' H5.out))
      all_goals
        have HB2 : Hid (Below w.heap.size w w') := HB.out.trans (H5.out.mono HB.out.size)
        have hz2 : w.heap.size < w'.heap.size := Nat.lt_of_lt_of_le hz H5.out.size
        clear a0w a1w a2w a3w a4w a5w a6w a7w a8w b0w b1w a0x a1x a2x a3x a4x a5x a6x a7x a8x C78 HZ H5
        by_cases hyx : r < 0
        · have HY : Hid (r < 0) := hyx
          go_wp2
          go_roundg (hi - (h + 1))
          case measure => omega
          case rel =>
            have I2 : Hid ((∀ t, t < h + 1 → ck (D t).k (D t).m k m < 0) ∧ (∀ t, hi ≤ t → t < n → 0 ≤ ck (D t).k (D t).m k m)) := ⟨fun t ht => ck_mono HU.out (b := h) (by omega) (by omega) (by rw [← HR.out]; exact HY.out), I.out.2⟩
            exact ⟨h + 1, hi, by go_num, rfl, by omega, hin, Nat.le_refl _, HB2, hz2, b0x, b1x, I2⟩
        · have HY : Hid (0 ≤ r) := by show 0 ≤ r; omega
          go_wp2
          go_roundg (h - lo)
          case measure => omega
          case rel =>
            have I2 : Hid ((∀ t, t < lo → ck (D t).k (D t).m k m < 0) ∧ (∀ t, h ≤ t → t < n → 0 ≤ ck (D t).k (D t).m k m)) := ⟨I.out.1, fun t ht htn => Int.not_lt.1 fun hx => by
              have := ck_mono HU.out ht htn hx
              have h2 := HY.out
              rw [HR.out] at h2
              omega⟩
            exact ⟨lo, h, rfl, by go_num, by omega, by omega, Nat.le_refl _, HB2, hz2, b0x, b1x, I2⟩
    · obtain rfl : hi = lo := by omega
      by_cases hnn : hi < n
      · obtain ⟨h, hh⟩ : ∃ h, hi = h := ⟨_, rfl⟩
        have hlt2 : h < n := by omega
        obtain ⟨d, hd⟩ : ∃ d, d = D h := ⟨_, rfl⟩
        obtain ⟨q, hq⟩ : ∃ q, q = p h := ⟨_, rfl⟩
        obtain ⟨r, hr⟩ : ∃ r, r = ck d.k d.m k m := ⟨_, rfl⟩
        have HR : Hid (r = ck (D h).k (D h).m k m) := by rw [hr, hd]; rfl
        have hqn : (h : Int) < (n : Int) := by omega
        have hq0 : (0 : Int) ≤ (h : Int) := by omega
        have HZ : Hid (∀ W, Below wr.heap.size wr W → W.cell? ⟨g, h * 9, none⟩ = some (.int .i64 d.k) ∧ W.cell? ⟨g, h * 9 + 1, none⟩ = some (.string d.m) ∧ W.cell? ⟨g, h * 9 + 2, none⟩ = some (.int .i64 d.sin) ∧ W.cell? ⟨g, h * 9 + 3, none⟩ = some (.int .i64 d.own) ∧ W.cell? ⟨g, h * 9 + 4, none⟩ = some (.bool d.has) ∧ W.cell? ⟨g, h * 9 + 5, none⟩ = some (.string d.v) ∧ W.cell? ⟨g, h * 9 + 6, none⟩ = some (.slice q.a d.n q.c) ∧ W.cell? ⟨g, h * 9 + 7, none⟩ = some (.int .i64 d.ver) ∧ W.cell? ⟨g, h * 9 + 8, none⟩ = some (.int .i64 d.chg) ∧ W.cell? ⟨w.heap.size, 0, none⟩ = some (.int .i64 k) ∧ W.cell? ⟨w.heap.size, 1, none⟩ = some (.string m)) := fun W hW => by
          have hB := HB.out.trans (hW.mono HB.out.size)
          obtain ⟨a0, a1, a2, a3, a4, a5, a6, a7, a8⟩ := (HL.out W hB).cells h (by omega)
          rw [← hd] at a0 a1 a2 a3 a4 a5 a6 a7 a8
          rw [← hq] at a6
          exact ⟨a0, a1, a2, a3, a4, a5, a6, a7, a8, by rw [hW.cell (p := ⟨w.heap.size, 0, none⟩) hz]; exact k0, by rw [hW.cell (p := ⟨w.heap.size, 1, none⟩) hz]; exact k1⟩
        have C78 : Hid (Calls Try.prog 96 #[.agg #[.int .i64 d.k, .string d.m, .int .i64 d.sin, .int .i64 d.own, .bool d.has, .string d.v, .slice q.a d.n q.c, .int .i64 d.ver, .int .i64 d.chg], .agg #[.int .i64 k, .string m], .pointer (some ⟨xb, 0, none⟩)] wr.drew fun e w' => e = .returned (.int .i64 r) ∧ Hid (Below wr.heap.size wr w')) := by
          have hl := HL.out wr.drew HB.out.drew
          rw [hr]
          exact (c78 xb lb q d k m wr.drew hl.x hl.f1 hl.f2).mono fun e w' ⟨he, hb⟩ => ⟨he, (Below.refl _ _).drew.trans (hb.mono (Nat.le_refl _))⟩
        obtain ⟨a0w, a1w, a2w, a3w, a4w, a5w, a6w, a7w, a8w, b0w, b1w⟩ := HZ.out wr (Below.refl _ _)
        clear hr hd hq k0 k1
        rw [hh]
        go_wp2_with fail
        go_region_held3 (fun w' => w'.cell? ⟨g, h * 9, none⟩ = some (.int .i64 d.k) ∧ w'.cell? ⟨g, h * 9 + 1, none⟩ = some (.string d.m) ∧ w'.cell? ⟨g, h * 9 + 2, none⟩ = some (.int .i64 d.sin) ∧ w'.cell? ⟨g, h * 9 + 3, none⟩ = some (.int .i64 d.own) ∧ w'.cell? ⟨g, h * 9 + 4, none⟩ = some (.bool d.has) ∧ w'.cell? ⟨g, h * 9 + 5, none⟩ = some (.string d.v) ∧ w'.cell? ⟨g, h * 9 + 6, none⟩ = some (.slice q.a d.n q.c) ∧ w'.cell? ⟨g, h * 9 + 7, none⟩ = some (.int .i64 d.ver) ∧ w'.cell? ⟨g, h * 9 + 8, none⟩ = some (.int .i64 d.chg) ∧ w'.cell? ⟨w.heap.size, 0, none⟩ = some (.int .i64 k) ∧ w'.cell? ⟨w.heap.size, 1, none⟩ = some (.string m)) (go_keep)
          (first | (go_at_call 96; (with_reducible refine C78.out.mono ?_); rintro e w' ⟨rfl, H5⟩; obtain ⟨a0x, a1x, a2x, a3x, a4x, a5x, a6x, a7x, a8x, b0x, b1x⟩ := HZ.out w' H5.out))
        all_goals
          have HB2 : Hid (Below w.heap.size w w') := HB.out.trans (H5.out.mono HB.out.size)
          have hz2 : w.heap.size < w'.heap.size := Nat.lt_of_lt_of_le hz H5.out.size
          clear a0w a1w a2w a3w a4w a5w a6w a7w a8w b0w b1w a0x a1x a2x a3x a4x a5x a6x a7x a8x C78 HZ H5
          have HF : Hid (FindAtR n D k m h (r == 0)) := by
            by_cases hyx : r = 0
            · have u0 : (r == 0) = true := by rw [beq_iff_eq]; exact hyx
              show FindAtR n D k m h (r == 0)
              rw [u0]; exact find_yesR hlt2 (HR.out.symm.trans hyx)
            · have u0 : (r == 0) = false := beq_eq_false_iff_ne.2 hyx
              show FindAtR n D k m h (r == 0)
              rw [u0]; exact find_noR (by omega) HU.out (by rw [← hh]; exact I.out.1) (by rw [← hh]; exact I.out.2) (fun _ => by rw [← HR.out]; exact hyx)
          go_wp2
          go_ret2
          exact ⟨h, (r == 0), rfl, HF.out, HB2.out⟩
      · have HF : Hid (FindAtR n D k m hi false) := find_noR (by omega) HU.out I.out.1 I.out.2 (fun h => absurd h hnn)
        have n0 : decide (hi < n) = false := decide_eq_false hnn
        clear hnn
        go_wp2
        go_quiet (fail)
        go_wp2
        go_ret2
        exact ⟨hi, false, rfl, HF.out, below_drewN HB.out _⟩

set_option maxRecDepth 100000 in
set_option maxHeartbeats 4000000 in
theorem r62 (base lb g n cap : Nat) (p : Nat → SP) (D : Nat → SD) (k : Int) (m : ByteArray) (w : World) (h : OS w base lb (.slice (some ⟨g, 0, none⟩) n cap) n p D) (hU : Up n D) (hn : n ≤ 1048576) :
    Calls Try.prog 78 #[.pointer (some ⟨lb, 0, none⟩), .agg #[.int .i64 k, .string m]] w fun e w' => BsPostR w n D k m e w' := by
  have BB : Below w.heap.size w ((w.alloc (.cells #[.pointer (some ⟨lb, 0, none⟩)] 74)).alloc (.cells #[.int .i64 k, .string m] 37)) := bel2 _ _ _
  have HZ0 : ∀ W, Below ((w.alloc (.cells #[.pointer (some ⟨lb, 0, none⟩)] 74)).alloc (.cells #[.int .i64 k, .string m] 37)).heap.size ((w.alloc (.cells #[.pointer (some ⟨lb, 0, none⟩)] 74)).alloc (.cells #[.int .i64 k, .string m] 37)) W → Look W w.heap.size lb g n cap p D ∧ W.cell? ⟨lb, 0, none⟩ = some (.slice (some ⟨g, 0, none⟩) n cap) ∧ W.cell? ⟨w.heap.size + 1, 0, none⟩ = some (.int .i64 k) ∧ W.cell? ⟨w.heap.size + 1, 1, none⟩ = some (.string m) := fun W hW => by
    have h2 := h.below (BB.trans (hW.mono BB.size))
    refine ⟨⟨?_, h2.row.cell (i := 1) (by omega), h2.row.cell (i := 2) (by omega), fun i hi => nine_ec h2.own i hi⟩, h2.row.cell (i := 0) (by omega), ?_, ?_⟩
    · rw [hW.cell (p := ⟨w.heap.size, 0, none⟩) (by simp; omega)]; simp
    · rw [hW.cell (p := ⟨w.heap.size + 1, 0, none⟩) (by simp)]; simp
    · rw [hW.cell (p := ⟨w.heap.size + 1, 1, none⟩) (by simp)]; simp
  clear h
  go_enter Try.func78, Try.ntmps78
  go_wp2_with fail
  obtain ⟨WX, hWX⟩ : ∃ WX, WX = ((w.alloc (.cells #[.pointer (some ⟨lb, 0, none⟩)] 74)).alloc (.cells #[.int .i64 k, .string m] 37)) := ⟨_, rfl⟩
  rw [← hWX] at BB HZ0
  rw [← hWX]
  have HXB : Hid (Below w.heap.size w WX) := BB
  have HZ : Hid (∀ W, Below WX.heap.size WX W → Look W w.heap.size lb g n cap p D ∧ W.cell? ⟨lb, 0, none⟩ = some (.slice (some ⟨g, 0, none⟩) n cap) ∧ W.cell? ⟨w.heap.size + 1, 0, none⟩ = some (.int .i64 k) ∧ W.cell? ⟨w.heap.size + 1, 1, none⟩ = some (.string m)) := HZ0
  have C77 : Hid (Calls Try.prog 95 #[.slice (some ⟨g, 0, none⟩) n cap, .agg #[.int .i64 k, .string m], .func (.func 96) #[] #[.pointer (some ⟨w.heap.size, 0, none⟩)]] WX.drew fun e w' => ∃ (i : Nat) (f : Bool), e = .returned (.tuple #[.int .i64 (i : Int), .bool f]) ∧ Hid (FindAtR n D k m i f) ∧ Hid (Below WX.heap.size WX w')) :=
    (r77 w.heap.size lb g n cap p D k m WX.drew (HZ.out WX.drew (Below.refl _ _).drew).1 hU hn).mono fun e w' ⟨i, f, he, hf, hb⟩ => ⟨i, f, he, hf, (Below.refl _ _).drew.trans (hb.mono (Nat.le_refl _))⟩
  obtain ⟨L0, l0, t0, t1⟩ := HZ.out WX (Below.refl _ _)
  have x0 := L0.x
  clear L0 hU BB HZ0 hWX
  go_region_held3 (fun w' => w'.cell? ⟨lb, 0, none⟩ = some (.slice (some ⟨g, 0, none⟩) n cap) ∧ w'.cell? ⟨w.heap.size + 1, 0, none⟩ = some (.int .i64 k) ∧ w'.cell? ⟨w.heap.size + 1, 1, none⟩ = some (.string m) ∧ w'.cell? ⟨w.heap.size, 0, none⟩ = some (.pointer (some ⟨lb, 0, none⟩))) (go_keep)
    (first | (go_at_call 95; (with_reducible refine C77.out.mono ?_); rintro e w3 ⟨i, f, rfl, HF, H3⟩; obtain ⟨L3, l3, t3, t4⟩ := HZ.out w3 H3.out; have x3 := L3.x))
  all_goals
    clear L3 l3 t3 t4 x3 l0 t0 t1 x0 C77 HZ
    go_wp2
    go_ret2
    exact ⟨i, f, rfl, HF.out, HXB.out.trans (H3.out.mono HXB.out.size)⟩

end Go.Proofs.Ytpbebpcoeeednaa
