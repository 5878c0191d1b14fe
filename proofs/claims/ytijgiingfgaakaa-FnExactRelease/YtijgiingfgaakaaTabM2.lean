/-
  Tables: the law's marks on slots.
-/
import Derived.Test.YtijgiingfgaakaaTabM
namespace Go.Proofs.Ytijgiingfgaakaa
open Go.RowKit

/-- A slot marked from a number on. -/
def md (x : Nat) (d : SD) : SD :=
  ⟨(x : Int), mt (x + 1), (((x : Int) + 1 + 1) % 3 == 0), mt (x + 3), d.n, mkK (x + 4), mkM (x + 4), ((x + 4 + 2 * d.n : Nat) : Int), ((x + 5 + 2 * d.n : Nat) : Int), ((x + 6 + 2 * d.n : Nat) : Int), ((x + 7 + 2 * d.n : Nat) : Int)⟩
/-- The number with which the slots behind the first i begin. -/
def cnt (x : Nat) (D : Nat → SD) : Nat → Nat
  | 0 => x
  | i + 1 => cnt x D i + 8 + 2 * (D i).n
/-- The slots, marked. -/
def MD (x : Nat) (D : Nat → SD) (i : Nat) : SD := md (cnt x D i) (D i)

theorem cnt_le (x : Nat) (D : Nat → SD) (n : Nat) (h : ∀ i, i < n → (D i).n ≤ 1048576) : ∀ i, i ≤ n → x ≤ cnt x D i ∧ cnt x D i ≤ x + i * 2097160 := by
  intro i
  induction i with
  | zero => intro _; exact ⟨Nat.le_refl _, by show x ≤ _; omega⟩
  | succ i ih =>
    intro hi
    have := ih (by omega)
    have := h i (by omega)
    show x ≤ cnt x D i + 8 + 2 * (D i).n ∧ cnt x D i + 8 + 2 * (D i).n ≤ _
    omega

/-- The slots while they are being marked. -/
structure MkS (lo hi : Nat) (w wr : World) (b n k x : Nat) (p : Nat → SP) (D : Nat → SD) : Prop where
  span : Span lo hi w wr
  row : 0 < n → ∃ (N : Nat) (f : Nat → Value), wr.rowIs b 40 N f ∧ n * 9 ≤ N ∧ (∀ i, i < n → f (i * 9 + 4) = .slice (p i).a (D i).n (p i).c) ∧ ∀ i j, i < k → j < 9 → f (i * 9 + j) = sc (p i) (MD x D i) j
  done : ∀ i, i < k → KeysNew wr lo hi (p i).a (p i).b (D i).n (MD x D i).dk (MD x D i).dm
  left : ∀ i, k ≤ i → i < n → KeysNew wr lo hi (p i).a (p i).b (D i).n (D i).dk (D i).dm

theorem KeysNew.but {w w' : World} {lo hi : Nat} {ao : Option Addr} {b n : Nat} {K : Nat → Int} {M : Nat → ByteArray} (h : KeysNew w lo hi ao b n K M) {b2 n2 : Nat} (hs : But b2 n2 w w') (hd : 0 < n → 0 < n2 → b ≠ b2) : KeysNew w' lo hi ao b n K M :=
  ⟨h.at_, fun q => (h.row q).of (hs.block b (h.row q).lt (hd q)), h.inn⟩
theorem KeysNew.far {w : World} {lo hi : Nat} {ao : Option Addr} {b n : Nat} {K : Nat → Int} {M : Nat → ByteArray} (h : KeysNew w lo hi ao b n K M) {a : Addr} (ha : 0 < n → b ≠ a.block) (v : Value) : KeysNew (w.setCell a v) lo hi ao b n K M :=
  ⟨h.at_, fun q => (h.row q).set (ha q) v, h.inn⟩

/-- The row with a slot marked. -/
theorem nine_set {f : Nat → Value} {o : Nat} {v : Nat → Value} (h4 : f (o + 4) = v 4) (y : Nat) :
    (if y = o + 8 then v 8 else if y = o + 7 then v 7 else if y = o + 6 then v 6 else if y = o + 5 then v 5 else if y = o + 3 then v 3 else if y = o + 2 then v 2 else if y = o + 1 then v 1 else if y = o then v 0 else f y) = if o ≤ y ∧ y < o + 9 then v (y - o) else f y := by
  by_cases h : o ≤ y ∧ y < o + 9
  · obtain ⟨j, rfl⟩ : ∃ j, y = o + j := ⟨y - o, by omega⟩
    rw [if_pos h, Nat.add_sub_cancel_left]
    have hj : j < 9 := by omega
    match j, hj with
    | 0, _ => simp
    | 1, _ => simp
    | 2, _ => simp
    | 3, _ => simp
    | 4, _ => simp [h4]
    | 5, _ => simp
    | 6, _ => simp
    | 7, _ => simp
    | 8, _ => simp
  · rw [if_neg h, if_neg (by omega), if_neg (by omega), if_neg (by omega), if_neg (by omega), if_neg (by omega), if_neg (by omega), if_neg (by omega), if_neg (by omega)]

theorem mks_step {lo hi : Nat} {w wr w1 w2 w3 : World} {ao : Option Addr} {b n k x : Nat} {p : Nat → SP} {D : Nat → SD} (hT : TabNew w lo hi ao b n p D) (h : MkS lo hi w wr b n k x p D) (hk : k < n) {v : Nat → Value} (hv : v = sc (p k) (MD x D k))
    (hb1 : Below wr.heap.size (wr.setCell ⟨b, k * 9, none⟩ (v 0)) w1) (hb2 : Below w1.heap.size ((w1.setCell ⟨b, k * 9 + 1, none⟩ (v 1)).setCell ⟨b, k * 9 + 2, none⟩ (v 2)) w2)
    (h3 : But (p k).b (D k).n (w2.setCell ⟨b, k * 9 + 3, none⟩ (v 3)) w3) (hK : KeysNew w3 lo hi (p k).a (p k).b (D k).n (MD x D k).dk (MD x D k).dm) :
    MkS lo hi w ((((w3.setCell ⟨b, k * 9 + 5, none⟩ (v 5)).setCell ⟨b, k * 9 + 6, none⟩ (v 6)).setCell ⟨b, k * 9 + 7, none⟩ (v 7)).setCell ⟨b, k * 9 + 8, none⟩ (v 8)) b n (k + 1) x p D := by
  obtain ⟨N, f, hr, hN, h4, hf⟩ := h.row (by omega)
  have hbl := hr.lt
  obtain ⟨l1, l2⟩ := hT.inn (by omega)
  have z1 := hb1.size
  have z2 := hb2.size
  have z3 := h3.size
  simp only [World.size_setCell] at z1 z2 z3
  have hne : ∀ i, i < n → 0 < (D i).n → (p i).b ≠ b := fun i hi => (hT.keys i hi).2.2
  have bb : 0 < (D k).n → b ≠ (p k).b := fun q e => hne k hk q e.symm
  have kk : ∀ i, i < n → ∀ K M, KeysNew wr lo hi (p i).a (p i).b (D i).n K M → i ≠ k → KeysNew ((((w3.setCell ⟨b, k * 9 + 5, none⟩ (v 5)).setCell ⟨b, k * 9 + 6, none⟩ (v 6)).setCell ⟨b, k * 9 + 7, none⟩ (v 7)).setCell ⟨b, k * 9 + 8, none⟩ (v 8)) lo hi (p i).a (p i).b (D i).n K M := fun i hi K M hh hik => by
    have a1 := (hh.far (a := ⟨b, k * 9, none⟩) (hne i hi) (v 0)).below (by rw [World.size_setCell]; exact hb1)
    have a2 := ((a1.far (a := ⟨b, k * 9 + 1, none⟩) (hne i hi) (v 1)).far (a := ⟨b, k * 9 + 2, none⟩) (hne i hi) (v 2)).below (by simp only [World.size_setCell]; exact hb2)
    have a3 := (a2.far (a := ⟨b, k * 9 + 3, none⟩) (hne i hi) (v 3)).but h3 (fun q1 q2 => hT.dist i k hi hk hik q1 q2)
    exact (((a3.far (a := ⟨b, k * 9 + 5, none⟩) (hne i hi) (v 5)).far (a := ⟨b, k * 9 + 6, none⟩) (hne i hi) (v 6)).far (a := ⟨b, k * 9 + 7, none⟩) (hne i hi) (v 7)).far (a := ⟨b, k * 9 + 8, none⟩) (hne i hi) (v 8)
  refine ⟨?_, fun _ => ?_, fun i hi => ?_, fun i hki hi => kk i hi _ _ (h.left i (by omega) hi) (by omega)⟩
  · have s1 := (h.span.set (b := b) (k * 9) l1 l2 (v 0)).below (by rw [World.size_setCell]; exact hb1)
    have s2 := ((s1.set (b := b) (k * 9 + 1) l1 l2 (v 1)).set (b := b) (k * 9 + 2) l1 l2 (v 2)).below (by simp only [World.size_setCell]; exact hb2)
    have s3 := (s2.set (b := b) (k * 9 + 3) l1 l2 (v 3)).trans (h3.span (lo := lo) (hi := hi) (fun q => hK.inn q))
    exact (((s3.set (b := b) (k * 9 + 5) l1 l2 (v 5)).set (b := b) (k * 9 + 6) l1 l2 (v 6)).set (b := b) (k * 9 + 7) l1 l2 (v 7)).set (b := b) (k * 9 + 8) l1 l2 (v 8)
  · have r1 := (hr.set (k * 9) (v 0)).of_block (hb1.block b hbl)
    have r2 := ((r1.set (k * 9 + 1) (v 1)).set (k * 9 + 2) (v 2)).of_block (hb2.block b (by omega))
    have r3 := (r2.set (k * 9 + 3) (v 3)).of_block (h3.block b (by simp only [World.size_setCell]; omega) bb)
    have r4 := (((r3.set (k * 9 + 5) (v 5)).set (k * 9 + 6) (v 6)).set (k * 9 + 7) (v 7)).set (k * 9 + 8) (v 8)
    have e4 : f (k * 9 + 4) = v 4 := by rw [h4 k hk, hv]; rfl
    refine ⟨N, _, r4.congr (fun y _ => nine_set e4 y), hN, fun i hi => ?_, fun i j hi hj => ?_⟩
    · by_cases e : i = k
      · subst e
        rw [if_pos (by omega), Nat.add_sub_cancel_left, ← e4, h4 i hk]
      · rw [if_neg (by omega), h4 i hi]
    · by_cases e : i = k
      · subst e
        rw [if_pos (by omega), Nat.add_sub_cancel_left, hv]
      · rw [if_neg (by omega), hf i j (by omega) hj]
  · by_cases e : i = k
    · subst e
      exact (((hK.far (a := ⟨b, i * 9 + 5, none⟩) (hne i hk) (v 5)).far (a := ⟨b, i * 9 + 6, none⟩) (hne i hk) (v 6)).far (a := ⟨b, i * 9 + 7, none⟩) (hne i hk) (v 7)).far (a := ⟨b, i * 9 + 8, none⟩) (hne i hk) (v 8)
    · exact kk i (by omega) _ _ (h.done i (by omega)) e

theorem t_markKeyS' (z : Int) (lo hi : Nat) (ao : Option Addr) (b n c : Nat) (K : Nat → Int) (M : Nat → ByteArray) (x : Nat) (w : World) (hz : z = (x : Int)) (h1 : KeysNew w lo hi ao b n K M) (hx1 : 1 ≤ x) (hx2 : x ≤ 2305843009213693952) (hn : n ≤ 1048576) :
    Calls Try.prog 29 #[.slice ao n c, .int .i64 z] w fun e w' => e = .returned (.int .i64 ((x + 2 * n : Nat) : Int)) ∧ KeysNew w' lo hi ao b n (mkK x) (mkM x) ∧ But b n w w' := by
  subst hz; exact t_markKeyS lo hi ao b n c K M x w h1 hx1 hx2 hn

theorem t_heldKeyS' (z : Int) (lo hi : Nat) (ao : Option Addr) (b n c : Nat) (x : Nat) (w : World) (hz : z = (x : Int)) (h1 : KeysNew w lo hi ao b n (mkK x) (mkM x)) (hx1 : 1 ≤ x) (hx2 : x ≤ 2305843009213693952) (hn : n ≤ 1048576) :
    Calls Try.prog 48 #[.slice ao n c, .int .i64 z] w fun e w' => e = .returned (.int .i64 ((x + 2 * n : Nat) : Int)) ∧ Below w.heap.size w w' := by
  subst hz; exact t_heldKeyS lo hi ao b n c x w h1 hx1 hx2 hn

set_option maxRecDepth 100000 in
set_option maxHeartbeats 4000000 in
theorem t_markSlotS (lo hi : Nat) (ao : Option Addr) (b n c : Nat) (p : Nat → SP) (D : Nat → SD) (x : Nat) (w : World) (h1 : TabNew w lo hi ao b n p D) (hx1 : 1 ≤ x) (hx2 : x ≤ 1048576) (hn : n ≤ 1048576) (hG : ∀ i, i < n → (D i).n ≤ 1048576) :
    Calls Try.prog 42 #[.slice ao n c, .int .i64 (x : Int)] w fun e w' => e = .returned (.int .i64 ((cnt x D n : Nat) : Int)) ∧ TabNew w' lo hi ao b n p (MD x D) ∧ Span lo hi w w' := by
  have A1 := h1.at_
  have HT : Hid (TabNew w lo hi ao b n p D) := h1
  have HG : Hid (∀ i, i < n → (D i).n ≤ 1048576) := hG
  have ST : MkS lo hi w w b n 0 x p D := ⟨Span.refl _ _ _, fun q => by
    obtain ⟨N, f, hr, hN, hf⟩ := h1.row q
    exact ⟨N, f, hr, hN, fun i hi => hf i 4 hi (by omega), fun i j hi => absurd hi (Nat.not_lt_zero _)⟩, fun i hi => absurd hi (Nat.not_lt_zero _), fun i _ hi => (h1.keys i hi).1⟩
  have HC : Hid (∀ i, i ≤ n → x ≤ cnt x D i ∧ cnt x D i ≤ x + i * 2097160) := cnt_le x D n hG
  clear h1 hG
  go_enter Try.func42, Try.ntmps42
  go_wp2
  go_loopw [1, 5] (fun y i wr => ∃ k : Nat, k ≤ n ∧ i = .int .i64 k ∧ y = .int .i64 ((cnt x D k : Nat) : Int) ∧ MkS lo hi w wr b n k x p D) (fun _ i _ => n - (intOf i).toNat)
  case atStart => exact ⟨0, Nat.zero_le _, rfl, rfl, ST⟩
  case round =>
    obtain ⟨k, hk, rfl, rfl, hM⟩ := hrel
    clear ST
    by_cases hlt : k < n
    · have e1 := A1 (by omega)
      subst e1
      obtain ⟨N, f, hr, hN, h4, _⟩ := hM.row (by omega)
      have k0 := hr.cell (i := k * 9) (by omega)
      have f0 := hr.frozen (k * 9)
      have HR : Hid (wr.rowIs b 40 N f ∧ f (k * 9 + 4) = .slice (p k).a (D k).n (p k).c) := ⟨hr, h4 k hlt⟩
      have HM : Hid (MkS lo hi w wr b n k x p D) := hM
      have hbl := hr.lt
      have hc := HC.out k hk
      have hg := HG.out k hlt
      obtain ⟨y, hy⟩ : ∃ y : Nat, y = cnt x D k := ⟨_, rfl⟩
      have HX : Hid (y = cnt x D k) := hy
      have hy1 : 1 ≤ y := by omega
      have hy2 : y ≤ 2199032235009 := by omega
      rw [← hy]
      clear hr hM hy h4 hc
      go_wp2_with fail
      refine (t_markText _ (y + 1) _ (by omega) (by omega) (by omega)).mono ?_
      rintro e w1 ⟨rfl, hb1⟩
      have hsz : (wr.setCell ⟨b, k * 9, none⟩ (.int .i64 (y : Int))).heap.size = wr.heap.size := by simp [World.setCell]
      have r1 := (HR.out.1.set (k * 9) (.int .i64 (y : Int))).of_block (hb1.block _ (by rw [hsz]; exact hbl))
      rw [hsz] at hb1
      have H1 : Hid (Below wr.heap.size (wr.setCell ⟨b, k * 9, none⟩ (.int .i64 (y : Int))) w1 ∧ w1.rowIs b 40 N _) := ⟨hb1, r1⟩
      have s1 := r1.cell (i := k * 9 + 1) (by omega)
      have t1 := r1.frozen (k * 9 + 1)
      have s2 := r1.cell (i := k * 9 + 2) (by omega)
      have t2 := r1.frozen (k * 9 + 2)
      clear hb1 r1 hsz k0 f0
      go_wp2_with fail
      refine (t_markText _ (y + 3) _ (by omega) (by omega) (by omega)).mono ?_
      rintro e w2 ⟨rfl, hb2⟩
      have hsz : ((w1.setCell ⟨b, k * 9 + 1, none⟩ (.string (mt (y + 1)))).setCell ⟨b, k * 9 + 2, none⟩ (.bool (((y : Int) + 1 + 1) % 3 == 0))).heap.size = w1.heap.size := by simp [World.setCell]
      have r2 := ((H1.out.2.set (k * 9 + 1) (.string (mt (y + 1)))).set (k * 9 + 2) (.bool (((y : Int) + 1 + 1) % 3 == 0))).of_block (hb2.block _ (by rw [hsz]; exact H1.out.2.lt))
      rw [hsz] at hb2
      have H2 : Hid (Below w1.heap.size ((w1.setCell ⟨b, k * 9 + 1, none⟩ (.string (mt (y + 1)))).setCell ⟨b, k * 9 + 2, none⟩ (.bool (((y : Int) + 1 + 1) % 3 == 0))) w2 ∧ w2.rowIs b 40 N _) := ⟨hb2, r2⟩
      have s3 := r2.cell (i := k * 9 + 3) (by omega)
      have t3 := r2.frozen (k * 9 + 3)
      have s4 : (w2.setCell ⟨b, k * 9 + 3, none⟩ (.string (mt (y + 3)))).cell? ⟨b, k * 9 + 4, none⟩ = some (.slice (p k).a (D k).n (p k).c) := by
        rw [(r2.set (k * 9 + 3) (.string (mt (y + 3)))).cell (i := k * 9 + 4) (by omega), ← HR.out.2]
        show some (if k * 9 + 4 = k * 9 + 3 then _ else if k * 9 + 4 = k * 9 + 2 then _ else if k * 9 + 4 = k * 9 + 1 then _ else if k * 9 + 4 = k * 9 then _ else f (k * 9 + 4)) = _
        rw [if_neg (by omega), if_neg (by omega), if_neg (by omega), if_neg (by omega)]
      have KN : Hid (KeysNew (w2.setCell ⟨b, k * 9 + 3, none⟩ (.string (mt (y + 3)))) lo hi (p k).a (p k).b (D k).n (D k).dk (D k).dm) := by
        have hne := (HT.out.keys k hlt).2.2
        have a1 := ((HM.out.left k (Nat.le_refl _) hlt).far (a := ⟨b, k * 9, none⟩) hne (.int .i64 (y : Int))).below (by rw [World.size_setCell]; exact H1.out.1)
        have a2 := ((a1.far (a := ⟨b, k * 9 + 1, none⟩) hne (.string (mt (y + 1)))).far (a := ⟨b, k * 9 + 2, none⟩) hne (.bool (((y : Int) + 1 + 1) % 3 == 0))).below (by simp only [World.size_setCell]; exact H2.out.1)
        exact a2.far (a := ⟨b, k * 9 + 3, none⟩) hne _
      clear hb2 r2 hsz s1 s2 t1 t2
      go_wp2_with fail
      refine (t_markKeyS' _ lo hi (p k).a (p k).b (D k).n (p k).c (D k).dk (D k).dm (y + 4) _ (by omega) KN.out (by omega) (by omega) hg).mono ?_
      rintro e w3 ⟨rfl, K3, hb3⟩
      have H3 : Hid (KeysNew w3 lo hi (p k).a (p k).b (D k).n (mkK (y + 4)) (mkM (y + 4)) ∧ But (p k).b (D k).n (w2.setCell ⟨b, k * 9 + 3, none⟩ (.string (mt (y + 3)))) w3) := ⟨K3, hb3⟩
      have hbe : 0 < (D k).n → b ≠ (p k).b := fun q e => (HT.out.keys k hlt).2.2 q e.symm
      have r3 := (H2.out.2.set (k * 9 + 3) (.string (mt (y + 3)))).of_block (hb3.block b (by simp only [World.size_setCell]; exact H2.out.2.lt) hbe)
      have s5 := r3.cell (i := k * 9 + 5) (by omega)
      have t5 := r3.frozen (k * 9 + 5)
      have s6 := r3.cell (i := k * 9 + 6) (by omega)
      have t6 := r3.frozen (k * 9 + 6)
      have s7 := r3.cell (i := k * 9 + 7) (by omega)
      have t7 := r3.frozen (k * 9 + 7)
      have s8 := r3.cell (i := k * 9 + 8) (by omega)
      have t8 := r3.frozen (k * 9 + 8)
      obtain ⟨z, hz⟩ : ∃ z : Nat, z = y + 4 + 2 * (D k).n := ⟨_, rfl⟩
      have HZ : Hid (z = y + 4 + 2 * (D k).n) := hz
      have hz1 : z ≤ 2199034332169 := by omega
      rw [← hz]
      have HN : Hid (MkS lo hi w ((((w3.setCell ⟨b, k * 9 + 5, none⟩ (.int .i64 (z : Int))).setCell ⟨b, k * 9 + 6, none⟩ (.int .i64 ((z : Int) + 1))).setCell ⟨b, k * 9 + 7, none⟩ (.int .i64 ((z : Int) + 1 + 1))).setCell ⟨b, k * 9 + 8, none⟩ (.int .i64 ((z : Int) + 1 + 1 + 1))) b n (k + 1) x p D) := by
        have q0 : sc (p k) (MD x D k) 0 = .int .i64 (y : Int) := by show Value.int .i64 ((cnt x D k : Nat) : Int) = _; rw [← HX.out]
        have q1 : sc (p k) (MD x D k) 1 = .string (mt (y + 1)) := by show Value.string (mt (cnt x D k + 1)) = _; rw [← HX.out]
        have q2 : sc (p k) (MD x D k) 2 = .bool (((y : Int) + 1 + 1) % 3 == 0) := by show Value.bool ((((cnt x D k : Nat) : Int) + 1 + 1) % 3 == 0) = _; rw [← HX.out]
        have q3 : sc (p k) (MD x D k) 3 = .string (mt (y + 3)) := by show Value.string (mt (cnt x D k + 3)) = _; rw [← HX.out]
        have q5 : sc (p k) (MD x D k) 5 = .int .i64 (z : Int) := by show Value.int .i64 ((cnt x D k + 4 + 2 * (D k).n : Nat) : Int) = _; rw [← HX.out, ← HZ.out]
        have q6 : sc (p k) (MD x D k) 6 = .int .i64 ((z : Int) + 1) := by show Value.int .i64 ((cnt x D k + 5 + 2 * (D k).n : Nat) : Int) = _; rw [← HX.out, HZ.out]; congr 1; omega
        have q7 : sc (p k) (MD x D k) 7 = .int .i64 ((z : Int) + 1 + 1) := by show Value.int .i64 ((cnt x D k + 6 + 2 * (D k).n : Nat) : Int) = _; rw [← HX.out, HZ.out]; congr 1; omega
        have q8 : sc (p k) (MD x D k) 8 = .int .i64 ((z : Int) + 1 + 1 + 1) := by show Value.int .i64 ((cnt x D k + 7 + 2 * (D k).n : Nat) : Int) = _; rw [← HX.out, HZ.out]; congr 1; omega
        have := mks_step (w1 := w1) (w2 := w2) (w3 := w3) HT.out HM.out hlt rfl (by rw [q0]; exact H1.out.1) (by rw [q1, q2]; exact H2.out.1) (by rw [q3]; exact H3.out.2) (by
          show KeysNew w3 lo hi (p k).a (p k).b (D k).n (mkK (cnt x D k + 4)) (mkM (cnt x D k + 4))
          rw [← HX.out]; exact H3.out.1)
        rw [q5, q6, q7, q8] at this
        exact this
      clear K3 hb3 r3 H1 H2 H3 HM HR KN s3 s4 t3 hbe hz
      go_wp2
      go_roundw
      case rel => exact ⟨k + 1, by omega, by go_num, by have := HX.out; have := HZ.out; show _ = Value.int .i64 ((cnt x D k + 8 + 2 * (D k).n : Nat) : Int); first | (congr 1; omega) | (simp; omega), HN.out⟩
      case measure => simp [intOf]; omega
    · have hkn : k = n := by omega
      subst hkn
      have FIN : Hid (TabNew wr lo hi ao b k p (MD x D) ∧ Span lo hi w wr) := ⟨⟨HT.out.at_, fun q => by
          obtain ⟨N, f, hr, hN, _, hf⟩ := hM.row q
          exact ⟨N, f, hr, hN, hf⟩, HT.out.inn, fun i hi => ⟨hM.done i hi, (HT.out.keys i hi).2⟩, fun i j hi hj hij q1 q2 => HT.out.dist i j hi hj hij q1 q2⟩, hM.span⟩
      clear hM
      go_wp2
      go_ret
      exact ⟨rfl, FIN.out⟩

end Go.Proofs.Ytijgiingfgaakaa
