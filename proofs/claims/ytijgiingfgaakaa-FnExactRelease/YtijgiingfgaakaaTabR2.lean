/-
  Tables: the slots that go are taken out.
-/
import Derived.Test.YtijgiingfgaakaaTabR1
namespace Go.Proofs.Ytijgiingfgaakaa
open Go.RowKit

theorem row_setCells {b : Nat} {t : TypeId} {N : Nat} : ∀ (vs : List Value) (o : Nat) {w : World} {f : Nat → Value}, w.rowIs b t N f → ∃ f', (w.setCells b o vs).rowIs b t N f' ∧ ∀ j, j < o → f' j = f j
  | [], _, _, f, h => ⟨f, h, fun _ _ => rfl⟩
  | v :: r, o, w, f, h => by
    obtain ⟨f', h1, h2⟩ := row_setCells r (o + 1) (h.set o v)
    refine ⟨f', h1, fun j hj => ?_⟩
    rw [h2 j (by omega)]
    show (if j = o then v else f j) = f j
    rw [if_neg (by omega)]
theorem span_setCells {g : Nat} : ∀ (vs : List Value) (o : Nat) {w W : World}, Span g (g + 1) w W → Span g (g + 1) w (W.setCells g o vs)
  | [], _, _, _, h => h
  | v :: r, o, w, W, h => span_setCells r (o + 1) (h.set o (Nat.le_refl _) (by omega) v)

theorem run_clear9 (w : World) (ty : TypeId) (g o n c N : Nat) (f : Nat → Value) (h : w.rowIs g 78 N f) (hn : 0 < n) (hN : o + n * 9 ≤ N) :
    ∃ vs, (Builtin.clear_ #[102] ty #[.slice (some ⟨g, o, none⟩) n c]).run Try.prog w = .ok (.tuple #[]) (w.setCells g o vs) := by
  obtain ⟨i0, hi0, hz0, hz1, hz2⟩ := info_parts' Try.info78
  have hv : ∀ w, (zeroValue 78).run Try.prog w = .ok (.agg #[.int .i64 0, .string ByteArray.empty, .int .i64 0, .int .i64 0, .bool false, .string ByteArray.empty, .slice none 0 0, .int .i64 0, .int .i64 0]) w := fun w => by simp [zeroValue, typeInfo, hi0, hz0]
  obtain ⟨L, hL⟩ : ∃ L, L = (Builtin.zeroCells (Value.agg #[.int .i64 0, .string ByteArray.empty, .int .i64 0, .int .i64 0, .bool false, .string ByteArray.empty, .slice none 0 0, .int .i64 0, .int .i64 0]).cells n).toList := ⟨_, rfl⟩
  have hlen : L.length = n * 9 := by rw [hL, Array.length_toList, size_zeroCells]; rfl
  have hone : ∀ v ∈ L, v.oneCell' = true := by
    intro v hvm
    rw [hL] at hvm
    simp [Builtin.zeroCells, Value.cells] at hvm
    obtain ⟨j, _, rfl⟩ := hvm
    have hj : j % 9 < 9 := Nat.mod_lt _ (by omega)
    generalize j % 9 = r at hj
    match r, hj with
    | 0, _ => rfl
    | 1, _ => rfl
    | 2, _ => rfl
    | 3, _ => rfl
    | 4, _ => rfl
    | 5, _ => rfl
    | 6, _ => rfl
    | 7, _ => rfl
    | 8, _ => rfl
  have hst := run_storeCells_cells (P := Try.prog) g o L 0 w (fun j hj => by rw [Nat.add_zero, h.cell (by omega)]; rfl) (fun j hj => h.frozen _) hone
  simp only [Nat.add_zero] at hst
  obtain ⟨m, rfl⟩ : ∃ m, n = m + 1 := ⟨n - 1, by omega⟩
  refine ⟨L, ?_⟩
  rw [hL] at hst ⊢
  simp [Builtin.clear_, run_underlying Try.underlying102, hv, hst]

/-- The entries while some go. -/
structure DL (w wr : World) (g xb n N q : Nat) (wk : Int) (p : Nat → SP) (D : Nat → SD) : Prop where
  span : Span g (g + 1) w wr
  x : wr.cell? ⟨xb, 0, none⟩ = some (.int .i64 wk)
  row : ∃ f, wr.rowIs g 78 N f ∧ (∀ a b, a < kc D wk q → b < 9 → f (a * 9 + b) = ecf (p (kt n D wk a)) (D (kt n D wk a)) b) ∧ ∀ a b, q ≤ a → a < n → b < 9 → f (a * 9 + b) = ecf (p a) (D a) b

theorem dl_start {w w1 : World} {g xb n N i : Nat} {wk : Int} {p : Nat → SP} {D : Nat → SD} (h : Ents w1 g xb n N wk p D) (hb : Below w.heap.size w w1) (hi : i < n) (hd : del wk (D i) = true) (ha : ∀ j, j < i → del wk (D j) = false) : DL w w1 g xb n N (i + 1) wk p D := by
  obtain ⟨f, h1, h2, h3⟩ := h.row
  refine ⟨Span.of_below hb, h.x, f, h1, fun a b hac hb => ?_, fun a b _ han hb => h3 a b han hb⟩
  have e : kc D wk (i + 1) = i := by rw [kc_del hd, kc_all ha]
  rw [e] at hac
  have e2 : kt n D wk a = a := by
    have := kt_at (n := n) (q := a) (D := D) (wk := wk) (by omega) (ha a hac)
    rw [kc_all (fun j hj => ha j (by omega))] at this
    exact this
  rw [e2]; exact h3 a b (by omega) hb

theorem DL.ent {w wr : World} {g xb n N q : Nat} {wk : Int} {p : Nat → SP} {D : Nat → SD} (h : DL w wr g xb n N q wk p D) (hN : n * 9 ≤ N) (hq : q < n) : Ent wr g (q * 9) (p q) (D q) := by
  obtain ⟨f, h1, _, h3⟩ := h.row
  have key : ∀ b, b < 9 → wr.cell? ⟨g, q * 9 + b, none⟩ = some (ecf (p q) (D q) b) := fun b hb => by rw [h1.cell (by omega), h3 q b (Nat.le_refl _) hq hb]
  exact ⟨key 0 (by omega), key 1 (by omega), key 2 (by omega), key 3 (by omega), key 4 (by omega), key 5 (by omega), key 6 (by omega), key 7 (by omega), key 8 (by omega)⟩

theorem DL.below {w wr w2 : World} {g xb n N q : Nat} {wk : Int} {p : Nat → SP} {D : Nat → SD} (h : DL w wr g xb n N q wk p D) (hb : Below wr.heap.size wr w2) : DL w w2 g xb n N q wk p D := by
  obtain ⟨f, h1, h2, h3⟩ := h.row
  exact ⟨h.span.below hb, by rw [hb.cell (p := ⟨xb, 0, none⟩) (World.block_lt_of_cell? _ _ h.x)]; exact h.x, f, h1.of_block (hb.block _ h1.lt), h2, h3⟩

theorem dl_skip {w wr : World} {g xb n N q : Nat} {wk : Int} {p : Nat → SP} {D : Nat → SD} (h : DL w wr g xb n N q wk p D) (hd : del wk (D q) = true) : DL w wr g xb n N (q + 1) wk p D := by
  obtain ⟨f, h1, h2, h3⟩ := h.row
  exact ⟨h.span, h.x, f, h1, fun a b ha hb => h2 a b (by rw [kc_del hd] at ha; exact ha) hb, fun a b hqa han hb => h3 a b (by omega) han hb⟩

/-- An entry laid at a place. -/
def putEnt (w : World) (g o : Nat) (p : SP) (d : SD) : World :=
  ((((((((w.setCell ⟨g, o, none⟩ (.int .i64 d.k)).setCell ⟨g, o + 1, none⟩ (.string d.m)).setCell ⟨g, o + 2, none⟩ (.int .i64 d.sin)).setCell ⟨g, o + 3, none⟩ (.int .i64 d.own)).setCell ⟨g, o + 4, none⟩ (.bool d.has)).setCell
    ⟨g, o + 5, none⟩ (.string d.v)).setCell ⟨g, o + 6, none⟩ (.slice p.a d.n p.c)).setCell ⟨g, o + 7, none⟩ (.int .i64 d.ver)).setCell ⟨g, o + 8, none⟩ (.int .i64 d.chg)
theorem putEnt_row {w : World} {g o : Nat} {p : SP} {d : SD} {t : TypeId} {n : Nat} {f : Nat → Value} (h : w.rowIs g t n f) : (putEnt w g o p d).rowIs g t n (fun x => if o ≤ x ∧ x < o + 9 then ecf p d (x - o) else f x) :=
  (((((((((h.set o _).set (o + 1) _).set (o + 2) _).set (o + 3) _).set (o + 4) _).set (o + 5) _).set (o + 6) _).set (o + 7) _).set (o + 8) _).congr (fun x _ => by
    show (if x = o + 8 then _ else if x = o + 7 then _ else if x = o + 6 then _ else if x = o + 5 then _ else if x = o + 4 then _ else if x = o + 3 then _ else if x = o + 2 then _ else if x = o + 1 then _ else if x = o then _ else f x) = _
    by_cases h : o ≤ x ∧ x < o + 9
    · obtain ⟨j, rfl⟩ : ∃ j, x = o + j := ⟨x - o, by omega⟩
      rw [if_pos h, Nat.add_sub_cancel_left]
      have hj : j < 9 := by omega
      match j, hj with
      | 0, _ => simp [ecf]
      | 1, _ => simp [ecf]
      | 2, _ => simp [ecf]
      | 3, _ => simp [ecf]
      | 4, _ => simp [ecf]
      | 5, _ => simp [ecf]
      | 6, _ => simp [ecf]
      | 7, _ => simp [ecf]
      | 8, _ => simp [ecf]
    · rw [if_neg h, if_neg (by omega), if_neg (by omega), if_neg (by omega), if_neg (by omega), if_neg (by omega), if_neg (by omega), if_neg (by omega), if_neg (by omega), if_neg (by omega)])
theorem putEnt_span {g o : Nat} {w W : World} {p : SP} {d : SD} (h : Span g (g + 1) w W) : Span g (g + 1) w (putEnt W g o p d) :=
  ((((((((h.set _ (Nat.le_refl _) (by omega) _).set _ (Nat.le_refl _) (by omega) _).set _ (Nat.le_refl _) (by omega) _).set _ (Nat.le_refl _) (by omega) _).set _ (Nat.le_refl _) (by omega) _).set _ (Nat.le_refl _) (by omega) _).set _ (Nat.le_refl _) (by omega) _).set _ (Nat.le_refl _) (by omega) _).set _ (Nat.le_refl _) (by omega) _
theorem putEnt_far {g o xb : Nat} {W : World} {p : SP} {d : SD} (h : xb ≠ g) : (putEnt W g o p d).cell? ⟨xb, 0, none⟩ = W.cell? ⟨xb, 0, none⟩ := by
  have hl : ∀ (W : World) (o : Nat) (u : Value), (W.setCell ⟨g, o, none⟩ u).cell? ⟨xb, 0, none⟩ = W.cell? ⟨xb, 0, none⟩ := fun W o u => World.cell?_of_block (a := ⟨xb, 0, none⟩) (Below.heap_setCell _ _ _ _ (by show xb ≠ g; exact h))
  unfold putEnt
  rw [hl, hl, hl, hl, hl, hl, hl, hl, hl]

theorem dl_keep {w wr : World} {g xb n N q : Nat} {wk : Int} {p : Nat → SP} {D : Nat → SD} (h : DL w wr g xb n N q wk p D) (hx : xb ≠ g) (hq : q < n) (hd : del wk (D q) = false) : DL w (putEnt wr g (kc D wk q * 9) (p q) (D q)) g xb n N (q + 1) wk p D := by
  obtain ⟨f, h1, h2, h3⟩ := h.row
  have hle := kc_le D wk q
  refine ⟨putEnt_span h.span, by rw [putEnt_far hx]; exact h.x, _, putEnt_row h1, fun a b ha hb => ?_, fun a b hqa han hb => ?_⟩
  · rw [kc_keep hd] at ha
    by_cases e : a = kc D wk q
    · subst e
      rw [if_pos (by omega), Nat.add_sub_cancel_left, kt_at hq hd]
    · rw [if_neg (by omega)]; exact h2 a b (by omega) hb
  · rw [if_neg (by omega)]; exact h3 a b (by omega) han hb

/-- What is left when those that go are out. -/
structure Gone (w w' : World) (g n N : Nat) (wk : Int) (p : Nat → SP) (D : Nat → SD) : Prop where
  span : Span g (g + 1) w w'
  row : ∃ f, w'.rowIs g 78 N f ∧ ∀ a b, a < kc D wk n → b < 9 → f (a * 9 + b) = ecf (p (kt n D wk a)) (D (kt n D wk a)) b

set_option maxRecDepth 100000 in
set_option maxHeartbeats 8000000 in
theorem t_delete (g xb n cap : Nat) (wk : Int) (p : Nat → SP) (D : Nat → SD) (w : World) (h : Ents w g xb n (cap * 9) wk p D) (hx : xb ≠ g) (hn : n ≤ 1048576) (hnc : n ≤ cap) (hcap : cap ≤ 9223372036854775807) (hwk : 0 ≤ wk ∧ wk < 16) :
    Calls Try.prog 70 #[.slice (some ⟨g, 0, none⟩) n cap, .func (.func 71) #[] #[.pointer (some ⟨xb, 0, none⟩)]] w fun e w' => e = .returned (.slice (some ⟨g, 0, none⟩) (kc D wk n) cap) ∧ Gone w w' g n (cap * 9) wk p D := by
  have HB : Hid (∀ w', Below w.heap.size w w' → Ents w' g xb n (cap * 9) wk p D) := fun w' hb => h.below hb
  clear h
  obtain ⟨c1, hc1⟩ : ∃ c1, c1 = kc D wk n := ⟨_, rfl⟩
  have HC1 : Hid (c1 = kc D wk n) := hc1
  rw [← hc1]
  clear hc1
  go_enter Try.func70, Try.ntmps70
  go_wp2_with fail
  refine (t_index g xb n (cap * 9) cap wk p D _ (HB.out _ (Below.refl _ _)) hn hwk).mono ?_
  rintro e w1 ⟨hb1, hf⟩
  have B1 : Hid (Below w.heap.size w w1) := hb1
  clear hb1
  rcases hf with ⟨rfl, hall⟩ | ⟨i, rfl, hi, hd, ha⟩
  · have HE : Hid (c1 = n) := by
      show c1 = n
      rw [HC1.out, kc_all hall]
    have HF : Hid (Gone w w1 g n (cap * 9) wk p D) := by
      obtain ⟨f, r1, r2, r3⟩ := (HB.out w1 B1.out).row
      refine ⟨Span.of_below B1.out, f, r1, fun a b hac hb => ?_⟩
      rw [kc_all hall] at hac
      have e2 : kt n D wk a = a := by
        have := kt_at (n := n) (q := a) (D := D) (wk := wk) hac (hall a hac)
        rw [kc_all (fun j hj => hall j (by omega))] at this
        exact this
      rw [e2]; exact r3 a b hac hb
    clear hall
    go_wp2
    go_ret
    exact ⟨by rw [HE.out]; rfl, HF.out⟩
  · have HS : Hid (DL w w1 g xb n (cap * 9) (i + 1) wk p D) := dl_start (HB.out w1 B1.out) B1.out hi hd ha
    have HKC : Hid (i = kc D wk (i + 1)) := by
      show i = _
      rw [kc_del hd, kc_all ha]
    have HCN : Hid (c1 < n) := by
      show c1 < n
      rw [HC1.out]
      have h1 := kc_le D wk i
      have : ∀ q, i + 1 ≤ q → kc D wk q < q := by
        intro q hq
        induction q with
        | zero => omega
        | succ q ih =>
          by_cases e : q = i
          · subst e; rw [kc_del hd]; omega
          · have := ih (by omega)
            cases hh : del wk (D q)
            · rw [kc_keep hh]; omega
            · rw [kc_del hh]; omega
      exact this n (by omega)
    have hbne : ((i : Int) == -1) = false := beq_eq_false_iff_ne.2 (by omega)
    clear hd ha HB
    go_wp2
    go_loopw [5, 6] (fun s5 s6 wr => ∃ q : Nat, q ≤ n ∧ s6 = .int .i64 q ∧ s5 = .int .i64 ((kc D wk q : Nat) : Int) ∧ Hid (DL w wr g xb n (cap * 9) q wk p D)) (fun _ s6 _ => n - (intOf s6).toNat)
    case atStart => exact ⟨i + 1, by omega, by go_num, by rw [← HKC.out], HS⟩
    case round =>
      clear HS HKC hbne
      obtain ⟨q, hq, rfl, rfl, HD⟩ := hrel
      obtain ⟨cq, hcq⟩ : ∃ cq, cq = kc D wk q := ⟨_, rfl⟩
      have HCQ : Hid (cq = kc D wk q) := hcq
      have hcl : cq ≤ q := by rw [hcq]; exact kc_le D wk q
      rw [← hcq]
      clear hcq
      by_cases hlt : q < n
      · have E := HD.out.ent (by omega) hlt
        unfold Ent at E
        obtain ⟨a0, a1, a2, a3, a4, a5, a6, a7, a8⟩ := E
        obtain ⟨r, hr⟩ : ∃ r, del wk (D q) = r := ⟨_, rfl⟩
        have HR : Hid (del wk (D q) = r) := hr
        have CG : Hid (∀ W, Below wr.heap.size wr W → Calls Try.prog 71 #[.agg #[.int .i64 (D q).k, .string (D q).m, .int .i64 (D q).sin, .int .i64 (D q).own, .bool (D q).has, .string (D q).v, .slice (p q).a (D q).n (p q).c, .int .i64 (D q).ver, .int .i64 (D q).chg], .pointer (some ⟨xb, 0, none⟩)] W fun e w' => e = .returned (.bool r) ∧ Hid (Below W.heap.size W w')) := fun W hW => by
          rw [← hr]; exact t_gone xb wk (p q) (D q) W (HD.out.below hW).x hwk
        have hrow9 := row9 wr (.int .i64 (D q).k) (.string (D q).m) (.int .i64 (D q).sin) (.int .i64 (D q).own) (.bool (D q).has) (.string (D q).v) (.slice (p q).a (D q).n (p q).c) (.int .i64 (D q).ver) (.int .i64 (D q).chg) 78
        clear hr
        go_wp2_with fail
        refine (CG.out _ (bel1 _ _)).mono ?_
        rintro e w2 ⟨rfl, H2⟩
        have H3 : Hid (DL w w2 g xb n (cap * 9) q wk p D) := HD.out.below ((bel1 wr _).trans (H2.out.mono (by simp)))
        have hr2 := hrow9.of_block (H2.out.block _ (by simp))
        obtain ⟨b0, b1, b2, b3, b4, b5, b6, b7, b8⟩ := nine_cells hr2
        clear a0 a1 a2 a3 a4 a5 a6 a7 a8 CG H2 hrow9 hr2
        cases r
        · obtain ⟨f, hrr, _, _⟩ := H3.out.row
          have hcc : cq * 9 + 9 ≤ cap * 9 := by omega
          have s0 := hrr.cell (i := cq * 9) (by omega)
          have s1 := hrr.cell (i := cq * 9 + 1) (by omega)
          have s2 := hrr.cell (i := cq * 9 + 2) (by omega)
          have s3 := hrr.cell (i := cq * 9 + 3) (by omega)
          have s4 := hrr.cell (i := cq * 9 + 4) (by omega)
          have s5 := hrr.cell (i := cq * 9 + 5) (by omega)
          have s6 := hrr.cell (i := cq * 9 + 6) (by omega)
          have s7 := hrr.cell (i := cq * 9 + 7) (by omega)
          have s8 := hrr.cell (i := cq * 9 + 8) (by omega)
          have t0 := hrr.frozen (cq * 9)
          have t1 := hrr.frozen (cq * 9 + 1)
          have t2 := hrr.frozen (cq * 9 + 2)
          have t3 := hrr.frozen (cq * 9 + 3)
          have t4 := hrr.frozen (cq * 9 + 4)
          have t5 := hrr.frozen (cq * 9 + 5)
          have t6 := hrr.frozen (cq * 9 + 6)
          have t7 := hrr.frozen (cq * 9 + 7)
          have t8 := hrr.frozen (cq * 9 + 8)
          have HK := dl_keep H3.out hx hlt HR.out
          rw [← HCQ.out] at HK
          unfold putEnt at HK
          have HH : Hid (DL w _ g xb n (cap * 9) (q + 1) wk p D) := HK
          have HKQ : Hid (cq + 1 = kc D wk (q + 1)) := by
            show _ = _
            rw [kc_keep HR.out, HCQ.out]
          have hcq1 : (cq : Int) < (n : Int) := by omega
          clear hrr HK
          go_wp2
          go_roundw
          case rel => exact ⟨q + 1, by omega, by go_num, by rw [← HKQ.out]; go_num, HH⟩
          case measure => simp [intOf]; omega
        · have HKQ : Hid (cq = kc D wk (q + 1)) := by
            show _ = _
            rw [kc_del HR.out, HCQ.out]
          have HH : Hid (DL w w2 g xb n (cap * 9) (q + 1) wk p D) := dl_skip H3.out HR.out
          go_wp2
          go_roundw
          case rel => exact ⟨q + 1, by omega, by go_num, by rw [← HKQ.out], HH⟩
          case measure => simp [intOf]; omega
      · have hqn : q = n := by omega
        have HQC : Hid (cq = c1) := by
          show _ = _
          rw [HCQ.out, HC1.out, hqn]
        have hc1n : cq < n := by rw [HQC.out]; exact HCN.out
        obtain ⟨f, hrr, _, _⟩ := HD.out.row
        obtain ⟨vs, hcl9⟩ : ∃ vs, ∀ ty, (Builtin.clear_ #[102] ty #[.slice (some ⟨g, cq * 9, none⟩) (n - cq) (cap - cq)]).run Try.prog wr = .ok (.tuple #[]) (wr.setCells g (cq * 9) vs) := by
          obtain ⟨vs, hv⟩ := run_clear9 wr 0 g (cq * 9) (n - cq) (cap - cq) (cap * 9) f hrr (by omega) (by omega)
          exact ⟨vs, fun ty => hv⟩
        have HF : Hid (Gone w (wr.setCells g (cq * 9) vs) g n (cap * 9) wk p D) := by
          obtain ⟨f, r1, r2, _⟩ := HD.out.row
          obtain ⟨f', r1', r2'⟩ := row_setCells vs (cq * 9) r1
          refine ⟨span_setCells _ _ HD.out.span, f', r1', fun a b hac hb => ?_⟩
          rw [← HC1.out, ← HQC.out] at hac
          rw [r2' _ (by omega)]
          exact r2 a b (by rw [← HCQ.out]; exact hac) hb
        have hcn2 : (cq : Int) ≤ (n : Int) := by omega
        have hcc2 : (n : Int) ≤ (cap : Int) := by omega
        clear hrr HD hqn
        go_wp2
        go_ret
        exact ⟨by rw [HQC.out]; rfl, HF.out⟩

end Go.Proofs.Ytijgiingfgaakaa
