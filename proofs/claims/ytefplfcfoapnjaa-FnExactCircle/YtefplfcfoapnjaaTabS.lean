/-
  Tables: the model's look for a key.
-/
import Derived.Test.YtefplfcfoapnjaaTabH
import Derived.Test.YtefplfcfoapnjaaTabR
import Derived.Deep.AppendLies
import Derived.Deep.RegionLaw
namespace Go.Proofs.Ytefplfcfoapnjaa
open Go.RowKit

set_option maxHeartbeats 1000000 in
theorem c60 (k : Int) (m : ByteArray) (k' : Int) (m' : ByteArray) (w : World) :
    Calls Try.prog 60 #[.agg #[.int .i64 k, .string m], .agg #[.int .i64 k', .string m']] w fun e w' => e = .returned (.bool (decide (sk k m k' m'))) ∧ Below w.heap.size w w' := by
  by_cases h : k = k'
  · have HN : Hid ((m.toList == m'.toList) = decide (sk k m k' m')) := by
      show (m.toList == m'.toList) = decide (sk k m k' m')
      rw [Bool.eq_iff_iff, beq_iff_eq, decide_eq_true_iff]
      exact ⟨fun e => ⟨h, e⟩, fun e => e.2⟩
    have b1 : (k == k') = true := by rw [beq_iff_eq]; exact h
    clear h
    go_enter Try.func60, Try.ntmps60
    go_wp2
    go_ret
    exact ⟨ret_bool HN.out, bel2 _ _ _⟩
  · have HN : Hid (decide (sk k m k' m') = false) := decide_eq_false (fun e => h e.1)
    have b1 : (k == k') = false := beq_eq_false_iff_ne.2 h
    clear h
    go_enter Try.func60, Try.ntmps60
    go_wp2
    go_ret
    exact ⟨ret_bool HN.out.symm, bel2 _ _ _⟩

/-- The cells of the first n keys. -/
def kcells (K : Nat → Int) (M : Nat → ByteArray) : Nat → List Value
  | 0 => []
  | n + 1 => kcells K M n ++ [.int .i64 (K n), .string (M n)]

theorem kcells_len (K : Nat → Int) (M : Nat → ByteArray) (n : Nat) : (kcells K M n).length = n * 2 := by
  induction n with
  | zero => rfl
  | succ n ih => show (kcells K M n ++ [_, _]).length = _; rw [List.length_append, ih]; show n * 2 + 2 = _; omega

theorem kcells_at (K : Nat → Int) (M : Nat → ByteArray) (n i j : Nat) (hi : i < n) (hj : j < 2) : (kcells K M n)[i * 2 + j]? = [Value.int .i64 (K i), .string (M i)][j]? := by
  induction n with
  | zero => omega
  | succ n ih =>
    show (kcells K M n ++ [_, _])[i * 2 + j]? = _
    by_cases e : i = n
    · subst e
      rw [List.getElem?_append_right (by rw [kcells_len]; omega), kcells_len, Nat.add_sub_cancel_left]
    · rw [List.getElem?_append_left (by rw [kcells_len]; omega)]
      exact ih (by omega)

theorem grown_below {w W w3 : World} {row : Option Nat} (hW : Below w.heap.size w W) (hg : W.grownBy w3 row) (hr : ∀ k, row = some k → w.heap.size ≤ k) : Below w.heap.size w w3 :=
  ⟨hg.os.trans hW.os, hg.tape.trans hW.tape, hg.output.trans hW.output, Nat.le_trans hW.size hg.size, fun k hk => by
    rw [hg.block k (by have := hW.size; omega) (fun e => by have := hr k e.symm; omega), hW.block k hk]⟩

set_option maxRecDepth 100000 in
set_option maxHeartbeats 4000000 in
theorem c76 (ao : Option Addr) (b o n c : Nat) (K : Nat → Int) (M : Nat → ByteArray) (w : World) (h1 : KeysAt w ao b o n K M) (hn : n ≤ 1048576) :
    Calls Try.prog 76 #[.slice ao n c] w fun e w' => ∃ sv, e = .returned sv ∧ w'.ownsRow w.heap.size 41 2 sv n (kcells K M n) ∧ Below w.heap.size w w' := by
  obtain ⟨i0, hi0, hz0, hz1, hz2⟩ := Option.map_eq_some_iff.1 Try.info41 |>.elim (fun i hh => (⟨i, hh.1, (Prod.mk.inj hh.2).1, (Prod.mk.inj (Prod.mk.inj hh.2).2).1, (Prod.mk.inj (Prod.mk.inj hh.2).2).2⟩ : ∃ i, Try.prog.info? 41 = some i ∧ i.zero = some (.agg #[.int .i64 0, .string ByteArray.empty]) ∧ i.size = 2 ∧ i.bytes = 24))
  have HB : Hid (∀ w', Below w.heap.size w w' → KeysAt w' ao b o n K M) := fun w' hb => h1.below hb
  have A1 := h1.at_
  clear h1
  have OWN0 : Hid ((w.alloc (.cells #[] 41)).ownsRow w.heap.size 41 2 (.slice (some ⟨w.heap.size, 0, none⟩) 0 0) 0 (kcells K M 0)) := World.ownsRow_lit w #[] 0 (Nat.le_refl _) (by unfold maxLen; omega) rfl
  go_enter Try.func76, Try.ntmps76
  go_wp2
  go_loopw [3, 4] (fun s i wr => ∃ k : Nat, k ≤ n ∧ i = .int .i64 k ∧ Hid (wr.ownsRow w.heap.size 41 2 s k (kcells K M k)) ∧ Hid (Below w.heap.size w wr)) (fun _ i _ => n - (intOf i).toNat)
  case atStart => exact ⟨0, Nat.zero_le _, rfl, OWN0, bel1 _ _⟩
  case round =>
    clear OWN0
    obtain ⟨k, hk, rfl, OW, HW⟩ := hrel
    obtain ⟨oa, cap, rfl⟩ := own_form OW.out
    by_cases hlt : k < n
    · have e1 := A1 (by omega)
      have q1 := HB.out wr HW.out
      have g0 := q1.c0 k hlt
      have g1 := q1.c1 k hlt
      clear q1
      subst e1
      have hws := HW.out.size
      go_wp2_with (first | (at_builtin; refine wpList_append_lies _ rfl _ _ 45 rfl w.heap.size 41 i0 _ 2 24 Try.underlying45 hi0 hz0 hz1 hz2 rfl (by omega) (.slice oa k cap) k (kcells K M k) rfl (OW.out.alloc _) ⟨wr.heap.size, 0, none⟩ 1 1 [.int .i64 (K k), .string (M k)] rfl rfl (World.news_of_block (cs := #[.int .i64 (K k), .string (M k)]) (t := 41) (fr := (0, 0)) (heap_alloc_new wr _)) (by simp [Value.oneCell']) (by omega) (by unfold maxLen; omega) (by omega) (by simp; omega) (wr.heap.size + 1) (by simp) ?_; intro gg cap3 w3 hown3 hg3 hat hlt3))
      have FIN : Hid (w3.ownsRow w.heap.size 41 2 (.slice (some ⟨gg, 0, none⟩) (k + 1) cap3) (k + 1) (kcells K M (k + 1)) ∧ Below w.heap.size w w3) := ⟨hown3, grown_below (HW.out.alloc hws _) hg3 (fun x e => (OW.out.lt x e).1)⟩
      clear hown3 hg3 hat
      go_roundw
      case rel => exact ⟨k + 1, by omega, by go_num, FIN.out.1, FIN.out.2⟩
      case measure => simp [intOf]; omega
    · have hkn : k = n := by omega
      subst hkn
      go_wp2
      go_ret
      exact ⟨_, rfl, OW.out, HW.out⟩

theorem own_weak {w : World} {base base' : Nat} {e : TypeId} {size : Nat} {v : Value} {n : Nat} {xs : List Value} (h : w.ownsRow base e size v n xs) (hb : base' ≤ base) : w.ownsRow base' e size v n xs := by
  obtain ⟨h1, h2⟩ := h
  refine ⟨h1, ?_⟩
  rcases h2 with h2 | ⟨g, cap, cur, hv, hg, r⟩
  · exact Or.inl h2
  · exact Or.inr ⟨g, cap, cur, hv, Nat.le_trans hb hg, r⟩

theorem own_set {w : World} {base : Nat} {e : TypeId} {size : Nat} {v : Value} {n : Nat} {xs : List Value} (h : w.ownsRow base e size v n xs) {a : Addr} (ha : a.block < base) (u : Value) : (w.setCell a u).ownsRow base e size v n xs :=
  own_same h (fun g hg => Below.heap_setCell _ _ _ _ (by have := (h.lt g hg).1; omega))

/-- A slot's value, its list elsewhere. -/
abbrev sdl (d : SD) (oa : Option Addr) (cap : Nat) : Value := .agg #[.int .i64 d.k, .string d.m, .bool d.has, .string d.v, .slice oa d.n cap, .int .i64 d.ver, .int .i64 d.chg, .int .i64 d.own, .int .i64 d.sin]

set_option maxRecDepth 100000 in
set_option maxHeartbeats 4000000 in
theorem c61 (p : SP) (d : SD) (w : World) (h1 : SlotAt w p d) (hn : d.n ≤ 1048576) :
    Calls Try.prog 61 #[sdv p d] w fun e w' => ∃ oa cap, e = .returned (sdl d oa cap) ∧ w'.ownsRow w.heap.size 41 2 (.slice oa d.n cap) d.n (kcells d.dk d.dm d.n) ∧ Below w.heap.size w w' := by
  have HB : Hid (∀ w', Below w.heap.size w w' → SlotAt w' p d) := fun w' hb => h1.below hb
  clear h1
  unfold sdv sdl
  go_enter Try.func61, Try.ntmps61
  go_wp2_with fail
  refine (c76 p.a p.b p.o d.n p.c d.dk d.dm _ (by exact (HB.out _ (bel2 _ _ _)).keys) hn).mono ?_
  rintro e w1 ⟨sv, rfl, hO, hb1⟩
  obtain ⟨oa, cap, rfl⟩ := own_form hO
  have R1 := ((row9 w (.int .i64 d.k) (.string d.m) (.bool d.has) (.string d.v) (.slice p.a d.n p.c) (.int .i64 d.ver) (.int .i64 d.chg) (.int .i64 d.own) (.int .i64 d.sin) 47).alloc (.cells #[.int .i64 0, .string ByteArray.empty, .bool false, .string ByteArray.empty, .slice none 0 0, .int .i64 0, .int .i64 0, .int .i64 0, .int .i64 0] 47)) |>.of_block (hb1.block _ (by simp; omega))
  have R2 := (row9 (w.alloc (.cells #[.int .i64 d.k, .string d.m, .bool d.has, .string d.v, .slice p.a d.n p.c, .int .i64 d.ver, .int .i64 d.chg, .int .i64 d.own, .int .i64 d.sin] 47)) (.int .i64 0) (.string ByteArray.empty) (.bool false) (.string ByteArray.empty) (.slice none 0 0) (.int .i64 0) (.int .i64 0) (.int .i64 0) (.int .i64 0) 47) |>.of_block (hb1.block _ (by simp))
  simp only [World.size_alloc] at R2 hO
  have HH : Hid (w1.ownsRow (w.heap.size + 1 + 1) 41 2 (.slice oa d.n cap) d.n (kcells d.dk d.dm d.n) ∧ Below w.heap.size w w1) := ⟨hO, (bel2 w _ _).trans (hb1.mono (by simp; omega))⟩
  obtain ⟨x0, x1, x2, x3, x4, x5, x6, x7, x8⟩ := nine_cells R1
  have xf := R1.frozen 4
  obtain ⟨m0, m1, m2, m3, m4, m5, m6, m7, m8⟩ := nine_cells R2
  obtain ⟨l0, l1, l2, l3, l4, l5, l6, l7, l8⟩ := nine_frozen R2
  clear R1 R2 hO hb1
  go_wp2_with fail
  refine bodyPost_ret (v := .agg #[.int .i64 d.k, .string d.m, .bool d.has, .string d.v, .slice oa d.n cap, .int .i64 d.ver, .int .i64 d.chg, .int .i64 d.own, .int .i64 d.sin])
    (by simp [results, Try.results61, go_sem, m0, m1, m2, m3, m4, m5, m6, m7, m8]) rfl ⟨oa, cap, rfl, own_weak (base := w.heap.size + 1 + 1) ?_ (by omega), ?_⟩
  · repeat' (first | with_reducible exact HH.out.1 | refine own_set ?_ ?_ _)
    all_goals (simp; try omega)
  · repeat' (first | with_reducible exact HH.out.2 | refine Below.setCell ?_ ?_ _)
    all_goals (simp; try omega)

/-- The model's slot of a key. -/
def FindS (w : World) (n : Nat) (D : Nat → SD) (k : Int) (m : ByteArray) (e : Ending) (w' : World) : Prop :=
  Below w.heap.size w w' ∧ ((slotOf n D k m = none ∧ e = .returned (.agg #[.int .i64 0, .string ByteArray.empty, .bool false, .string ByteArray.empty, .slice none 0 0, .int .i64 0, .int .i64 0, .int .i64 0, .int .i64 0])) ∨
    ∃ i oa cap, i < n ∧ slotOf n D k m = some i ∧ e = .returned (sdl (D i) oa cap) ∧ w'.ownsRow w.heap.size 41 2 (.slice oa (D i).n cap) (D i).n (kcells (D i).dk (D i).dm (D i).n))

/-- What the model's look keeps. -/
structure LK (w W : World) (ao : Option Addr) (n c : Nat) (k : Int) (m : ByteArray) : Prop where
  t : W.cell? ⟨w.heap.size, 0, none⟩ = some (.slice ao n c)
  k0 : W.cell? ⟨w.heap.size + 1, 0, none⟩ = some (.int .i64 k)
  k1 : W.cell? ⟨w.heap.size + 1, 1, none⟩ = some (.string m)
  r : W.rowIs (w.heap.size + 1 + 1) 47 9 (v9 (.int .i64 0) (.string ByteArray.empty) (.bool false) (.string ByteArray.empty) (.slice none 0 0) (.int .i64 0) (.int .i64 0) (.int .i64 0) (.int .i64 0))
  below : Below w.heap.size w W

theorem LK.later {w W W' : World} {ao : Option Addr} {n c : Nat} {k : Int} {m : ByteArray} (h : LK w W ao n c k m) (hb : Below W.heap.size W W') : LK w W' ao n c k m := by
  have key : ∀ {a : Addr} {v : Value}, W.cell? a = some v → W'.cell? a = some v := fun {a v} h => by rw [hb.cell (World.block_lt_of_cell? _ _ h)]; exact h
  exact ⟨key h.t, key h.k0, key h.k1, h.r.of_block (hb.block _ h.r.lt), h.below.trans (hb.mono h.below.size)⟩

theorem lk_start (w : World) (ao : Option Addr) (n c : Nat) (k : Int) (m : ByteArray) : LK w (((w.alloc (.cells #[.slice ao n c] 29)).alloc (.cells #[.int .i64 k, .string m] 41)).alloc (.cells #[.int .i64 0, .string ByteArray.empty, .bool false, .string ByteArray.empty, .slice none 0 0, .int .i64 0, .int .i64 0, .int .i64 0, .int .i64 0] 47)) ao n c k m := by
  have R := row9 ((w.alloc (.cells #[.slice ao n c] 29)).alloc (.cells #[.int .i64 k, .string m] 41)) (.int .i64 0) (.string ByteArray.empty) (.bool false) (.string ByteArray.empty) (.slice none 0 0) (.int .i64 0) (.int .i64 0) (.int .i64 0) (.int .i64 0) 47
  simp only [World.size_alloc] at R
  have B := (Below.refl _ ((w.alloc (.cells #[.slice ao n c] 29)).alloc (.cells #[.int .i64 k, .string m] 41))).alloc (Nat.le_refl _) (.cells #[.int .i64 0, .string ByteArray.empty, .bool false, .string ByteArray.empty, .slice none 0 0, .int .i64 0, .int .i64 0, .int .i64 0, .int .i64 0] 47)
  refine ⟨?_, ?_, ?_, R, bel3 _ _ _ _⟩
  · rw [B.cell (p := ⟨w.heap.size, 0, none⟩) (by simp; omega)]; simp
  · rw [B.cell (p := ⟨w.heap.size + 1, 0, none⟩) (by simp)]; simp
  · rw [B.cell (p := ⟨w.heap.size + 1, 1, none⟩) (by simp)]; simp

set_option maxRecDepth 100000 in
set_option maxHeartbeats 4000000 in
theorem c38 (ao : Option Addr) (b o n c : Nat) (p : Nat → SP) (D : Nat → SD) (k : Int) (m : ByteArray) (w : World) (h1 : SlotsAt w ao b o n p D) (hn : n ≤ 1048576) (hG : ∀ i, i < n → (D i).n ≤ 1048576) :
    Calls Try.prog 38 #[.agg #[.slice ao n c], .agg #[.int .i64 k, .string m]] w fun e w' => FindS w n D k m e w' := by
  have HB : Hid (∀ w', Below w.heap.size w w' → SlotsAt w' ao b o n p D) := fun w' hb => h1.below hb
  have A1 := h1.at_
  have HG : Hid (∀ i, i < n → (D i).n ≤ 1048576) := hG
  have L0 : Hid (LK w (((w.alloc (.cells #[.slice ao n c] 29)).alloc (.cells #[.int .i64 k, .string m] 41)).alloc (.cells #[.int .i64 0, .string ByteArray.empty, .bool false, .string ByteArray.empty, .slice none 0 0, .int .i64 0, .int .i64 0, .int .i64 0, .int .i64 0] 47)) ao n c k m) := lk_start _ _ _ _ _ _
  clear h1 hG
  go_enter Try.func38, Try.ntmps38
  go_wp2
  go_loopw [5] (fun s wr => ∃ q : Nat, q ≤ n ∧ s = .int .i64 q ∧ Hid (LK w wr ao n c k m) ∧ Hid (∀ j, j < q → decide (sk (D j).k (D j).m k m) = false)) (fun s _ => n - (intOf s).toNat)
  case atStart => exact ⟨0, Nat.zero_le _, rfl, L0, fun j hj => absurd hj (Nat.not_lt_zero _)⟩
  case round =>
    clear L0
    obtain ⟨q, hq, rfl, HL, HA⟩ := hrel
    have t0 := HL.out.t
    by_cases hlt : q < n
    · have e1 := A1 (by omega)
      have k0 := HL.out.k0
      have k1 := HL.out.k1
      subst e1
      have HZ : Hid (∀ W, Below wr.heap.size wr W → W.cell? ⟨w.heap.size, 0, none⟩ = some (.slice (some ⟨b, o, none⟩) n c) ∧ W.cell? ⟨b, o + q * 9, none⟩ = some (.int .i64 (D q).k) ∧ W.cell? ⟨b, o + q * 9 + 1, none⟩ = some (.string (D q).m) ∧ W.cell? ⟨w.heap.size + 1, 0, none⟩ = some (.int .i64 k) ∧ W.cell? ⟨w.heap.size + 1, 1, none⟩ = some (.string m)) := fun W hW => by
        have l2 := HL.out.later hW
        obtain ⟨a0, a1, _⟩ := (HB.out W l2.below).nine q hlt
        exact ⟨l2.t, a0, a1, l2.k0, l2.k1⟩
      obtain ⟨r, hr⟩ : ∃ r, decide (sk (D q).k (D q).m k m) = r := ⟨_, rfl⟩
      have HR : Hid (decide (sk (D q).k (D q).m k m) = r) := hr
      have C60 : Hid (Calls Try.prog 60 #[.agg #[.int .i64 (D q).k, .string (D q).m], .agg #[.int .i64 k, .string m]] wr.drew fun e w' => e = .returned (.bool r) ∧ Hid (Below wr.heap.size wr w')) := by
        rw [← hr]
        exact (c60 _ _ _ _ wr.drew).mono fun e w' ⟨he, hb⟩ => ⟨he, (Below.refl _ _).drew.trans (hb.mono (Nat.le_refl _))⟩
      obtain ⟨a0, a1, a2, a3, a4⟩ := HZ.out wr (Below.refl _ _)
      have hqn : (q : Int) < (n : Int) := by omega
      clear hr k0 k1 t0
      go_wp2_with fail
      go_region_held3 (fun w' => w'.cell? ⟨w.heap.size, 0, none⟩ = some (.slice (some ⟨b, o, none⟩) n c) ∧ w'.cell? ⟨b, o + q * 9, none⟩ = some (.int .i64 (D q).k) ∧ w'.cell? ⟨b, o + q * 9 + 1, none⟩ = some (.string (D q).m) ∧ w'.cell? ⟨w.heap.size + 1, 0, none⟩ = some (.int .i64 k) ∧ w'.cell? ⟨w.heap.size + 1, 1, none⟩ = some (.string m)) (go_keep)
        (first | (go_at_call 60; (with_reducible refine C60.out.mono ?_); rintro e w2 ⟨rfl, H2⟩; obtain ⟨b0, b1, b2, b3, b4⟩ := HZ.out w2 H2.out))
      all_goals
        have HL2 : Hid (LK w w2 (some ⟨b, o, none⟩) n c k m) := HL.out.later H2.out
        clear a0 a1 a2 a3 a4 b1 b2 b3 b4 C60 HZ H2 HL
        cases r
        · go_wp2
          go_roundw
          case rel => exact ⟨q + 1, by omega, by go_num, HL2, fun j hj => by
            by_cases e : j = q
            · subst e; exact HR.out
            · exact HA.out j (by omega)⟩
          case measure => simp [intOf]; omega
        · have HS : Hid (slotOf n D k m = some q) := find_range hlt HR.out HA.out
          obtain ⟨x0, x1, x2, x3, x4, x5, x6, x7, x8⟩ := (HB.out w2 HL2.out.below).nine q hlt
          have HN : Hid (SlotAt w2 (p q) (D q)) := (HB.out w2 HL2.out.below).slot q hlt
          go_wp2_with fail
          refine (c61 (p q) (D q) w2 HN.out (HG.out q hlt)).mono ?_
          rintro e w3 ⟨oa, cap, rfl, hO, hb3⟩
          have HL3 := HL2.out.later hb3
          have HH : Hid (w3.ownsRow w2.heap.size 41 2 (.slice oa (D q).n cap) (D q).n (kcells (D q).dk (D q).dm (D q).n) ∧ Below w.heap.size w w3 ∧ w.heap.size + 1 + 1 < w2.heap.size) := ⟨hO, HL3.below, HL2.out.r.lt⟩
          obtain ⟨m0, m1, m2, m3, m4, m5, m6, m7, m8⟩ := nine_cells HL3.r
          obtain ⟨l0, l1, l2, l3, l4, l5, l6, l7, l8⟩ := nine_frozen HL3.r
          clear hO hb3 HL3 HL2 HN x0 x1 x2 x3 x4 x5 x6 x7 x8 b0
          unfold sdl
          go_wp2_with fail
          refine bodyPost_ret (v := .agg #[.int .i64 (D q).k, .string (D q).m, .bool (D q).has, .string (D q).v, .slice oa (D q).n cap, .int .i64 (D q).ver, .int .i64 (D q).chg, .int .i64 (D q).own, .int .i64 (D q).sin])
            (by simp [results, Try.results38, go_sem, m0, m1, m2, m3, m4, m5, m6, m7, m8]) rfl ⟨?_, Or.inr ⟨q, oa, cap, hlt, HS.out, rfl, own_weak (base := w2.heap.size) ?_ (by have := HH.out.2.2; omega)⟩⟩
          · repeat' (first | with_reducible exact HH.out.2.1 | refine Below.setCell ?_ ?_ _)
            all_goals (simp; try omega)
          · have hlt2 := HH.out.2.2
            repeat' (first | with_reducible exact HH.out.1 | refine own_set ?_ ?_ _)
            all_goals (simp; try omega)
    · have HS : Hid (slotOf n D k m = none) := none_range (fun j hj => HA.out j (by omega))
      obtain ⟨m0, m1, m2, m3, m4, m5, m6, m7, m8⟩ := nine_cells HL.out.r
      obtain ⟨l0, l1, l2, l3, l4, l5, l6, l7, l8⟩ := nine_frozen HL.out.r
      go_wp2
      refine bodyPost_ret (v := .agg #[.int .i64 0, .string ByteArray.empty, .bool false, .string ByteArray.empty, .slice none 0 0, .int .i64 0, .int .i64 0, .int .i64 0, .int .i64 0])
        (by simp [results, Try.results38, go_sem, m0, m1, m2, m3, m4, m5, m6, m7, m8]; try rfl) rfl ⟨?_, Or.inl ⟨HS.out, rfl⟩⟩
      have HW := HL.out.below
      repeat' (first | with_reducible exact HW | refine Below.setCell ?_ ?_ _)
      all_goals (simp; try omega)

end Go.Proofs.Ytefplfcfoapnjaa
