/-
  A module as it comes in: where it lies, and how much there is of it.
-/
import Derived.Test.YtcehppndpccldaaDoorM7
namespace Go.Proofs.YtcehppndpccldaaDoor
open Go.RowKit

theorem hid_of {p : Prop} (h : p) : Hid p := h
/-- Where a list of the argument lies. -/
structure AP where
  a : Option Addr
  b : Nat
  o : Nat
  c : Nat
structure NL (w : World) (p : AP) (ns : List ByteArray) : Prop where
  at_ : 0 < ns.length → p.a = some ⟨p.b, p.o, none⟩
  cell : ∀ k, k < ns.length → w.cell? ⟨p.b, p.o + k, none⟩ = some (.string (ns.getD k e0))
  len : ns.length ≤ 9223372036854775807
  sz : ∀ k, k < ns.length → (ns.getD k e0).size ≤ 9223372036854775807
structure TL (w : World) (p : AP) (xs : List (TI × AP)) : Prop where
  at_ : 0 < xs.length → p.a = some ⟨p.b, p.o, none⟩
  cell : ∀ k (h : k < xs.length), w.cell? ⟨p.b, p.o + k * 4, none⟩ = some (.int .i64 xs[k].1.op) ∧ w.cell? ⟨p.b, p.o + k * 4 + 1, none⟩ = some (.string xs[k].1.md) ∧ w.cell? ⟨p.b, p.o + k * 4 + 2, none⟩ = some (.string xs[k].1.nm) ∧ w.cell? ⟨p.b, p.o + k * 4 + 3, none⟩ = some (.slice xs[k].2.a xs[k].1.ns.length xs[k].2.c)
  nl : ∀ k (h : k < xs.length), NL w xs[k].2 xs[k].1.ns
  len : xs.length ≤ 9223372036854775807
  sz : ∀ k (h : k < xs.length), xs[k].1.md.size ≤ 9223372036854775807 ∧ xs[k].1.nm.size ≤ 9223372036854775807
structure EQ where
  np : AP
  tp : AP
  ts : List (TI × AP)
structure EL (w : World) (p : AP) (xs : List (EI × EQ)) : Prop where
  at_ : 0 < xs.length → p.a = some ⟨p.b, p.o, none⟩
  cell : ∀ k (h : k < xs.length), w.cell? ⟨p.b, p.o + k * 6, none⟩ = some (.int .i64 xs[k].1.op) ∧ w.cell? ⟨p.b, p.o + k * 6 + 1, none⟩ = some (.int .i64 xs[k].1.num) ∧ w.cell? ⟨p.b, p.o + k * 6 + 2, none⟩ = some (.string xs[k].1.md) ∧ w.cell? ⟨p.b, p.o + k * 6 + 3, none⟩ = some (.string xs[k].1.nm) ∧ w.cell? ⟨p.b, p.o + k * 6 + 4, none⟩ = some (.slice xs[k].2.np.a xs[k].1.ns.length xs[k].2.np.c) ∧ w.cell? ⟨p.b, p.o + k * 6 + 5, none⟩ = some (.slice xs[k].2.tp.a xs[k].1.ty.length xs[k].2.tp.c)
  nl : ∀ k (h : k < xs.length), NL w xs[k].2.np xs[k].1.ns
  tl : ∀ k (h : k < xs.length), TL w xs[k].2.tp xs[k].2.ts
  is : ∀ k (h : k < xs.length), xs[k].2.ts.map Prod.fst = xs[k].1.ty
  len : xs.length ≤ 9223372036854775807
  sz : ∀ k (h : k < xs.length), xs[k].1.md.size ≤ 9223372036854775807 ∧ xs[k].1.nm.size ≤ 9223372036854775807
  num : ∀ k (h : k < xs.length), -9223372036854775808 ≤ xs[k].1.num ∧ xs[k].1.num ≤ 9223372036854775807
structure DQ where
  tp : AP
  ep : AP
  ts : List (TI × AP)
  es : List (EI × EQ)
structure DL (w : World) (p : AP) (xs : List (DC × DQ)) : Prop where
  at_ : 0 < xs.length → p.a = some ⟨p.b, p.o, none⟩
  cell : ∀ k (h : k < xs.length), w.cell? ⟨p.b, p.o + k * 4, none⟩ = some (.int .i64 xs[k].1.kind) ∧ w.cell? ⟨p.b, p.o + k * 4 + 1, none⟩ = some (.string xs[k].1.nm) ∧ w.cell? ⟨p.b, p.o + k * 4 + 2, none⟩ = some (.slice xs[k].2.tp.a xs[k].1.ty.length xs[k].2.tp.c) ∧ w.cell? ⟨p.b, p.o + k * 4 + 3, none⟩ = some (.slice xs[k].2.ep.a xs[k].1.ex.length xs[k].2.ep.c)
  tl : ∀ k (h : k < xs.length), TL w xs[k].2.tp xs[k].2.ts
  isT : ∀ k (h : k < xs.length), xs[k].2.ts.map Prod.fst = xs[k].1.ty
  el : ∀ k (h : k < xs.length), EL w xs[k].2.ep xs[k].2.es
  isE : ∀ k (h : k < xs.length), xs[k].2.es.map Prod.fst = xs[k].1.ex
  len : xs.length ≤ 9223372036854775807
  sz : ∀ k (h : k < xs.length), xs[k].1.nm.size ≤ 9223372036854775807
theorem ck {w w' : World} {b o : Nat} {v : Value} (h : w.cell? ⟨b, o, none⟩ = some v) (hb : Below w.heap.size w w') : w'.cell? ⟨b, o, none⟩ = some v := (hb.cell (p := ⟨b, o, none⟩) (World.block_lt_of_cell? _ _ h)).trans h
theorem NL.below {w w' : World} {p : AP} {ns : List ByteArray} (h : NL w p ns) (hb : Below w.heap.size w w') : NL w' p ns := ⟨h.at_, fun k hk => ck (h.cell k hk) hb, h.len, h.sz⟩
theorem TL.below {w w' : World} {p : AP} {xs : List (TI × AP)} (h : TL w p xs) (hb : Below w.heap.size w w') : TL w' p xs :=
  ⟨h.at_, fun k hk => by obtain ⟨c0, c1, c2, c3⟩ := h.cell k hk; exact ⟨ck c0 hb, ck c1 hb, ck c2 hb, ck c3 hb⟩, fun k hk => (h.nl k hk).below hb, h.len, h.sz⟩
theorem EL.below {w w' : World} {p : AP} {xs : List (EI × EQ)} (h : EL w p xs) (hb : Below w.heap.size w w') : EL w' p xs :=
  ⟨h.at_, fun k hk => by obtain ⟨c0, c1, c2, c3, c4, c5⟩ := h.cell k hk; exact ⟨ck c0 hb, ck c1 hb, ck c2 hb, ck c3 hb, ck c4 hb, ck c5 hb⟩, fun k hk => (h.nl k hk).below hb, fun k hk => (h.tl k hk).below hb, h.is, h.len, h.sz, h.num⟩
theorem DL.below {w w' : World} {p : AP} {xs : List (DC × DQ)} (h : DL w p xs) (hb : Below w.heap.size w w') : DL w' p xs :=
  ⟨h.at_, fun k hk => by obtain ⟨c0, c1, c2, c3⟩ := h.cell k hk; exact ⟨ck c0 hb, ck c1 hb, ck c2 hb, ck c3 hb⟩, fun k hk => (h.tl k hk).below hb, h.isT, fun k hk => (h.el k hk).below hb, h.isE, h.len, h.sz⟩

/-- What is left of the measure. -/
def szR (c left : Nat) : Int := if c ≤ left then ((left - c : Nat) : Int) else -1
theorem szR_le {c m k : Nat} (h : m = k + c) : szR c m = (k : Int) := by
  unfold szR
  rw [if_pos (by omega), h, Nat.add_sub_cancel]
theorem szR_gt {c m : Nat} (h : m < c) : szR c m = -1 := by
  unfold szR
  rw [if_neg (by omega)]

set_option maxRecDepth 100000 in
set_option maxHeartbeats 2000000 in
theorem z_names (w : World) {p : AP} {ns : List ByteArray} (h : NL w p ns) (left : Nat) (hl : left ≤ 1048576) :
    Calls Tryd.prog 70 #[.slice p.a ns.length p.c, .int .i64 (left : Int)] w fun e w' => e = .returned (.int .i64 (szR (cN ns) left)) ∧ Below w.heap.size w w' := by
  obtain ⟨n, hn⟩ : ∃ n, n = ns.length := ⟨_, rfl⟩
  obtain ⟨S, hS⟩ : ∃ S : Nat → Nat, S = fun k => ((ns.take k).map ByteArray.size).sum := ⟨_, rfl⟩
  have hnb : n ≤ 9223372036854775807 := by rw [hn]; exact h.len
  have HC : Hid (∀ W, Below w.heap.size w W → ∀ k, k < n → p.a = some ⟨p.b, p.o, none⟩ ∧ W.cell? ⟨p.b, p.o + k, none⟩ = some (.string (ns.getD k e0)) ∧ (ns.getD k e0).size ≤ 9223372036854775807) := fun W hb k hk => ⟨h.at_ (by omega), (h.below hb).cell k (by omega), h.sz k (by omega)⟩
  have HS : Hid (S 0 = 0 ∧ (∀ k, k < n → S (k + 1) = S k + (ns.getD k e0).size) ∧ (∀ k, S k ≤ S n) ∧ cN ns = n + S n) := by
    rw [hS, hn]
    refine ⟨rfl, fun k hk => ?_, fun k => ?_, ?_⟩
    · dsimp only
      rw [List.take_add_one, List.getElem?_eq_getElem hk, List.map_append, List.sum_append, List.getD_eq_getElem?_getD, List.getElem?_eq_getElem hk]
      simp
    · dsimp only
      rw [List.take_length]
      exact sum_take _ _ _
    · dsimp only
      rw [List.take_length]
      rfl
  obtain ⟨R, hR⟩ : ∃ R, R = szR (cN ns) left := ⟨_, rfl⟩
  have HR : Hid (R = szR (n + S n) left) := by show _ = _; rw [hR, HS.out.2.2.2]
  rw [← hR, ← hn]
  clear h hS hR hn
  by_cases h0 : left < n
  · have a1 : IntKind.i64.wrap ((left : Int) - (n : Int)) = (left : Int) - (n : Int) := by rw [IntKind.wrap_i64]; omega
    have a2 : (left : Int) - (n : Int) < 0 := by omega
    have HRN : Hid (R = -1) := by show _ = _; rw [HR.out, szR_gt (by omega)]
    go_enter Tryd.func70, Tryd.ntmps70
    go_wp2
    go_ret
    exact ⟨by rw [HRN.out]; rfl, Below.refl _ _⟩
  · obtain ⟨m0, hm0⟩ : ∃ m0, left = m0 + n := ⟨left - n, by omega⟩
    have a1 : IntKind.i64.wrap ((left : Int) - (n : Int)) = (m0 : Int) := by rw [IntKind.wrap_i64]; omega
    have a2 : ¬ (m0 : Int) < 0 := by omega
    have hmb : m0 ≤ 1048576 := by omega
    have HM : Hid (left = m0 + n) := hm0
    have hnb2 : n ≤ 1048576 := by omega
    clear hm0
    go_enter Tryd.func70, Tryd.ntmps70
    go_wp2
    clear a1 a2
    go_loopw [1, 5] (fun s i wr => ∃ k m : Nat, k ≤ n ∧ s = .int .i64 m ∧ i = .int .i64 k ∧ m ≤ 1048576 ∧ Hid (m + n + S k = left) ∧ Hid (Below w.heap.size w wr)) (fun _ i _ => n - (intOf i).toNat)
    case atStart => exact ⟨0, m0, Nat.zero_le _, rfl, rfl, hmb, by show _ = _; rw [HS.out.1, HM.out]; rfl, Below.refl _ _⟩
    case round =>
      obtain ⟨k, m, hk, rfl, rfl, hm, HK, HW⟩ := hrel
      by_cases hlt : k < n
      · obtain ⟨ea, y0, sx⟩ := HC.out wr HW.out k hlt
        have s1 := HS.out.2.1 k hlt
        obtain ⟨x, hx⟩ : ∃ x, x = ns.getD k e0 := ⟨_, rfl⟩
        rw [← hx] at y0 sx s1
        have hkl : (k : Int) < (n : Int) := by omega
        have hk0 : (0 : Int) ≤ (k : Int) := by omega
        rw [ea]
        clear hx ea
        by_cases hc : x.size ≤ m
        · obtain ⟨m2, hm2⟩ : ∃ m2, m = m2 + x.size := ⟨m - x.size, by omega⟩
          have a1 : IntKind.i64.wrap ((m : Int) - (x.size : Int)) = (m2 : Int) := by rw [IntKind.wrap_i64]; omega
          have a2 : ¬ (m2 : Int) < 0 := by omega
          have HN : Hid (m2 + n + S (k + 1) = left) := by show _ = _; rw [s1]; have := HK.out; omega
          have hm3 : m2 ≤ 1048576 := by omega
          clear s1 hm2
          go_wp2
          go_roundw
          case rel => exact ⟨k + 1, m2, by omega, rfl, by go_num, hm3, HN, HW⟩
          case measure => simp [intOf]; omega
        · have a1 : IntKind.i64.wrap ((m : Int) - (x.size : Int)) = (m : Int) - (x.size : Int) := by rw [IntKind.wrap_i64]; omega
          have a2 : (m : Int) - (x.size : Int) < 0 := by omega
          have HRN : Hid (R = -1) := by
            show _ = _
            have h1 := HS.out.2.2.1 (k + 1)
            have h2 := HK.out
            rw [HR.out, szR_gt (by omega)]
          clear s1
          go_wp2
          go_ret
          exact ⟨by rw [HRN.out]; rfl, HW.out⟩
      · have hkn : k = n := by omega
        subst hkn
        have hkl : ¬ (k : Int) < (k : Int) := by omega
        have HRN : Hid (R = (m : Int)) := by
          show _ = _
          have h2 := HK.out
          rw [HR.out, szR_le (k := m) (by omega)]
        go_wp2
        go_ret
        exact ⟨by rw [HRN.out]; rfl, HW.out⟩

set_option maxRecDepth 100000 in
set_option maxHeartbeats 2000000 in
theorem z_titem (w : World) {t : TI} {p : AP} (h : NL w p t.ns) (h1 : t.md.size ≤ 9223372036854775807) (h2 : t.nm.size ≤ 9223372036854775807) (left : Nat) (hl : left ≤ 1048576) :
    Calls Tryd.prog 47 #[.agg #[.int .i64 t.op, .string t.md, .string t.nm, .slice p.a t.ns.length p.c], .int .i64 (left : Int)] w fun e w' => e = .returned (.int .i64 (szR (cT t) left)) ∧ Below w.heap.size w w' := by
  have hcst : cT t = t.md.size + t.nm.size + cN t.ns := rfl
  have RX := row4 w (.int .i64 t.op) (.string t.md) (.string t.nm) (.slice p.a t.ns.length p.c) 85
  have HRX := hid_of RX
  clear RX
  by_cases d0 : t.md.size ≤ left
  · obtain ⟨m0, e0⟩ : ∃ x, left = x + t.md.size := ⟨left - t.md.size, by omega⟩
    have a0 : IntKind.i64.wrap ((left : Int) - (t.md.size : Int)) = (m0 : Int) := by rw [IntKind.wrap_i64]; omega
    have b0 : ¬ (m0 : Int) < 0 := by omega
    by_cases d1 : t.nm.size ≤ m0
    · obtain ⟨m1, e1⟩ : ∃ x, m0 = x + t.nm.size := ⟨m0 - t.nm.size, by omega⟩
      have a1 : IntKind.i64.wrap ((m0 : Int) - (t.nm.size : Int)) = (m1 : Int) := by rw [IntKind.wrap_i64]; omega
      have b1 : ¬ (m1 : Int) < 0 := by omega
      by_cases d2 : (cN t.ns) ≤ m1
      · obtain ⟨m2, e2⟩ : ∃ x, m1 = x + (cN t.ns) := ⟨m1 - (cN t.ns), by omega⟩
        have HC2 : Hid (∀ W, Below w.heap.size w W → Calls Tryd.prog 70 #[.slice p.a t.ns.length p.c, .int .i64 (m1 : Int)] W fun e w' => e = .returned (.int .i64 (m2 : Int)) ∧ Below W.heap.size W w') := fun W hb => by
          have C := z_names W (h.below hb) m1 (by omega)
          rw [szR_le e2] at C
          exact C
        have b2 : ¬ (m2 : Int) < 0 := by omega
        have HRV : Hid (szR (cT t) left = (m2 : Int)) := by show _ = _; exact szR_le (by omega)
        clear hcst e0 e1 e2
        go_enter Tryd.func47, Tryd.ntmps47
        go_wp2_with fail
        refine (HC2.out _ (bel1 _ _)).mono ?_
        rintro e u2 ⟨rfl, B⟩
        have HB2 : Hid (Below w.heap.size w u2) := (bel1 w _).trans (B.mono (by simp))
        have RX2 := HRX.out.of_block (w' := u2) (B.block _ (by simp))
        have HRX2 := hid_of RX2
        clear RX2 B
        go_wp2
        go_ret
        exact ⟨by rw [HRV.out]; rfl, HB2.out⟩
      · have HC2 : Hid (∀ W, Below w.heap.size w W → Calls Tryd.prog 70 #[.slice p.a t.ns.length p.c, .int .i64 (m1 : Int)] W fun e w' => e = .returned (.int .i64 (-1)) ∧ Below W.heap.size W w') := fun W hb => by
          have C := z_names W (h.below hb) m1 (by omega)
          rw [szR_gt (by omega)] at C
          exact C
        have HRV : Hid (szR (cT t) left = -1) := by show _ = _; exact szR_gt (by omega)
        clear hcst e0 e1
        go_enter Tryd.func47, Tryd.ntmps47
        go_wp2_with fail
        refine (HC2.out _ (bel1 _ _)).mono ?_
        rintro e u2 ⟨rfl, B⟩
        have HB2 : Hid (Below w.heap.size w u2) := (bel1 w _).trans (B.mono (by simp))
        have RX2 := HRX.out.of_block (w' := u2) (B.block _ (by simp))
        have HRX2 := hid_of RX2
        clear RX2 B
        go_wp2
        go_ret
        exact ⟨by rw [HRV.out]; rfl, HB2.out⟩
    · have a1 : IntKind.i64.wrap ((m0 : Int) - (t.nm.size : Int)) = (m0 : Int) - (t.nm.size : Int) := by rw [IntKind.wrap_i64]; omega
      have b1 : (m0 : Int) - (t.nm.size : Int) < 0 := by omega
      have HRV : Hid (szR (cT t) left = -1) := by show _ = _; exact szR_gt (by omega)
      clear hcst e0
      go_enter Tryd.func47, Tryd.ntmps47
      go_wp2
      go_ret
      exact ⟨by rw [HRV.out]; rfl, bel1 _ _⟩
  · have a0 : IntKind.i64.wrap ((left : Int) - (t.md.size : Int)) = (left : Int) - (t.md.size : Int) := by rw [IntKind.wrap_i64]; omega
    have b0 : (left : Int) - (t.md.size : Int) < 0 := by omega
    have HRV : Hid (szR (cT t) left = -1) := by show _ = _; exact szR_gt (by omega)
    clear hcst
    go_enter Tryd.func47, Tryd.ntmps47
    go_wp2
    go_ret
    exact ⟨by rw [HRV.out]; rfl, bel1 _ _⟩

set_option maxRecDepth 100000 in
set_option maxHeartbeats 2000000 in
theorem z_eitem0 (w : World) {t : EI} {p q : AP} (h : NL w p t.ns) (hT : ∀ W, Below w.heap.size w W → ∀ m : Nat, m ≤ 1048576 → Calls Tryd.prog 27 #[.slice q.a t.ty.length q.c, .int .i64 (m : Int)] W fun e w' => e = .returned (.int .i64 (szR (cTs t.ty) m)) ∧ Below W.heap.size W w') (h1 : t.md.size ≤ 9223372036854775807) (h2 : t.nm.size ≤ 9223372036854775807) (left : Nat) (hl : left ≤ 1048576) :
    Calls Tryd.prog 48 #[.agg #[.int .i64 t.op, .int .i64 t.num, .string t.md, .string t.nm, .slice p.a t.ns.length p.c, .slice q.a t.ty.length q.c], .int .i64 (left : Int)] w fun e w' => e = .returned (.int .i64 (szR (cE t) left)) ∧ Below w.heap.size w w' := by
  have hcst : cE t = t.md.size + t.nm.size + cN t.ns + cTs t.ty := rfl
  have RX := row6 w (.int .i64 t.op) (.int .i64 t.num) (.string t.md) (.string t.nm) (.slice p.a t.ns.length p.c) (.slice q.a t.ty.length q.c) 88
  have HRX := hid_of RX
  clear RX
  by_cases d0 : t.md.size ≤ left
  · obtain ⟨m0, e0⟩ : ∃ x, left = x + t.md.size := ⟨left - t.md.size, by omega⟩
    have a0 : IntKind.i64.wrap ((left : Int) - (t.md.size : Int)) = (m0 : Int) := by rw [IntKind.wrap_i64]; omega
    have b0 : ¬ (m0 : Int) < 0 := by omega
    by_cases d1 : t.nm.size ≤ m0
    · obtain ⟨m1, e1⟩ : ∃ x, m0 = x + t.nm.size := ⟨m0 - t.nm.size, by omega⟩
      have a1 : IntKind.i64.wrap ((m0 : Int) - (t.nm.size : Int)) = (m1 : Int) := by rw [IntKind.wrap_i64]; omega
      have b1 : ¬ (m1 : Int) < 0 := by omega
      by_cases d2 : (cN t.ns) ≤ m1
      · obtain ⟨m2, e2⟩ : ∃ x, m1 = x + (cN t.ns) := ⟨m1 - (cN t.ns), by omega⟩
        have HC2 : Hid (∀ W, Below w.heap.size w W → Calls Tryd.prog 70 #[.slice p.a t.ns.length p.c, .int .i64 (m1 : Int)] W fun e w' => e = .returned (.int .i64 (m2 : Int)) ∧ Below W.heap.size W w') := fun W hb => by
          have C := z_names W (h.below hb) m1 (by omega)
          rw [szR_le e2] at C
          exact C
        have b2 : ¬ (m2 : Int) < 0 := by omega
        by_cases d3 : (cTs t.ty) ≤ m2
        · obtain ⟨m3, e3⟩ : ∃ x, m2 = x + (cTs t.ty) := ⟨m2 - (cTs t.ty), by omega⟩
          have HC3 : Hid (∀ W, Below w.heap.size w W → Calls Tryd.prog 27 #[.slice q.a t.ty.length q.c, .int .i64 (m2 : Int)] W fun e w' => e = .returned (.int .i64 (m3 : Int)) ∧ Below W.heap.size W w') := fun W hb => by
            have C := hT W hb m2 (by omega)
            rw [szR_le e3] at C
            exact C
          have b3 : ¬ (m3 : Int) < 0 := by omega
          have HRV : Hid (szR (cE t) left = (m3 : Int)) := by show _ = _; exact szR_le (by omega)
          clear hcst e0 e1 e2 e3
          go_enter Tryd.func48, Tryd.ntmps48
          go_wp2_with fail
          refine (HC2.out _ (bel1 _ _)).mono ?_
          rintro e u2 ⟨rfl, B⟩
          have HB2 : Hid (Below w.heap.size w u2) := (bel1 w _).trans (B.mono (by simp))
          have RX2 := HRX.out.of_block (w' := u2) (B.block _ (by simp))
          have q2_5 : World.cell? u2 ⟨w.heap.size, 5, none⟩ = some (.slice q.a t.ty.length q.c) := RX2.cell (i := 5) (by omega)
          have HRX2 := hid_of RX2
          clear RX2 B
          go_wp2_with fail
          refine (HC3.out _ HB2.out).mono ?_
          rintro e u3 ⟨rfl, B⟩
          have HB3 : Hid (Below w.heap.size w u3) := HB2.out.trans (B.mono HB2.out.size)
          have RX3 := HRX2.out.of_block (w' := u3) (B.block _ HRX2.out.lt)
          have HRX3 := hid_of RX3
          clear RX3 B
          go_wp2
          go_ret
          exact ⟨by rw [HRV.out]; rfl, HB3.out⟩
        · have HC3 : Hid (∀ W, Below w.heap.size w W → Calls Tryd.prog 27 #[.slice q.a t.ty.length q.c, .int .i64 (m2 : Int)] W fun e w' => e = .returned (.int .i64 (-1)) ∧ Below W.heap.size W w') := fun W hb => by
            have C := hT W hb m2 (by omega)
            rw [szR_gt (by omega)] at C
            exact C
          have HRV : Hid (szR (cE t) left = -1) := by show _ = _; exact szR_gt (by omega)
          clear hcst e0 e1 e2
          go_enter Tryd.func48, Tryd.ntmps48
          go_wp2_with fail
          refine (HC2.out _ (bel1 _ _)).mono ?_
          rintro e u2 ⟨rfl, B⟩
          have HB2 : Hid (Below w.heap.size w u2) := (bel1 w _).trans (B.mono (by simp))
          have RX2 := HRX.out.of_block (w' := u2) (B.block _ (by simp))
          have q2_5 : World.cell? u2 ⟨w.heap.size, 5, none⟩ = some (.slice q.a t.ty.length q.c) := RX2.cell (i := 5) (by omega)
          have HRX2 := hid_of RX2
          clear RX2 B
          go_wp2_with fail
          refine (HC3.out _ HB2.out).mono ?_
          rintro e u3 ⟨rfl, B⟩
          have HB3 : Hid (Below w.heap.size w u3) := HB2.out.trans (B.mono HB2.out.size)
          have RX3 := HRX2.out.of_block (w' := u3) (B.block _ HRX2.out.lt)
          have HRX3 := hid_of RX3
          clear RX3 B
          go_wp2
          go_ret
          exact ⟨by rw [HRV.out]; rfl, HB3.out⟩
      · have HC2 : Hid (∀ W, Below w.heap.size w W → Calls Tryd.prog 70 #[.slice p.a t.ns.length p.c, .int .i64 (m1 : Int)] W fun e w' => e = .returned (.int .i64 (-1)) ∧ Below W.heap.size W w') := fun W hb => by
          have C := z_names W (h.below hb) m1 (by omega)
          rw [szR_gt (by omega)] at C
          exact C
        have HRV : Hid (szR (cE t) left = -1) := by show _ = _; exact szR_gt (by omega)
        clear hcst e0 e1
        go_enter Tryd.func48, Tryd.ntmps48
        go_wp2_with fail
        refine (HC2.out _ (bel1 _ _)).mono ?_
        rintro e u2 ⟨rfl, B⟩
        have HB2 : Hid (Below w.heap.size w u2) := (bel1 w _).trans (B.mono (by simp))
        have RX2 := HRX.out.of_block (w' := u2) (B.block _ (by simp))
        have q2_5 : World.cell? u2 ⟨w.heap.size, 5, none⟩ = some (.slice q.a t.ty.length q.c) := RX2.cell (i := 5) (by omega)
        have HRX2 := hid_of RX2
        clear RX2 B
        go_wp2
        go_ret
        exact ⟨by rw [HRV.out]; rfl, HB2.out⟩
    · have a1 : IntKind.i64.wrap ((m0 : Int) - (t.nm.size : Int)) = (m0 : Int) - (t.nm.size : Int) := by rw [IntKind.wrap_i64]; omega
      have b1 : (m0 : Int) - (t.nm.size : Int) < 0 := by omega
      have HRV : Hid (szR (cE t) left = -1) := by show _ = _; exact szR_gt (by omega)
      clear hcst e0
      go_enter Tryd.func48, Tryd.ntmps48
      go_wp2
      go_ret
      exact ⟨by rw [HRV.out]; rfl, bel1 _ _⟩
  · have a0 : IntKind.i64.wrap ((left : Int) - (t.md.size : Int)) = (left : Int) - (t.md.size : Int) := by rw [IntKind.wrap_i64]; omega
    have b0 : (left : Int) - (t.md.size : Int) < 0 := by omega
    have HRV : Hid (szR (cE t) left = -1) := by show _ = _; exact szR_gt (by omega)
    clear hcst
    go_enter Tryd.func48, Tryd.ntmps48
    go_wp2
    go_ret
    exact ⟨by rw [HRV.out]; rfl, bel1 _ _⟩

set_option maxRecDepth 100000 in
set_option maxHeartbeats 2000000 in
theorem z_decl0 (w : World) {t : DC} {p q : AP} (hT : ∀ W, Below w.heap.size w W → ∀ m : Nat, m ≤ 1048576 → Calls Tryd.prog 27 #[.slice p.a t.ty.length p.c, .int .i64 (m : Int)] W fun e w' => e = .returned (.int .i64 (szR (cTs t.ty) m)) ∧ Below W.heap.size W w') (hE : ∀ W, Below w.heap.size w W → ∀ m : Nat, m ≤ 1048576 → Calls Tryd.prog 28 #[.slice q.a t.ex.length q.c, .int .i64 (m : Int)] W fun e w' => e = .returned (.int .i64 (szR (cEs t.ex) m)) ∧ Below W.heap.size W w') (h1 : t.nm.size ≤ 9223372036854775807) (left : Nat) (hl : left ≤ 1048576) :
    Calls Tryd.prog 18 #[.agg #[.int .i64 t.kind, .string t.nm, .slice p.a t.ty.length p.c, .slice q.a t.ex.length q.c], .int .i64 (left : Int)] w fun e w' => e = .returned (.int .i64 (szR (cD t) left)) ∧ Below w.heap.size w w' := by
  have hcst : cD t = t.nm.size + cTs t.ty + cEs t.ex := rfl
  have RX := row4 w (.int .i64 t.kind) (.string t.nm) (.slice p.a t.ty.length p.c) (.slice q.a t.ex.length q.c) 49
  have HRX := hid_of RX
  clear RX
  by_cases d0 : t.nm.size ≤ left
  · obtain ⟨m0, e0⟩ : ∃ x, left = x + t.nm.size := ⟨left - t.nm.size, by omega⟩
    have a0 : IntKind.i64.wrap ((left : Int) - (t.nm.size : Int)) = (m0 : Int) := by rw [IntKind.wrap_i64]; omega
    have b0 : ¬ (m0 : Int) < 0 := by omega
    by_cases d1 : (cTs t.ty) ≤ m0
    · obtain ⟨m1, e1⟩ : ∃ x, m0 = x + (cTs t.ty) := ⟨m0 - (cTs t.ty), by omega⟩
      have HC1 : Hid (∀ W, Below w.heap.size w W → Calls Tryd.prog 27 #[.slice p.a t.ty.length p.c, .int .i64 (m0 : Int)] W fun e w' => e = .returned (.int .i64 (m1 : Int)) ∧ Below W.heap.size W w') := fun W hb => by
        have C := hT W hb m0 (by omega)
        rw [szR_le e1] at C
        exact C
      have b1 : ¬ (m1 : Int) < 0 := by omega
      by_cases d2 : (cEs t.ex) ≤ m1
      · obtain ⟨m2, e2⟩ : ∃ x, m1 = x + (cEs t.ex) := ⟨m1 - (cEs t.ex), by omega⟩
        have HC2 : Hid (∀ W, Below w.heap.size w W → Calls Tryd.prog 28 #[.slice q.a t.ex.length q.c, .int .i64 (m1 : Int)] W fun e w' => e = .returned (.int .i64 (m2 : Int)) ∧ Below W.heap.size W w') := fun W hb => by
          have C := hE W hb m1 (by omega)
          rw [szR_le e2] at C
          exact C
        have b2 : ¬ (m2 : Int) < 0 := by omega
        have HRV : Hid (szR (cD t) left = (m2 : Int)) := by show _ = _; exact szR_le (by omega)
        clear hcst e0 e1 e2
        go_enter Tryd.func18, Tryd.ntmps18
        go_wp2_with fail
        refine (HC1.out _ (bel1 _ _)).mono ?_
        rintro e u1 ⟨rfl, B⟩
        have HB1 : Hid (Below w.heap.size w u1) := (bel1 w _).trans (B.mono (by simp))
        have RX1 := HRX.out.of_block (w' := u1) (B.block _ (by simp))
        have q1_3 : World.cell? u1 ⟨w.heap.size, 3, none⟩ = some (.slice q.a t.ex.length q.c) := RX1.cell (i := 3) (by omega)
        have HRX1 := hid_of RX1
        clear RX1 B
        go_wp2_with fail
        refine (HC2.out _ HB1.out).mono ?_
        rintro e u2 ⟨rfl, B⟩
        have HB2 : Hid (Below w.heap.size w u2) := HB1.out.trans (B.mono HB1.out.size)
        have RX2 := HRX1.out.of_block (w' := u2) (B.block _ HRX1.out.lt)
        have HRX2 := hid_of RX2
        clear RX2 B
        go_wp2
        go_ret
        exact ⟨by rw [HRV.out]; rfl, HB2.out⟩
      · have HC2 : Hid (∀ W, Below w.heap.size w W → Calls Tryd.prog 28 #[.slice q.a t.ex.length q.c, .int .i64 (m1 : Int)] W fun e w' => e = .returned (.int .i64 (-1)) ∧ Below W.heap.size W w') := fun W hb => by
          have C := hE W hb m1 (by omega)
          rw [szR_gt (by omega)] at C
          exact C
        have HRV : Hid (szR (cD t) left = -1) := by show _ = _; exact szR_gt (by omega)
        clear hcst e0 e1
        go_enter Tryd.func18, Tryd.ntmps18
        go_wp2_with fail
        refine (HC1.out _ (bel1 _ _)).mono ?_
        rintro e u1 ⟨rfl, B⟩
        have HB1 : Hid (Below w.heap.size w u1) := (bel1 w _).trans (B.mono (by simp))
        have RX1 := HRX.out.of_block (w' := u1) (B.block _ (by simp))
        have q1_3 : World.cell? u1 ⟨w.heap.size, 3, none⟩ = some (.slice q.a t.ex.length q.c) := RX1.cell (i := 3) (by omega)
        have HRX1 := hid_of RX1
        clear RX1 B
        go_wp2_with fail
        refine (HC2.out _ HB1.out).mono ?_
        rintro e u2 ⟨rfl, B⟩
        have HB2 : Hid (Below w.heap.size w u2) := HB1.out.trans (B.mono HB1.out.size)
        have RX2 := HRX1.out.of_block (w' := u2) (B.block _ HRX1.out.lt)
        have HRX2 := hid_of RX2
        clear RX2 B
        go_wp2
        go_ret
        exact ⟨by rw [HRV.out]; rfl, HB2.out⟩
    · have HC1 : Hid (∀ W, Below w.heap.size w W → Calls Tryd.prog 27 #[.slice p.a t.ty.length p.c, .int .i64 (m0 : Int)] W fun e w' => e = .returned (.int .i64 (-1)) ∧ Below W.heap.size W w') := fun W hb => by
        have C := hT W hb m0 (by omega)
        rw [szR_gt (by omega)] at C
        exact C
      have HRV : Hid (szR (cD t) left = -1) := by show _ = _; exact szR_gt (by omega)
      clear hcst e0
      go_enter Tryd.func18, Tryd.ntmps18
      go_wp2_with fail
      refine (HC1.out _ (bel1 _ _)).mono ?_
      rintro e u1 ⟨rfl, B⟩
      have HB1 : Hid (Below w.heap.size w u1) := (bel1 w _).trans (B.mono (by simp))
      have RX1 := HRX.out.of_block (w' := u1) (B.block _ (by simp))
      have q1_3 : World.cell? u1 ⟨w.heap.size, 3, none⟩ = some (.slice q.a t.ex.length q.c) := RX1.cell (i := 3) (by omega)
      have HRX1 := hid_of RX1
      clear RX1 B
      go_wp2
      go_ret
      exact ⟨by rw [HRV.out]; rfl, HB1.out⟩
  · have a0 : IntKind.i64.wrap ((left : Int) - (t.nm.size : Int)) = (left : Int) - (t.nm.size : Int) := by rw [IntKind.wrap_i64]; omega
    have b0 : (left : Int) - (t.nm.size : Int) < 0 := by omega
    have HRV : Hid (szR (cD t) left = -1) := by show _ = _; exact szR_gt (by omega)
    clear hcst
    go_enter Tryd.func18, Tryd.ntmps18
    go_wp2
    go_ret
    exact ⟨by rw [HRV.out]; rfl, bel1 _ _⟩

set_option maxRecDepth 100000 in
set_option maxHeartbeats 2000000 in
theorem z_titems (w : World) {p : AP} {xs : List (TI × AP)} (h : TL w p xs) {l : List TI} (hx : xs.map Prod.fst = l) (left : Nat) (hl : left ≤ 1048576) :
    Calls Tryd.prog 27 #[.slice p.a l.length p.c, .int .i64 (left : Int)] w fun e w' => e = .returned (.int .i64 (szR (cTs l) left)) ∧ Below w.heap.size w w' := by
  have hlen : l.length = xs.length := by rw [← hx, List.length_map]
  obtain ⟨n, hn⟩ : ∃ n, n = xs.length := ⟨_, rfl⟩
  obtain ⟨S, hS⟩ : ∃ S : Nat → Nat, S = fun k => ((l.take k).map cT).sum := ⟨_, rfl⟩
  have hnb : n ≤ 9223372036854775807 := by rw [hn]; exact h.len
  have HC : Hid (∀ W, Below w.heap.size w W → ∀ k, k < n → ∃ (t : TI) (q : AP), p.a = some ⟨p.b, p.o, none⟩ ∧ (W.cell? ⟨p.b, p.o + k * 4, none⟩ = some (.int .i64 t.op) ∧ W.cell? ⟨p.b, p.o + k * 4 + 1, none⟩ = some (.string t.md) ∧ W.cell? ⟨p.b, p.o + k * 4 + 2, none⟩ = some (.string t.nm) ∧ W.cell? ⟨p.b, p.o + k * 4 + 3, none⟩ = some (.slice q.a t.ns.length q.c)) ∧ S (k + 1) = S k + cT t ∧ ∀ m : Nat, m ≤ 1048576 → Calls Tryd.prog 47 #[.agg #[.int .i64 t.op, .string t.md, .string t.nm, .slice q.a t.ns.length q.c], .int .i64 (m : Int)] W fun e w' => e = .returned (.int .i64 (szR (cT t) m)) ∧ Below W.heap.size W w') := fun W hb k hk => by
    have hk2 : k < xs.length := by omega
    have H := h.below hb
    refine ⟨xs[k].1, xs[k].2, h.at_ (by omega), H.cell k hk2, ?_, fun m hm => z_titem W (H.nl k hk2) (h.sz k hk2).1 (h.sz k hk2).2 m hm⟩
    rw [hS]
    dsimp only
    rw [List.take_add_one, List.getElem?_eq_getElem (by omega), List.map_append, List.sum_append]
    simp [← hx]
  have HS : Hid (S 0 = 0 ∧ (∀ k, S k ≤ S n) ∧ cTs l = n + S n) := by
    rw [hS, hn, ← hlen]
    refine ⟨rfl, fun k => ?_, ?_⟩
    · dsimp only
      rw [List.take_length]
      exact sum_take _ _ _
    · dsimp only
      rw [List.take_length]
      rfl
  obtain ⟨R, hR⟩ : ∃ R, R = szR (cTs l) left := ⟨_, rfl⟩
  have HR : Hid (R = szR (n + S n) left) := by show _ = _; rw [hR, HS.out.2.2]
  rw [← hR, hlen, ← hn]
  clear h hS hR hn hx hlen
  by_cases h0 : left < n
  · have a1 : IntKind.i64.wrap ((left : Int) - (n : Int)) = (left : Int) - (n : Int) := by rw [IntKind.wrap_i64]; omega
    have a2 : (left : Int) - (n : Int) < 0 := by omega
    have HRN : Hid (R = -1) := by show _ = _; rw [HR.out, szR_gt (by omega)]
    go_enter Tryd.func27, Tryd.ntmps27
    go_wp2
    go_ret
    exact ⟨by rw [HRN.out]; rfl, Below.refl _ _⟩
  · obtain ⟨m0, hm0⟩ : ∃ m0, left = m0 + n := ⟨left - n, by omega⟩
    have a1 : IntKind.i64.wrap ((left : Int) - (n : Int)) = (m0 : Int) := by rw [IntKind.wrap_i64]; omega
    have a2 : ¬ (m0 : Int) < 0 := by omega
    have hmb : m0 ≤ 1048576 := by omega
    have HM : Hid (left = m0 + n) := hm0
    have hnb2 : n ≤ 1048576 := by omega
    clear hm0
    go_enter Tryd.func27, Tryd.ntmps27
    go_wp2
    clear a1 a2
    go_loopw [1, 5] (fun s i wr => ∃ k m : Nat, k ≤ n ∧ s = .int .i64 m ∧ i = .int .i64 k ∧ m ≤ 1048576 ∧ Hid (m + n + S k = left) ∧ Hid (Below w.heap.size w wr)) (fun _ i _ => n - (intOf i).toNat)
    case atStart => exact ⟨0, m0, Nat.zero_le _, rfl, rfl, hmb, by show _ = _; rw [HS.out.1, HM.out]; rfl, Below.refl _ _⟩
    case round =>
      obtain ⟨k, m, hk, rfl, rfl, hm, HK, HW⟩ := hrel
      by_cases hlt : k < n
      · obtain ⟨t, q, ea, ⟨y0, y1, y2, y3⟩, s1, CI⟩ := HC.out wr HW.out k hlt
        have C1 := CI m hm
        have hkl : (k : Int) < (n : Int) := by omega
        have hk0 : (0 : Int) ≤ (k : Int) := by omega
        rw [ea]
        clear ea CI
        by_cases hc : cT t ≤ m
        · obtain ⟨m2, hm2⟩ : ∃ m2, m = m2 + cT t := ⟨m - cT t, by omega⟩
          rw [szR_le hm2] at C1
          have a2 : ¬ (m2 : Int) < 0 := by omega
          have HN : Hid (m2 + n + S (k + 1) = left) := by show _ = _; rw [s1]; have := HK.out; omega
          have hm3 : m2 ≤ 1048576 := by omega
          clear s1 hm2
          go_wp2_with fail
          refine C1.mono ?_
          rintro e w2 ⟨rfl, B2⟩
          have HW2 : Hid (Below w.heap.size w w2) := HW.out.trans (B2.mono HW.out.size)
          clear C1 B2 y0 y1 y2 y3
          go_wp2
          go_roundw
          case rel => exact ⟨k + 1, m2, by omega, rfl, by go_num, hm3, HN, HW2⟩
          case measure => simp [intOf]; omega
        · rw [szR_gt (by omega)] at C1
          have HRN : Hid (R = -1) := by
            show _ = _
            have h1 := HS.out.2.1 (k + 1)
            have h2 := HK.out
            rw [HR.out, szR_gt (by omega)]
          clear s1
          go_wp2_with fail
          refine C1.mono ?_
          rintro e w2 ⟨rfl, B2⟩
          have HW2 : Hid (Below w.heap.size w w2) := HW.out.trans (B2.mono HW.out.size)
          clear C1 B2 y0 y1 y2 y3
          go_wp2
          go_ret
          exact ⟨by rw [HRN.out]; rfl, HW2.out⟩
      · have hkn : k = n := by omega
        subst hkn
        have hkl : ¬ (k : Int) < (k : Int) := by omega
        have HRN : Hid (R = (m : Int)) := by
          show _ = _
          have h2 := HK.out
          rw [HR.out, szR_le (k := m) (by omega)]
        go_wp2
        go_ret
        exact ⟨by rw [HRN.out]; rfl, HW.out⟩

set_option maxRecDepth 100000 in
set_option maxHeartbeats 2000000 in
theorem z_eitems (w : World) {p : AP} {xs : List (EI × EQ)} (h : EL w p xs) {l : List EI} (hx : xs.map Prod.fst = l) (left : Nat) (hl : left ≤ 1048576) :
    Calls Tryd.prog 28 #[.slice p.a l.length p.c, .int .i64 (left : Int)] w fun e w' => e = .returned (.int .i64 (szR (cEs l) left)) ∧ Below w.heap.size w w' := by
  have hlen : l.length = xs.length := by rw [← hx, List.length_map]
  obtain ⟨n, hn⟩ : ∃ n, n = xs.length := ⟨_, rfl⟩
  obtain ⟨S, hS⟩ : ∃ S : Nat → Nat, S = fun k => ((l.take k).map cE).sum := ⟨_, rfl⟩
  have hnb : n ≤ 9223372036854775807 := by rw [hn]; exact h.len
  have HC : Hid (∀ W, Below w.heap.size w W → ∀ k, k < n → ∃ (t : EI) (q : EQ), p.a = some ⟨p.b, p.o, none⟩ ∧ (W.cell? ⟨p.b, p.o + k * 6, none⟩ = some (.int .i64 t.op) ∧ W.cell? ⟨p.b, p.o + k * 6 + 1, none⟩ = some (.int .i64 t.num) ∧ W.cell? ⟨p.b, p.o + k * 6 + 2, none⟩ = some (.string t.md) ∧ W.cell? ⟨p.b, p.o + k * 6 + 3, none⟩ = some (.string t.nm) ∧ W.cell? ⟨p.b, p.o + k * 6 + 4, none⟩ = some (.slice q.np.a t.ns.length q.np.c) ∧ W.cell? ⟨p.b, p.o + k * 6 + 5, none⟩ = some (.slice q.tp.a t.ty.length q.tp.c)) ∧ S (k + 1) = S k + cE t ∧ ∀ m : Nat, m ≤ 1048576 → Calls Tryd.prog 48 #[.agg #[.int .i64 t.op, .int .i64 t.num, .string t.md, .string t.nm, .slice q.np.a t.ns.length q.np.c, .slice q.tp.a t.ty.length q.tp.c], .int .i64 (m : Int)] W fun e w' => e = .returned (.int .i64 (szR (cE t) m)) ∧ Below W.heap.size W w') := fun W hb k hk => by
    have hk2 : k < xs.length := by omega
    have H := h.below hb
    refine ⟨xs[k].1, xs[k].2, h.at_ (by omega), H.cell k hk2, ?_, fun m hm => z_eitem0 W (H.nl k hk2) (fun W' hb' m' hm' => z_titems W' ((H.tl k hk2).below hb') (h.is k hk2) m' hm') (h.sz k hk2).1 (h.sz k hk2).2 m hm⟩
    rw [hS]
    dsimp only
    rw [List.take_add_one, List.getElem?_eq_getElem (by omega), List.map_append, List.sum_append]
    simp [← hx]
  have HS : Hid (S 0 = 0 ∧ (∀ k, S k ≤ S n) ∧ cEs l = n + S n) := by
    rw [hS, hn, ← hlen]
    refine ⟨rfl, fun k => ?_, ?_⟩
    · dsimp only
      rw [List.take_length]
      exact sum_take _ _ _
    · dsimp only
      rw [List.take_length]
      rfl
  obtain ⟨R, hR⟩ : ∃ R, R = szR (cEs l) left := ⟨_, rfl⟩
  have HR : Hid (R = szR (n + S n) left) := by show _ = _; rw [hR, HS.out.2.2]
  rw [← hR, hlen, ← hn]
  clear h hS hR hn hx hlen
  by_cases h0 : left < n
  · have a1 : IntKind.i64.wrap ((left : Int) - (n : Int)) = (left : Int) - (n : Int) := by rw [IntKind.wrap_i64]; omega
    have a2 : (left : Int) - (n : Int) < 0 := by omega
    have HRN : Hid (R = -1) := by show _ = _; rw [HR.out, szR_gt (by omega)]
    go_enter Tryd.func28, Tryd.ntmps28
    go_wp2
    go_ret
    exact ⟨by rw [HRN.out]; rfl, Below.refl _ _⟩
  · obtain ⟨m0, hm0⟩ : ∃ m0, left = m0 + n := ⟨left - n, by omega⟩
    have a1 : IntKind.i64.wrap ((left : Int) - (n : Int)) = (m0 : Int) := by rw [IntKind.wrap_i64]; omega
    have a2 : ¬ (m0 : Int) < 0 := by omega
    have hmb : m0 ≤ 1048576 := by omega
    have HM : Hid (left = m0 + n) := hm0
    have hnb2 : n ≤ 1048576 := by omega
    clear hm0
    go_enter Tryd.func28, Tryd.ntmps28
    go_wp2
    clear a1 a2
    go_loopw [1, 5] (fun s i wr => ∃ k m : Nat, k ≤ n ∧ s = .int .i64 m ∧ i = .int .i64 k ∧ m ≤ 1048576 ∧ Hid (m + n + S k = left) ∧ Hid (Below w.heap.size w wr)) (fun _ i _ => n - (intOf i).toNat)
    case atStart => exact ⟨0, m0, Nat.zero_le _, rfl, rfl, hmb, by show _ = _; rw [HS.out.1, HM.out]; rfl, Below.refl _ _⟩
    case round =>
      obtain ⟨k, m, hk, rfl, rfl, hm, HK, HW⟩ := hrel
      by_cases hlt : k < n
      · obtain ⟨t, q, ea, ⟨y0, y1, y2, y3, y4, y5⟩, s1, CI⟩ := HC.out wr HW.out k hlt
        have C1 := CI m hm
        have hkl : (k : Int) < (n : Int) := by omega
        have hk0 : (0 : Int) ≤ (k : Int) := by omega
        rw [ea]
        clear ea CI
        by_cases hc : cE t ≤ m
        · obtain ⟨m2, hm2⟩ : ∃ m2, m = m2 + cE t := ⟨m - cE t, by omega⟩
          rw [szR_le hm2] at C1
          have a2 : ¬ (m2 : Int) < 0 := by omega
          have HN : Hid (m2 + n + S (k + 1) = left) := by show _ = _; rw [s1]; have := HK.out; omega
          have hm3 : m2 ≤ 1048576 := by omega
          clear s1 hm2
          go_wp2_with fail
          refine C1.mono ?_
          rintro e w2 ⟨rfl, B2⟩
          have HW2 : Hid (Below w.heap.size w w2) := HW.out.trans (B2.mono HW.out.size)
          clear C1 B2 y0 y1 y2 y3 y4 y5
          go_wp2
          go_roundw
          case rel => exact ⟨k + 1, m2, by omega, rfl, by go_num, hm3, HN, HW2⟩
          case measure => simp [intOf]; omega
        · rw [szR_gt (by omega)] at C1
          have HRN : Hid (R = -1) := by
            show _ = _
            have h1 := HS.out.2.1 (k + 1)
            have h2 := HK.out
            rw [HR.out, szR_gt (by omega)]
          clear s1
          go_wp2_with fail
          refine C1.mono ?_
          rintro e w2 ⟨rfl, B2⟩
          have HW2 : Hid (Below w.heap.size w w2) := HW.out.trans (B2.mono HW.out.size)
          clear C1 B2 y0 y1 y2 y3 y4 y5
          go_wp2
          go_ret
          exact ⟨by rw [HRN.out]; rfl, HW2.out⟩
      · have hkn : k = n := by omega
        subst hkn
        have hkl : ¬ (k : Int) < (k : Int) := by omega
        have HRN : Hid (R = (m : Int)) := by
          show _ = _
          have h2 := HK.out
          rw [HR.out, szR_le (k := m) (by omega)]
        go_wp2
        go_ret
        exact ⟨by rw [HRN.out]; rfl, HW.out⟩

set_option maxRecDepth 100000 in
set_option maxHeartbeats 2000000 in
theorem z_decls (w : World) {p : AP} {xs : List (DC × DQ)} (h : DL w p xs) {l : List DC} (hx : xs.map Prod.fst = l) (left : Nat) (hl : left ≤ 1048576) :
    Calls Tryd.prog 12 #[.slice p.a l.length p.c, .int .i64 (left : Int)] w fun e w' => e = .returned (.int .i64 (szR (cDs l) left)) ∧ Below w.heap.size w w' := by
  have hlen : l.length = xs.length := by rw [← hx, List.length_map]
  obtain ⟨n, hn⟩ : ∃ n, n = xs.length := ⟨_, rfl⟩
  obtain ⟨S, hS⟩ : ∃ S : Nat → Nat, S = fun k => ((l.take k).map cD).sum := ⟨_, rfl⟩
  have hnb : n ≤ 9223372036854775807 := by rw [hn]; exact h.len
  have HC : Hid (∀ W, Below w.heap.size w W → ∀ k, k < n → ∃ (t : DC) (q : DQ), p.a = some ⟨p.b, p.o, none⟩ ∧ (W.cell? ⟨p.b, p.o + k * 4, none⟩ = some (.int .i64 t.kind) ∧ W.cell? ⟨p.b, p.o + k * 4 + 1, none⟩ = some (.string t.nm) ∧ W.cell? ⟨p.b, p.o + k * 4 + 2, none⟩ = some (.slice q.tp.a t.ty.length q.tp.c) ∧ W.cell? ⟨p.b, p.o + k * 4 + 3, none⟩ = some (.slice q.ep.a t.ex.length q.ep.c)) ∧ S (k + 1) = S k + cD t ∧ ∀ m : Nat, m ≤ 1048576 → Calls Tryd.prog 18 #[.agg #[.int .i64 t.kind, .string t.nm, .slice q.tp.a t.ty.length q.tp.c, .slice q.ep.a t.ex.length q.ep.c], .int .i64 (m : Int)] W fun e w' => e = .returned (.int .i64 (szR (cD t) m)) ∧ Below W.heap.size W w') := fun W hb k hk => by
    have hk2 : k < xs.length := by omega
    have H := h.below hb
    refine ⟨xs[k].1, xs[k].2, h.at_ (by omega), H.cell k hk2, ?_, fun m hm => z_decl0 W (fun W' hb' m' hm' => z_titems W' ((H.tl k hk2).below hb') (h.isT k hk2) m' hm') (fun W' hb' m' hm' => z_eitems W' ((H.el k hk2).below hb') (h.isE k hk2) m' hm') (h.sz k hk2) m hm⟩
    rw [hS]
    dsimp only
    rw [List.take_add_one, List.getElem?_eq_getElem (by omega), List.map_append, List.sum_append]
    simp [← hx]
  have HS : Hid (S 0 = 0 ∧ (∀ k, S k ≤ S n) ∧ cDs l = n + S n) := by
    rw [hS, hn, ← hlen]
    refine ⟨rfl, fun k => ?_, ?_⟩
    · dsimp only
      rw [List.take_length]
      exact sum_take _ _ _
    · dsimp only
      rw [List.take_length]
      rfl
  obtain ⟨R, hR⟩ : ∃ R, R = szR (cDs l) left := ⟨_, rfl⟩
  have HR : Hid (R = szR (n + S n) left) := by show _ = _; rw [hR, HS.out.2.2]
  rw [← hR, hlen, ← hn]
  clear h hS hR hn hx hlen
  by_cases h0 : left < n
  · have a1 : IntKind.i64.wrap ((left : Int) - (n : Int)) = (left : Int) - (n : Int) := by rw [IntKind.wrap_i64]; omega
    have a2 : (left : Int) - (n : Int) < 0 := by omega
    have HRN : Hid (R = -1) := by show _ = _; rw [HR.out, szR_gt (by omega)]
    go_enter Tryd.func12, Tryd.ntmps12
    go_wp2
    go_ret
    exact ⟨by rw [HRN.out]; rfl, Below.refl _ _⟩
  · obtain ⟨m0, hm0⟩ : ∃ m0, left = m0 + n := ⟨left - n, by omega⟩
    have a1 : IntKind.i64.wrap ((left : Int) - (n : Int)) = (m0 : Int) := by rw [IntKind.wrap_i64]; omega
    have a2 : ¬ (m0 : Int) < 0 := by omega
    have hmb : m0 ≤ 1048576 := by omega
    have HM : Hid (left = m0 + n) := hm0
    have hnb2 : n ≤ 1048576 := by omega
    clear hm0
    go_enter Tryd.func12, Tryd.ntmps12
    go_wp2
    clear a1 a2
    go_loopw [1, 5] (fun s i wr => ∃ k m : Nat, k ≤ n ∧ s = .int .i64 m ∧ i = .int .i64 k ∧ m ≤ 1048576 ∧ Hid (m + n + S k = left) ∧ Hid (Below w.heap.size w wr)) (fun _ i _ => n - (intOf i).toNat)
    case atStart => exact ⟨0, m0, Nat.zero_le _, rfl, rfl, hmb, by show _ = _; rw [HS.out.1, HM.out]; rfl, Below.refl _ _⟩
    case round =>
      obtain ⟨k, m, hk, rfl, rfl, hm, HK, HW⟩ := hrel
      by_cases hlt : k < n
      · obtain ⟨t, q, ea, ⟨y0, y1, y2, y3⟩, s1, CI⟩ := HC.out wr HW.out k hlt
        have C1 := CI m hm
        have hkl : (k : Int) < (n : Int) := by omega
        have hk0 : (0 : Int) ≤ (k : Int) := by omega
        rw [ea]
        clear ea CI
        by_cases hc : cD t ≤ m
        · obtain ⟨m2, hm2⟩ : ∃ m2, m = m2 + cD t := ⟨m - cD t, by omega⟩
          rw [szR_le hm2] at C1
          have a2 : ¬ (m2 : Int) < 0 := by omega
          have HN : Hid (m2 + n + S (k + 1) = left) := by show _ = _; rw [s1]; have := HK.out; omega
          have hm3 : m2 ≤ 1048576 := by omega
          clear s1 hm2
          go_wp2_with fail
          refine C1.mono ?_
          rintro e w2 ⟨rfl, B2⟩
          have HW2 : Hid (Below w.heap.size w w2) := HW.out.trans (B2.mono HW.out.size)
          clear C1 B2 y0 y1 y2 y3
          go_wp2
          go_roundw
          case rel => exact ⟨k + 1, m2, by omega, rfl, by go_num, hm3, HN, HW2⟩
          case measure => simp [intOf]; omega
        · rw [szR_gt (by omega)] at C1
          have HRN : Hid (R = -1) := by
            show _ = _
            have h1 := HS.out.2.1 (k + 1)
            have h2 := HK.out
            rw [HR.out, szR_gt (by omega)]
          clear s1
          go_wp2_with fail
          refine C1.mono ?_
          rintro e w2 ⟨rfl, B2⟩
          have HW2 : Hid (Below w.heap.size w w2) := HW.out.trans (B2.mono HW.out.size)
          clear C1 B2 y0 y1 y2 y3
          go_wp2
          go_ret
          exact ⟨by rw [HRN.out]; rfl, HW2.out⟩
      · have hkn : k = n := by omega
        subst hkn
        have hkl : ¬ (k : Int) < (k : Int) := by omega
        have HRN : Hid (R = (m : Int)) := by
          show _ = _
          have h2 := HK.out
          rw [HR.out, szR_le (k := m) (by omega)]
        go_wp2
        go_ret
        exact ⟨by rw [HRN.out]; rfl, HW.out⟩

set_option maxRecDepth 100000 in
set_option maxHeartbeats 2000000 in
theorem z_module0 (w : World) {p : AP} {n : Nat} {l : List DC} (hD : ∀ W, Below w.heap.size w W → ∀ m : Nat, m ≤ 1048576 → Calls Tryd.prog 12 #[.slice p.a n p.c, .int .i64 (m : Int)] W fun e w' => e = .returned (.int .i64 (szR (cDs l) m)) ∧ Below W.heap.size W w') (left : Nat) (hl : left ≤ 1048576) :
    Calls Tryd.prog 5 #[.agg #[.slice p.a n p.c], .int .i64 (left : Int)] w fun e w' => e = .returned (.int .i64 (szR (cDs l) left)) ∧ Below w.heap.size w w' := by
  have hcst : True := trivial
  have RX := row1 w (.slice p.a n p.c) 24
  have HRX := hid_of RX
  clear RX
  by_cases d0 : (cDs l) ≤ left
  · obtain ⟨m0, e0⟩ : ∃ x, left = x + (cDs l) := ⟨left - (cDs l), by omega⟩
    have HC0 : Hid (∀ W, Below w.heap.size w W → Calls Tryd.prog 12 #[.slice p.a n p.c, .int .i64 (left : Int)] W fun e w' => e = .returned (.int .i64 (m0 : Int)) ∧ Below W.heap.size W w') := fun W hb => by
      have C := hD W hb left (by omega)
      rw [szR_le e0] at C
      exact C
    have b0 : ¬ (m0 : Int) < 0 := by omega
    have HRV : Hid (szR (cDs l) left = (m0 : Int)) := by show _ = _; exact szR_le (by omega)
    clear hcst e0
    go_enter Tryd.func5, Tryd.ntmps5
    go_wp2_with fail
    refine (HC0.out _ (bel1 _ _)).mono ?_
    rintro e u0 ⟨rfl, B⟩
    have HB0 : Hid (Below w.heap.size w u0) := (bel1 w _).trans (B.mono (by simp))
    have RX0 := HRX.out.of_block (w' := u0) (B.block _ (by simp))
    have HRX0 := hid_of RX0
    clear RX0 B
    go_wp2
    go_ret
    exact ⟨by rw [HRV.out]; rfl, HB0.out⟩
  · have HC0 : Hid (∀ W, Below w.heap.size w W → Calls Tryd.prog 12 #[.slice p.a n p.c, .int .i64 (left : Int)] W fun e w' => e = .returned (.int .i64 (-1)) ∧ Below W.heap.size W w') := fun W hb => by
      have C := hD W hb left (by omega)
      rw [szR_gt (by omega)] at C
      exact C
    have HRV : Hid (szR (cDs l) left = -1) := by show _ = _; exact szR_gt (by omega)
    clear hcst
    go_enter Tryd.func5, Tryd.ntmps5
    go_wp2_with fail
    refine (HC0.out _ (bel1 _ _)).mono ?_
    rintro e u0 ⟨rfl, B⟩
    have HB0 : Hid (Below w.heap.size w u0) := (bel1 w _).trans (B.mono (by simp))
    have RX0 := HRX.out.of_block (w' := u0) (B.block _ (by simp))
    have HRX0 := hid_of RX0
    clear RX0 B
    go_wp2
    go_ret
    exact ⟨by rw [HRV.out]; rfl, HB0.out⟩
theorem z_module (w : World) {p : AP} {xs : List (DC × DQ)} (h : DL w p xs) {l : List DC} (hx : xs.map Prod.fst = l) (left : Nat) (hl : left ≤ 1048576) :
    Calls Tryd.prog 5 #[.agg #[.slice p.a l.length p.c], .int .i64 (left : Int)] w fun e w' => e = .returned (.int .i64 (szR (cDs l) left)) ∧ Below w.heap.size w w' :=
  z_module0 w (fun W hb m hm => z_decls W (h.below hb) hx m hm) left hl

end Go.Proofs.YtcehppndpccldaaDoor
