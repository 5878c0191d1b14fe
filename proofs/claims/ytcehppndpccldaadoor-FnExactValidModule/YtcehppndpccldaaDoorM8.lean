/-
  Merged for the claim: VfB VfC.
-/
import Derived.Test.YtcehppndpccldaaDoorVfA
namespace Go.Proofs.YtcehppndpccldaaDoor
open Go.RowKit

def SmT (L : Nat) (x : TI) : Prop := x.ns.length ≤ L
def SmE (L : Nat) (x : EI) : Prop := x.ns.length ≤ L ∧ x.ty.length ≤ L ∧ ∀ t, t ∈ x.ty → SmT L t
def SmD (L : Nat) (d : DC) : Prop := d.ty.length ≤ L ∧ (∀ t, t ∈ d.ty → SmT L t) ∧ d.ex.length ≤ L ∧ ∀ t, t ∈ d.ex → SmE L t

theorem NmOK.drew {B : Nat} {w : World} {ns : List ByteArray} {p : NPl} (h : NmOK B w ns p) : NmOK B w.drew ns p := h
theorem map_get {α β : Type} {f : α → β} {xs ys : List α} (h : xs.map f = ys.map f) {k : Nat} (h1 : k < xs.length) (h2 : k < ys.length) : f xs[k] = f ys[k] := by
  have e1 : (xs.map f)[k]? = some (f xs[k]) := by rw [List.getElem?_map, List.getElem?_eq_getElem h1]; rfl
  have e2 : (ys.map f)[k]? = some (f ys[k]) := by rw [List.getElem?_map, List.getElem?_eq_getElem h2]; rfl
  rw [h, e2] at e1
  exact (Option.some.inj e1).symm

set_option maxRecDepth 100000 in
set_option maxHeartbeats 1000000 in
theorem e_names (w : World) {B1 B2 : Nat} {ns : List ByteArray} {p q : NPl} (h1 : NmOK B1 w ns p) (h2 : NmOK B2 w ns q) {n : Nat} (hn : n = ns.length) (hl : n ≤ 1048576) :
    Calls Tryd.prog 78 #[.slice p.a n p.c, .slice q.a n q.c] w fun e w' => e = .returned (.bool true) ∧ ∃ k, w' = w.drewN k := by
  have HC : Hid (∀ k, k < n → (p.a = some ⟨p.b, 0, none⟩ ∧ w.cell? ⟨p.b, k, none⟩ = some (.string (ns.getD k e0))) ∧ (q.a = some ⟨q.b, 0, none⟩ ∧ w.cell? ⟨q.b, k, none⟩ = some (.string (ns.getD k e0)))) := fun k hk => by
    have hne : ns ≠ [] := by rintro rfl; simp at hn; omega
    obtain ⟨e1, _, N1, f1, r1, l1, g1⟩ := h1 hne
    obtain ⟨e2, _, N2, f2, r2, l2, g2⟩ := h2 hne
    refine ⟨⟨e1, ?_⟩, e2, ?_⟩
    · rw [r1.cell (by omega), g1 k (by omega)]
    · rw [r2.cell (by omega), g2 k (by omega)]
  clear h1 h2 hn
  go_enter Tryd.func78, Tryd.ntmps78
  go_wp2
  go_loopw [5] (fun i wr => ∃ k : Nat, k ≤ n ∧ i = .int .i64 k ∧ ∃ m, wr = w.drewN m) (fun i _ => n - (intOf i).toNat)
  case atStart => exact ⟨0, Nat.zero_le _, rfl, 0, rfl⟩
  case round =>
    obtain ⟨k, hk, rfl, m, rfl⟩ := hrel
    by_cases hlt : k < n
    · obtain ⟨⟨e1, g1⟩, e2, g2⟩ := HC.out k hlt
      obtain ⟨s, hs⟩ : ∃ s, s = ns.getD k e0 := ⟨_, rfl⟩
      rw [← hs] at g1 g2
      rw [e1, e2]
      clear e1 e2 hs
      go_wp2
      go_quiet (fail)
      go_wp2
      go_roundw
      case rel => exact ⟨k + 1, by omega, by go_num, _, rfl⟩
      case measure => simp [intOf]; omega
    · go_wp2
      go_ret
      exact ⟨rfl, _, rfl⟩

set_option maxRecDepth 100000 in
set_option maxHeartbeats 1000000 in
theorem e_titem (w : World) {B1 B2 : Nat} (op : Int) (md nm : ByteArray) {ns : List ByteArray} {p q : NPl} (h1 : NmOK B1 w ns p) (h2 : NmOK B2 w ns q) {n : Nat} (hn : n = ns.length) (hl : n ≤ 1048576) :
    Calls Tryd.prog 68 #[.agg #[.int .i64 op, .string md, .string nm, .slice p.a n p.c], .agg #[.int .i64 op, .string md, .string nm, .slice q.a n q.c]] w fun e w' => e = .returned (.bool true) ∧ Below w.heap.size w w' := by
  have HB : Hid (∀ w', Below w.heap.size w w' → NmOK B1 w' ns p ∧ NmOK B2 w' ns q) := fun w' hb => ⟨h1.below hb, h2.below hb⟩
  have HN : Hid (n = ns.length) := hn
  clear h1 h2 hn
  go_enter Tryd.func68, Tryd.ntmps68
  go_wp2_with fail
  refine (e_names _ (by exact (HB.out _ (bel2 _ _ _)).1) (by exact (HB.out _ (bel2 _ _ _)).2) HN.out hl).mono ?_
  rintro e w' ⟨rfl, k, rfl⟩
  go_wp2
  go_ret
  exact ⟨rfl, bel2d _ _ _ _⟩

set_option maxRecDepth 100000 in
set_option maxHeartbeats 2000000 in
theorem e_titems (w : World) {B1 B2 : Nat} {v1 v2 : Value} {xs ys : List (TI × NPl)} (h1 : RT B1 w v1 xs) (h2 : RT B2 w v2 ys) (he : xs.map Prod.fst = ys.map Prod.fst) (hs : ∀ x, x ∈ xs → SmT 1048576 x.1) (hl : xs.length ≤ 1048576) :
    Calls Tryd.prog 45 #[v1, v2] w fun e w' => e = .returned (.bool true) ∧ Below w.heap.size w w' := by
  obtain ⟨a1, c1, rfl⟩ := own_form h1.own
  obtain ⟨a2, c2, rfl⟩ := own_form h2.own
  have hxy : ys.length = xs.length := by have := congrArg List.length he; simpa using this.symm
  rw [hxy]
  have HB : Hid (∀ w', Below w.heap.size w w' → RT B1 w' (.slice a1 xs.length c1) xs ∧ RT B2 w' (.slice a2 ys.length c2) ys) := fun w' hb => ⟨h1.below hb, h2.below hb⟩
  have HE : Hid (xs.map Prod.fst = ys.map Prod.fst ∧ ∀ x, x ∈ xs → SmT 1048576 x.1) := ⟨he, hs⟩
  have HL : Hid (ys.length = xs.length) := hxy
  obtain ⟨n, hn⟩ : ∃ n, n = xs.length := ⟨_, rfl⟩
  rw [← hn] at hl ⊢
  have HN : Hid (n = xs.length) := hn
  have HIT : Hid (∀ k, k < n → ∀ wr, Below w.heap.size w wr → ∃ (g1 g2 : Nat) (x : TI) (p q : NPl), a1 = some ⟨g1, 0, none⟩ ∧ a2 = some ⟨g2, 0, none⟩ ∧ wr.cell? ⟨g1, k * 4, none⟩ = some (Value.int .i64 x.op) ∧ wr.cell? ⟨g1, k * 4 + 1, none⟩ = some (Value.string x.md) ∧ wr.cell? ⟨g1, k * 4 + 2, none⟩ = some (Value.string x.nm) ∧ wr.cell? ⟨g1, k * 4 + 3, none⟩ = some (Value.slice p.a x.ns.length p.c) ∧ wr.cell? ⟨g2, k * 4, none⟩ = some (Value.int .i64 x.op) ∧ wr.cell? ⟨g2, k * 4 + 1, none⟩ = some (Value.string x.md) ∧ wr.cell? ⟨g2, k * 4 + 2, none⟩ = some (Value.string x.nm) ∧ wr.cell? ⟨g2, k * 4 + 3, none⟩ = some (Value.slice q.a x.ns.length q.c) ∧ Hid (NmOK B1 wr x.ns p ∧ NmOK B2 wr x.ns q) ∧ x.ns.length ≤ 1048576) := fun k hk wr hb => by
    have k1 : k < xs.length := by omega
    have k2 : k < ys.length := by omega
    obtain ⟨R1, R2⟩ := HB.out wr hb
    obtain ⟨g1, gc1, ev1, _⟩ := own_blk R1.own (show 0 < xs.length by omega)
    obtain ⟨g2, gc2, ev2, _⟩ := own_blk R2.own (show 0 < ys.length by omega)
    simp only [Value.slice.injEq] at ev1 ev2
    obtain ⟨rfl, -, rfl⟩ := ev1
    obtain ⟨rfl, -, rfl⟩ := ev2
    have ee := map_get he k1 k2
    have hx := List.getElem_mem k1
    have hy := List.getElem_mem k2
    have N1 := R1.nm _ hx
    have N2 := R2.nm _ hy
    rw [← ee] at N2
    refine ⟨g1, g2, xs[k].1, xs[k].2, ys[k].2, rfl, rfl, own_at (f := tiC) tiC_len R1.own (j := k) (r := 0) rfl k1 (by omega) rfl, own_at (f := tiC) tiC_len R1.own rfl k1 (by omega) rfl, own_at (f := tiC) tiC_len R1.own rfl k1 (by omega) rfl, own_at (f := tiC) tiC_len R1.own rfl k1 (by omega) rfl, ?_, ?_, ?_, ?_, ⟨N1, N2⟩, hs _ hx⟩
    · rw [ee]; exact own_at (f := tiC) tiC_len R2.own (j := k) (r := 0) rfl k2 (by omega) rfl
    · rw [ee]; exact own_at (f := tiC) tiC_len R2.own rfl k2 (by omega) rfl
    · rw [ee]; exact own_at (f := tiC) tiC_len R2.own rfl k2 (by omega) rfl
    · rw [ee]; exact own_at (f := tiC) tiC_len R2.own rfl k2 (by omega) rfl
  clear h1 h2 he hs hxy hn
  go_enter Tryd.func45, Tryd.ntmps45
  go_wp2
  go_loopw [5] (fun i wr => ∃ k : Nat, k ≤ n ∧ i = .int .i64 k ∧ Below w.heap.size w wr) (fun i _ => n - (intOf i).toNat)
  case atStart => exact ⟨0, Nat.zero_le _, rfl, Below.refl _ _⟩
  case round =>
    obtain ⟨k, hk, rfl, hb⟩ := hrel
    by_cases hlt : k < n
    · obtain ⟨g1, g2, x, p, q, rfl, rfl, y0, y1, y2, y3, z0, z1, z2, z3, HNM, hxl⟩ := HIT.out k hlt wr hb
      obtain ⟨ml, hml⟩ : ∃ ml, ml = x.ns.length := ⟨_, rfl⟩
      rw [← hml] at y3 z3 hxl
      have C : Hid (∀ k, Calls Tryd.prog 68 #[.agg #[.int .i64 x.op, .string x.md, .string x.nm, .slice p.a ml p.c], .agg #[.int .i64 x.op, .string x.md, .string x.nm, .slice q.a ml q.c]] (wr.drewN k) fun e w' => e = .returned (.bool true) ∧ Below w.heap.size w w') := fun k => (e_titem (wr.drewN k) x.op x.md x.nm (HNM.out.1.below (below_drewN' _ _)) (HNM.out.2.below (below_drewN' _ _)) hml hxl).mono (fun e w' h => ⟨h.1, (below_drewN hb k).trans (h.2.mono hb.size)⟩)
      have C0 : Hid (Calls Tryd.prog 68 #[.agg #[.int .i64 x.op, .string x.md, .string x.nm, .slice p.a ml p.c], .agg #[.int .i64 x.op, .string x.md, .string x.nm, .slice q.a ml q.c]] wr.drew fun e w' => e = .returned (.bool true) ∧ Below w.heap.size w w') := C.out 1
      clear HB HIT HNM hml
      go_wp2
      go_region_with (go_at_call 68; refine C0.out.mono ?_; rintro e w' ⟨rfl, hb'⟩)
      all_goals
        go_wp2
        go_roundw
        case rel => exact ⟨k + 1, by omega, by go_num, hb'⟩
        case measure => simp [intOf]; omega
    · go_wp2
      go_ret
      exact ⟨rfl, hb⟩

end Go.Proofs.YtcehppndpccldaaDoor

namespace Go.Proofs.YtcehppndpccldaaDoor
open Go.RowKit

set_option maxRecDepth 100000 in
set_option maxHeartbeats 1000000 in
theorem e_eitem (w : World) {B1 B2 : Nat} (op num : Int) (md nm : ByteArray) {ns : List ByteArray} {p q : NPl} (h1 : NmOK B1 w ns p) (h2 : NmOK B2 w ns q) {n : Nat} (hn : n = ns.length) (hl : n ≤ 1048576) {v1 v2 : Value} {xs ys : List (TI × NPl)} (t1 : RT B1 w v1 xs) (t2 : RT B2 w v2 ys) (he : xs.map Prod.fst = ys.map Prod.fst) (hs : ∀ x, x ∈ xs → SmT 1048576 x.1) (hl2 : xs.length ≤ 1048576) :
    Calls Tryd.prog 69 #[.agg #[.int .i64 op, .int .i64 num, .string md, .string nm, .slice p.a n p.c, v1], .agg #[.int .i64 op, .int .i64 num, .string md, .string nm, .slice q.a n q.c, v2]] w fun e w' => e = .returned (.bool true) ∧ Below w.heap.size w w' := by
  have HB : Hid (∀ w', Below w.heap.size w w' → (NmOK B1 w' ns p ∧ NmOK B2 w' ns q) ∧ RT B1 w' v1 xs ∧ RT B2 w' v2 ys) := fun w' hb => ⟨⟨h1.below hb, h2.below hb⟩, t1.below hb, t2.below hb⟩
  have HN : Hid (n = ns.length) := hn
  have HE : Hid (xs.map Prod.fst = ys.map Prod.fst ∧ ∀ x, x ∈ xs → SmT 1048576 x.1) := ⟨he, hs⟩
  have HT : Hid (∀ W, Below w.heap.size w W → Calls Tryd.prog 45 #[v1, v2] W fun e w' => e = .returned (.bool true) ∧ Below W.heap.size W w') := fun W hb => e_titems W (t1.below hb) (t2.below hb) he hs hl2
  obtain ⟨a1, c1, hv1⟩ := own_form t1.own
  obtain ⟨a2, c2, hv2⟩ := own_form t2.own
  obtain ⟨n1, hn1⟩ : ∃ n1, n1 = xs.length := ⟨_, rfl⟩
  obtain ⟨n2, hn2⟩ : ∃ n2, n2 = ys.length := ⟨_, rfl⟩
  rw [← hn1] at hv1
  rw [← hn2] at hv2
  subst hv1 hv2
  clear h1 h2 hn t1 t2 he hs hn1 hn2 hl2
  go_enter Tryd.func69, Tryd.ntmps69
  go_wp2_with fail
  refine (e_names _ (by exact (HB.out _ (bel2 _ _ _)).1.1) (by exact (HB.out _ (bel2 _ _ _)).1.2) HN.out hl).mono ?_
  rintro e w' ⟨rfl, k, rfl⟩
  go_wp2_with fail
  refine (HT.out _ (bel2d _ _ _ _)).mono ?_
  rintro e w' ⟨rfl, hb'⟩
  have HW : Hid (Below w.heap.size w w') := (bel2d w _ _ k).trans (hb'.mono (bel2d w _ _ k).size)
  clear hb'
  go_wp2
  go_ret
  exact ⟨rfl, HW⟩

set_option maxRecDepth 100000 in
set_option maxHeartbeats 1000000 in
theorem e_eitems (w : World) {B1 B2 : Nat} {v1 v2 : Value} {xs ys : List (EI × EPl)} (h1 : RE B1 w v1 xs) (h2 : RE B2 w v2 ys) (he : xs.map Prod.fst = ys.map Prod.fst) (hs : ∀ x, x ∈ xs → SmE 1048576 x.1) (hl : xs.length ≤ 1048576) :
    Calls Tryd.prog 46 #[v1, v2] w fun e w' => e = .returned (.bool true) ∧ Below w.heap.size w w' := by
  obtain ⟨a1, c1, rfl⟩ := own_form h1.own
  obtain ⟨a2, c2, rfl⟩ := own_form h2.own
  have hxy : ys.length = xs.length := by have := congrArg List.length he; simpa using this.symm
  rw [hxy]
  have HB : Hid (∀ w', Below w.heap.size w w' → RE B1 w' (.slice a1 xs.length c1) xs ∧ RE B2 w' (.slice a2 ys.length c2) ys) := fun w' hb => ⟨h1.below hb, h2.below hb⟩
  have HL : Hid (ys.length = xs.length) := hxy
  obtain ⟨n, hn⟩ : ∃ n, n = xs.length := ⟨_, rfl⟩
  rw [← hn] at hl ⊢
  have HN : Hid (n = xs.length) := hn
  have HIT : Hid (∀ k, k < n → ∀ wr, Below w.heap.size w wr → ∃ (g1 g2 : Nat) (x : EI) (p q : NPl) (ml : Nat) (u1 u2 : Option Addr) (m1 m2 d1 d2 : Nat), a1 = some ⟨g1, 0, none⟩ ∧ a2 = some ⟨g2, 0, none⟩ ∧ wr.cell? ⟨g1, k * 6, none⟩ = some (Value.int .i64 x.op) ∧ wr.cell? ⟨g1, k * 6 + 1, none⟩ = some (Value.int .i64 x.num) ∧ wr.cell? ⟨g1, k * 6 + 2, none⟩ = some (Value.string x.md) ∧ wr.cell? ⟨g1, k * 6 + 3, none⟩ = some (Value.string x.nm) ∧ wr.cell? ⟨g1, k * 6 + 4, none⟩ = some (Value.slice p.a ml p.c) ∧ wr.cell? ⟨g1, k * 6 + 5, none⟩ = some (Value.slice u1 m1 d1) ∧ wr.cell? ⟨g2, k * 6, none⟩ = some (Value.int .i64 x.op) ∧ wr.cell? ⟨g2, k * 6 + 1, none⟩ = some (Value.int .i64 x.num) ∧ wr.cell? ⟨g2, k * 6 + 2, none⟩ = some (Value.string x.md) ∧ wr.cell? ⟨g2, k * 6 + 3, none⟩ = some (Value.string x.nm) ∧ wr.cell? ⟨g2, k * 6 + 4, none⟩ = some (Value.slice q.a ml q.c) ∧ wr.cell? ⟨g2, k * 6 + 5, none⟩ = some (Value.slice u2 m2 d2) ∧ Hid (Calls Tryd.prog 69 #[.agg #[.int .i64 x.op, .int .i64 x.num, .string x.md, .string x.nm, .slice p.a ml p.c, .slice u1 m1 d1], .agg #[.int .i64 x.op, .int .i64 x.num, .string x.md, .string x.nm, .slice q.a ml q.c, .slice u2 m2 d2]] wr.drew fun e w' => e = .returned (.bool true) ∧ Below w.heap.size w w')) := fun k hk wr hb => by
    have k1 : k < xs.length := by omega
    have k2 : k < ys.length := by omega
    obtain ⟨R1, R2⟩ := HB.out wr hb
    obtain ⟨g1, gc1, ev1, _⟩ := own_blk R1.own (show 0 < xs.length by omega)
    obtain ⟨g2, gc2, ev2, _⟩ := own_blk R2.own (show 0 < ys.length by omega)
    simp only [Value.slice.injEq] at ev1 ev2
    obtain ⟨rfl, -, rfl⟩ := ev1
    obtain ⟨rfl, -, rfl⟩ := ev2
    have ee := map_get he k1 k2
    have hx := List.getElem_mem k1
    have hy := List.getElem_mem k2
    have N1 := R1.ok _ hx
    have N2 := R2.ok _ hy
    obtain ⟨u1, d1, e1⟩ := own_form N1.ty.own
    obtain ⟨u2, d2, e2⟩ := own_form N2.ty.own
    have is2 := N2.is
    have nm2 := N2.nm
    rw [← ee] at is2 nm2
    have sm := hs _ hx
    have C := e_eitem wr.drew xs[k].1.op xs[k].1.num xs[k].1.md xs[k].1.nm N1.nm.drew nm2.drew rfl sm.1 N1.ty.drew N2.ty.drew (N1.is.trans is2.symm) (fun x hx => sm.2.2 _ (by rw [← N1.is]; exact List.mem_map_of_mem hx)) (by have := congrArg List.length N1.is; rw [List.length_map] at this; rw [this]; exact sm.2.1)
    rw [e1, e2] at C
    refine ⟨g1, g2, xs[k].1, xs[k].2.np, ys[k].2.np, xs[k].1.ns.length, u1, u2, _, _, d1, d2, rfl, rfl, own_at (f := eiC) eiC_len R1.own (j := k) (r := 0) rfl k1 (by omega) rfl, own_at (f := eiC) eiC_len R1.own rfl k1 (by omega) rfl, own_at (f := eiC) eiC_len R1.own rfl k1 (by omega) rfl, own_at (f := eiC) eiC_len R1.own rfl k1 (by omega) rfl, own_at (f := eiC) eiC_len R1.own rfl k1 (by omega) rfl, own_at (f := eiC) eiC_len R1.own rfl k1 (by omega) (by rw [← e1]; rfl), ?_, ?_, ?_, ?_, ?_, ?_, C.mono (fun e w' h => ⟨h.1, hb.drew.trans (h.2.mono hb.size)⟩)⟩
    · rw [ee]; exact own_at (f := eiC) eiC_len R2.own (j := k) (r := 0) rfl k2 (by omega) rfl
    · rw [ee]; exact own_at (f := eiC) eiC_len R2.own rfl k2 (by omega) rfl
    · rw [ee]; exact own_at (f := eiC) eiC_len R2.own rfl k2 (by omega) rfl
    · rw [ee]; exact own_at (f := eiC) eiC_len R2.own rfl k2 (by omega) rfl
    · rw [ee]; exact own_at (f := eiC) eiC_len R2.own rfl k2 (by omega) rfl
    · exact own_at (f := eiC) eiC_len R2.own rfl k2 (by omega) (by rw [← e2]; rfl)
  clear h1 h2 he hs hxy hn
  go_enter Tryd.func46, Tryd.ntmps46
  go_wp2
  go_loopw [5] (fun i wr => ∃ k : Nat, k ≤ n ∧ i = .int .i64 k ∧ Below w.heap.size w wr) (fun i _ => n - (intOf i).toNat)
  case atStart => exact ⟨0, Nat.zero_le _, rfl, Below.refl _ _⟩
  case round =>
    obtain ⟨k, hk, rfl, hb⟩ := hrel
    by_cases hlt : k < n
    · obtain ⟨g1, g2, x, p, q, ml, u1, u2, m1, m2, d1, d2, rfl, rfl, y0, y1, y2, y3, y4, y5, z0, z1, z2, z3, z4, z5, C0⟩ := HIT.out k hlt wr hb
      clear HB HIT
      go_wp2
      go_region_with (go_at_call 69; refine C0.out.mono ?_; rintro e w' ⟨rfl, hb'⟩)
      all_goals
        go_wp2
        go_roundw
        case rel => exact ⟨k + 1, by omega, by go_num, hb'⟩
        case measure => simp [intOf]; omega
    · go_wp2
      go_ret
      exact ⟨rfl, hb⟩

set_option maxRecDepth 100000 in
set_option maxHeartbeats 1000000 in
theorem e_decl (w : World) {B1 B2 : Nat} {d : DC} {p q : DPl} (h1 : RdOK B1 w d p) (h2 : RdOK B2 w d q) (sm : SmD 1048576 d) :
    Calls Tryd.prog 26 #[.agg #[.int .i64 d.kind, .string d.nm, p.tv, p.ev], .agg #[.int .i64 d.kind, .string d.nm, q.tv, q.ev]] w fun e w' => e = .returned (.bool true) ∧ Below w.heap.size w w' := by
  have HT : Hid (∀ W, Below w.heap.size w W → Calls Tryd.prog 45 #[p.tv, q.tv] W fun e w' => e = .returned (.bool true) ∧ Below W.heap.size W w') := fun W hb => e_titems W (h1.ty.below hb) (h2.ty.below hb) (h1.isT.trans h2.isT.symm) (fun x hx => sm.2.1 _ (by rw [← h1.isT]; exact List.mem_map_of_mem hx)) (by have := congrArg List.length h1.isT; rw [List.length_map] at this; rw [this]; exact sm.1)
  have HE : Hid (∀ W, Below w.heap.size w W → Calls Tryd.prog 46 #[p.ev, q.ev] W fun e w' => e = .returned (.bool true) ∧ Below W.heap.size W w') := fun W hb => e_eitems W (h1.ex.below hb) (h2.ex.below hb) (h1.isE.trans h2.isE.symm) (fun x hx => sm.2.2.2 _ (by rw [← h1.isE]; exact List.mem_map_of_mem hx)) (by have := congrArg List.length h1.isE; rw [List.length_map] at this; rw [this]; exact sm.2.2.1)
  obtain ⟨a1, c1, e1⟩ := own_form h1.ty.own
  obtain ⟨a2, c2, e2⟩ := own_form h2.ty.own
  obtain ⟨a3, c3, e3⟩ := own_form h1.ex.own
  obtain ⟨a4, c4, e4⟩ := own_form h2.ex.own
  obtain ⟨kd, hkd⟩ : ∃ kd, kd = d.kind := ⟨_, rfl⟩
  obtain ⟨nm, hnm⟩ : ∃ nm, nm = d.nm := ⟨_, rfl⟩
  rw [e1, e2] at HT
  rw [e3, e4] at HE
  rw [e1, e2, e3, e4, ← hkd, ← hnm]
  clear h1 h2 sm e1 e2 e3 e4 hkd hnm
  go_enter Tryd.func26, Tryd.ntmps26
  go_wp2_with fail
  refine (HT.out _ (bel2 _ _ _)).mono ?_
  rintro e w2 ⟨rfl, hb2⟩
  have HB2 : Hid (Below w.heap.size w w2) := (bel2 _ _ _).trans (hb2.mono (bel2 _ _ _).size)
  have R1 := (row4 w (.int .i64 kd) (.string nm) (.slice a1 p.zs.length c1) (.slice a3 p.es.length c3) 38).alloc (.cells #[.int .i64 kd, .string nm, .slice a2 q.zs.length c2, .slice a4 q.es.length c4] 38)
  have R2 := row4 (w.alloc (.cells #[.int .i64 kd, .string nm, .slice a1 p.zs.length c1, .slice a3 p.es.length c3] 38)) (.int .i64 kd) (.string nm) (.slice a2 q.zs.length c2) (.slice a4 q.es.length c4) 38
  have s1 : w2.cell? ⟨w.heap.size, 3, none⟩ = some (.slice a3 p.es.length c3) := (R1.of_block (hb2.block _ R1.lt)).cell (i := 3) (by omega)
  have s2 : w2.cell? ⟨w.heap.size + 1, 3, none⟩ = some (.slice a4 q.es.length c4) := by
    have := (R2.of_block (hb2.block _ R2.lt)).cell (i := 3) (by omega)
    rw [World.size_alloc] at this
    exact this
  clear R1 R2 hb2
  go_wp2_with fail
  refine (HE.out _ HB2.out).mono ?_
  rintro e w3 ⟨rfl, hb3⟩
  have HB3 : Hid (Below w.heap.size w w3) := HB2.out.trans (hb3.mono HB2.out.size)
  clear hb3
  go_wp2
  go_ret
  exact ⟨rfl, HB3⟩

set_option maxRecDepth 100000 in
set_option maxHeartbeats 1000000 in
theorem e_decls (w : World) {B1 B2 : Nat} {v1 v2 : Value} {xs ys : List (DC × DPl)} (h1 : RD B1 w v1 xs) (h2 : RD B2 w v2 ys) (he : xs.map Prod.fst = ys.map Prod.fst) (hs : ∀ x, x ∈ xs → SmD 1048576 x.1) (hl : xs.length ≤ 1048576) :
    Calls Tryd.prog 17 #[v1, v2] w fun e w' => e = .returned (.bool true) ∧ Below w.heap.size w w' := by
  obtain ⟨a1, c1, rfl⟩ := own_form h1.own
  obtain ⟨a2, c2, rfl⟩ := own_form h2.own
  have hxy : ys.length = xs.length := by have := congrArg List.length he; simpa using this.symm
  rw [hxy]
  have HB : Hid (∀ w', Below w.heap.size w w' → RD B1 w' (.slice a1 xs.length c1) xs ∧ RD B2 w' (.slice a2 ys.length c2) ys) := fun w' hb => ⟨h1.below hb, h2.below hb⟩
  have HL : Hid (ys.length = xs.length) := hxy
  obtain ⟨n, hn⟩ : ∃ n, n = xs.length := ⟨_, rfl⟩
  rw [← hn] at hl ⊢
  have HN : Hid (n = xs.length) := hn
  have HIT : Hid (∀ k, k < n → ∀ wr, Below w.heap.size w wr → ∃ (g1 g2 : Nat) (x : DC) (u1 u2 u3 u4 : Option Addr) (m1 m2 m3 m4 d1 d2 d3 d4 : Nat), a1 = some ⟨g1, 0, none⟩ ∧ a2 = some ⟨g2, 0, none⟩ ∧ wr.cell? ⟨g1, k * 4, none⟩ = some (Value.int .i64 x.kind) ∧ wr.cell? ⟨g1, k * 4 + 1, none⟩ = some (Value.string x.nm) ∧ wr.cell? ⟨g1, k * 4 + 2, none⟩ = some (Value.slice u1 m1 d1) ∧ wr.cell? ⟨g1, k * 4 + 3, none⟩ = some (Value.slice u3 m3 d3) ∧ wr.cell? ⟨g2, k * 4, none⟩ = some (Value.int .i64 x.kind) ∧ wr.cell? ⟨g2, k * 4 + 1, none⟩ = some (Value.string x.nm) ∧ wr.cell? ⟨g2, k * 4 + 2, none⟩ = some (Value.slice u2 m2 d2) ∧ wr.cell? ⟨g2, k * 4 + 3, none⟩ = some (Value.slice u4 m4 d4) ∧ Hid (Calls Tryd.prog 26 #[.agg #[.int .i64 x.kind, .string x.nm, .slice u1 m1 d1, .slice u3 m3 d3], .agg #[.int .i64 x.kind, .string x.nm, .slice u2 m2 d2, .slice u4 m4 d4]] wr.drew fun e w' => e = .returned (.bool true) ∧ Below w.heap.size w w')) := fun k hk wr hb => by
    have k1 : k < xs.length := by omega
    have k2 : k < ys.length := by omega
    obtain ⟨R1, R2⟩ := HB.out wr hb
    obtain ⟨g1, gc1, ev1, _⟩ := own_blk R1.own (show 0 < xs.length by omega)
    obtain ⟨g2, gc2, ev2, _⟩ := own_blk R2.own (show 0 < ys.length by omega)
    simp only [Value.slice.injEq] at ev1 ev2
    obtain ⟨rfl, -, rfl⟩ := ev1
    obtain ⟨rfl, -, rfl⟩ := ev2
    have ee := map_get he k1 k2
    have hx := List.getElem_mem k1
    have hy := List.getElem_mem k2
    have N1 := R1.ok _ hx
    have N2 := R2.ok _ hy
    obtain ⟨u1, d1, e1⟩ := own_form N1.ty.own
    obtain ⟨u2, d2, e2⟩ := own_form N2.ty.own
    obtain ⟨u3, d3, e3⟩ := own_form N1.ex.own
    obtain ⟨u4, d4, e4⟩ := own_form N2.ex.own
    have N2' : RdOK B2 wr xs[k].1 ys[k].2 := by rw [ee]; exact N2
    have C := e_decl wr.drew (d := xs[k].1) (p := xs[k].2) (q := ys[k].2) ⟨N1.ty.drew, N1.isT, N1.ex.drew, N1.isE⟩ ⟨N2'.ty.drew, N2'.isT, N2'.ex.drew, N2'.isE⟩ (hs _ hx)
    rw [e1, e2, e3, e4] at C
    refine ⟨g1, g2, xs[k].1, u1, u2, u3, u4, _, _, _, _, d1, d2, d3, d4, rfl, rfl, own_at (f := dcC) dcC_len R1.own (j := k) (r := 0) rfl k1 (by omega) rfl, own_at (f := dcC) dcC_len R1.own rfl k1 (by omega) rfl, own_at (f := dcC) dcC_len R1.own rfl k1 (by omega) (by rw [← e1]; rfl), own_at (f := dcC) dcC_len R1.own rfl k1 (by omega) (by rw [← e3]; rfl), ?_, ?_, ?_, ?_, C.mono (fun e w' h => ⟨h.1, hb.drew.trans (h.2.mono hb.size)⟩)⟩
    · rw [ee]; exact own_at (f := dcC) dcC_len R2.own (j := k) (r := 0) rfl k2 (by omega) rfl
    · rw [ee]; exact own_at (f := dcC) dcC_len R2.own rfl k2 (by omega) rfl
    · exact own_at (f := dcC) dcC_len R2.own rfl k2 (by omega) (by rw [← e2]; rfl)
    · exact own_at (f := dcC) dcC_len R2.own rfl k2 (by omega) (by rw [← e4]; rfl)
  clear h1 h2 he hs hxy hn
  go_enter Tryd.func17, Tryd.ntmps17
  go_wp2
  go_loopw [5] (fun i wr => ∃ k : Nat, k ≤ n ∧ i = .int .i64 k ∧ Below w.heap.size w wr) (fun i _ => n - (intOf i).toNat)
  case atStart => exact ⟨0, Nat.zero_le _, rfl, Below.refl _ _⟩
  case round =>
    obtain ⟨k, hk, rfl, hb⟩ := hrel
    by_cases hlt : k < n
    · obtain ⟨g1, g2, x, u1, u2, u3, u4, m1, m2, m3, m4, d1, d2, d3, d4, rfl, rfl, y0, y1, y2, y3, z0, z1, z2, z3, C0⟩ := HIT.out k hlt wr hb
      clear HB HIT
      go_wp2
      go_region_with (go_at_call 26; refine C0.out.mono ?_; rintro e w' ⟨rfl, hb'⟩)
      all_goals
        go_wp2
        go_roundw
        case rel => exact ⟨k + 1, by omega, by go_num, hb'⟩
        case measure => simp [intOf]; omega
    · go_wp2
      go_ret
      exact ⟨rfl, hb⟩

set_option maxRecDepth 100000 in
set_option maxHeartbeats 1000000 in
theorem e_module (w : World) {B1 B2 : Nat} {v1 v2 : Value} {xs ys : List (DC × DPl)} (h1 : RD B1 w v1 xs) (h2 : RD B2 w v2 ys) (he : xs.map Prod.fst = ys.map Prod.fst) (hs : ∀ x, x ∈ xs → SmD 1048576 x.1) (hl : xs.length ≤ 1048576) :
    Calls Tryd.prog 9 #[.agg #[v1], .agg #[v2]] w fun e w' => e = .returned (.bool true) ∧ Below w.heap.size w w' := by
  have HT : Hid (∀ W, Below w.heap.size w W → Calls Tryd.prog 17 #[v1, v2] W fun e w' => e = .returned (.bool true) ∧ Below W.heap.size W w') := fun W hb => e_decls W (h1.below hb) (h2.below hb) he hs hl
  obtain ⟨a1, c1, e1⟩ := own_form h1.own
  obtain ⟨a2, c2, e2⟩ := own_form h2.own
  rw [e1, e2] at HT ⊢
  clear h1 h2 he hs hl e1 e2
  go_enter Tryd.func9, Tryd.ntmps9
  go_wp2_with fail
  refine (HT.out _ (bel2 _ _ _)).mono ?_
  rintro e w2 ⟨rfl, hb2⟩
  have HB2 : Hid (Below w.heap.size w w2) := (bel2 _ _ _).trans (hb2.mono (bel2 _ _ _).size)
  clear hb2
  go_wp2
  go_ret
  exact ⟨rfl, HB2⟩

end Go.Proofs.YtcehppndpccldaaDoor

