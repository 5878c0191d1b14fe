/-
  The program's (printer).exprForm.
-/
import Derived.Test.YtcehppndpccldaaDoorVeL0
namespace Go.Proofs.YtcehppndpccldaaDoor
open Go.RowKit

/-- Behind the switch: the item with what is used struck out, and the form. -/
structure FxE (w : World) (op : Int) (ff : Option Fm) (wc : World) (ok : Bool) (num' : Int) (md' nm' : ByteArray) (a' : Option Addr) (n' c' : Nat) (b' : Option Addr) (m' d' : Nat) (L : Int) (ta : Option Addr) (tn tc : Nat) (na : Option Addr) (nn nc : Nat) : Prop where
  r : R3 w wc (w.heap.size + 1) 69 6 (v6 (.int .i64 op) (.int .i64 num') (.string md') (.string nm') (.slice a' n' c') (.slice b' m' d')) (v3 (.int .i64 L) (.slice na nn nc) (.slice ta tn tc))
  n : nn ≤ 1048576
  is : lft ok num' md' nm' n' m' = ff.isSome
  fm : FmX (w.heap.size + 1) wc ff L ta tn tc na nn nc
/-- The answer is read of its three cells and the slot. -/
theorem ex_read {V : World} {X : Nat} {a b c d : Value} (r : V.rowIs X 97 3 (v3 a b c)) (tmps : Array Value) (h2 : tmps[4]?.getD undef = .pointer (some ⟨X, 0, none⟩)) (h3 : tmps[5]?.getD undef = d) :
    (results Tryd.f44 tmps).run Tryd.prog V = .ok (.tuple #[.agg #[a, b, c], d]) V := by
  have c0 : V.cell? ⟨X, 0, none⟩ = some a := r.cell (i := 0) (by omega)
  have c1 : V.cell? ⟨X, 1, none⟩ = some b := r.cell (i := 1) (by omega)
  have c2 : V.cell? ⟨X, 2, none⟩ = some c := r.cell (i := 2) (by omega)
  unfold results
  rw [show Tryd.f44.results = #[.cell 4 97, .tmp 5] from rfl]
  simp [go_sem, h2, h3, c0, c1, c2]
theorem v6_ext {f : Nat → Value} {a b c d e g : Value} (h0 : f 0 = a) (h1 : f 1 = b) (h2 : f 2 = c) (h3 : f 3 = d) (h4 : f 4 = e) (h5 : f 5 = g) : ∀ i, i < 6 → f i = v6 a b c d e g i := fun i hi => by
  match i, hi with
  | 0, _ => exact h0
  | 1, _ => exact h1
  | 2, _ => exact h2
  | 3, _ => exact h3
  | 4, _ => exact h4
  | 5, _ => exact h5

/-- The same, the texts laid first. -/
theorem set_form2 {w W : World} {X : Nat} {bt : TypeId} {bn : Nat} {bv fv : Nat → Value} {ff : Option Fm} (h : R3 w W X bt bn bv fv) (lev : Nat) (ns : List Nat) (ts : List ByteArray) (hff : ∀ f, ff = some f → f = ⟨lev, ns, ts⟩) (W1 : World)
    (hW : W1 = ((((W.alloc (.cells (ts.map Value.string).toArray 9)).alloc (.cells (ns.map fun n : Nat => Value.int .i64 (n : Int)).toArray 3)).setCell ⟨X + 1 + 1, 0, none⟩ (.int .i64 (lev : Int))).setCell ⟨X + 1 + 1, 1, none⟩ (.slice (some ⟨W.heap.size + 1, 0, none⟩) ns.length ns.length)).setCell ⟨X + 1 + 1, 2, none⟩ (.slice (some ⟨W.heap.size, 0, none⟩) ts.length ts.length)) :
    R3 w W1 X bt bn bv (v3 (.int .i64 (lev : Int)) (.slice (some ⟨W.heap.size + 1, 0, none⟩) ns.length ns.length) (.slice (some ⟨W.heap.size, 0, none⟩) ts.length ts.length)) ∧ FmX X W1 ff (lev : Int) (some ⟨W.heap.size, 0, none⟩) ts.length ts.length (some ⟨W.heap.size + 1, 0, none⟩) ns.length ns.length := by
  have hs := h.size
  refine ⟨by rw [hW]; exact ((h.alloc _).alloc _).setF3 _ _ _, fun f hf => ?_⟩
  rw [hff f hf]
  have r1 := row_of_list (W.alloc (.cells (ts.map Value.string).toArray 9)) (ns.map fun n : Nat => Value.int .i64 (n : Int)) 3
  have r2 := (row_of_list W (ts.map Value.string) 9).alloc (.cells (ns.map fun n : Nat => Value.int .i64 (n : Int)).toArray 3)
  rw [World.size_alloc] at r1
  rw [List.length_map] at r1 r2
  have ne : ∀ b j, X + 1 + 1 < b → b ≠ (⟨X + 1 + 1, j, none⟩ : Addr).block := fun b j hb => by show b ≠ X + 1 + 1; omega
  have s1 := ((r1.setOther (ne _ 0 (by omega)) (.int .i64 (lev : Int))).setOther (ne _ 1 (by omega)) (.slice (some ⟨W.heap.size + 1, 0, none⟩) ns.length ns.length)).setOther (ne _ 2 (by omega)) (.slice (some ⟨W.heap.size, 0, none⟩) ts.length ts.length)
  have s2 := ((r2.setOther (ne _ 0 (by omega)) (.int .i64 (lev : Int))).setOther (ne _ 1 (by omega)) (.slice (some ⟨W.heap.size + 1, 0, none⟩) ns.length ns.length)).setOther (ne _ 2 (by omega)) (.slice (some ⟨W.heap.size, 0, none⟩) ts.length ts.length)
  rw [← hW] at s1 s2
  refine ⟨W.heap.size + 1, W.heap.size, rfl, ⟨fun _ => rfl, fun k hk => ?_, fun _ => rfl, fun k hk => ?_⟩, Nat.le_refl _, Nat.le_refl _, by omega, by omega⟩
  · rw [s1.cell hk, List.getD_eq_getElem?_getD, List.getElem?_map, List.getElem?_eq_getElem hk]
    rfl
  · rw [s2.cell hk, List.getD_eq_getElem?_getD, List.getElem?_map, List.getElem?_eq_getElem hk]
    rfl

theorem FxE.of {w wc : World} {op : Int} {ff : Option Fm} {ok : Bool} {num' : Int} {md' nm' : ByteArray} {a' : Option Addr} {n' c' : Nat} {b' : Option Addr} {m' d' : Nat} {L : Int} {ta : Option Addr} {tn tc : Nat} {na : Option Addr} {nn nc : Nat} {F : Fm}
    (r : R3 w wc (w.heap.size + 1) 69 6 (v6 (.int .i64 op) (.int .i64 num') (.string md') (.string nm') (.slice a' n' c') (.slice b' m' d')) (v3 (.int .i64 L) (.slice na nn nc) (.slice ta tn tc))) (n : nn ≤ 1048576) (hff : ff = if lft ok num' md' nm' n' m' then some F else none) (fm : FmX (w.heap.size + 1) wc ff L ta tn tc na nn nc) : FxE w op ff wc ok num' md' nm' a' n' c' b' m' d' L ta tn tc na nn nc :=
  ⟨r, n, ite_isSome hff, fm⟩
theorem FmX.drew {X : Nat} {wc : World} {ff : Option Fm} {L : Int} {ta : Option Addr} {tn tc : Nat} {na : Option Addr} {nn nc : Nat} (h : FmX X wc ff L ta tn tc na nn nc) : FmX X wc.drew ff L ta tn tc na nn nc := fun f hf => by
  obtain ⟨nb, tb, e, F, r⟩ := h f hf
  exact ⟨nb, tb, e, F.drew, r⟩
theorem FmX.of_blocks {X : Nat} {W wc : World} {ff : Option Fm} {L : Int} {ta : Option Addr} {tn tc : Nat} {na : Option Addr} {nn nc : Nat} (h : FmX X W ff L ta tn tc na nn nc) (hb : ∀ b, X + 1 + 1 < b → wc.heap[b]? = W.heap[b]?) : FmX X wc ff L ta tn tc na nn nc := fun f hf => by
  obtain ⟨nb, tb, e, F, h1, h2, h3, h4⟩ := h f hf
  exact ⟨nb, tb, e, F.of_blocks (hb nb h3) (hb tb h4), h1, h2, h3, h4⟩

set_option maxRecDepth 100000 in
set_option maxHeartbeats 16000000 in
theorem p_exprForm (w : World) {e : EI} {p : EPl} (h : EiA w e p) {ta0 : Option Addr} {tc0 : Nat} (htv : p.tv = .slice ta0 e.ty.length tc0) (hnum : i64R e.num) (hten : Ten w) (hcost : cTs e.ty ≤ 1048576) (lim : Nat) (hlim : lim ≤ 1000000) :
    Calls Tryd.prog 44 #[.agg #[.int .i64 (lim : Int)], .agg #[.int .i64 e.op, .int .i64 e.num, .string e.md, .string e.nm, .slice p.np.a e.ns.length p.np.c, .slice ta0 e.ty.length tc0]] w (FmG w (fEp lim e)) := by
  have HT : Hid (∀ W, Below w.heap.size w W → EiA W e p) := fun W hb => h.below hb
  have HTV : Hid (p.tv = .slice ta0 e.ty.length tc0) := htv
  have HTN : Hid (∀ W, Below w.heap.size w W → Ten W) := fun W hb => hten.below hb
  have HCO : Hid (cTs e.ty ≤ 1048576) := hcost
  have HNU : Hid (i64R e.num) := hnum
  have hm := h.md
  have hn := h.nm
  have hl := h.len
  obtain ⟨ff, hff⟩ : ∃ ff, ff = fEp lim e := ⟨_, rfl⟩
  have HFF : Hid (ff = fEp lim e) := hff
  obtain ⟨op, hop⟩ : ∃ op, op = e.op := ⟨_, rfl⟩
  have HOP : Hid (e.op = op) := hop.symm
  obtain ⟨W0, hW0⟩ : ∃ W0, W0 = (((w.alloc (.cells #[.int .i64 (lim : Int)] 57)).alloc (.cells #[.int .i64 op, .int .i64 e.num, .string e.md, .string e.nm, .slice p.np.a e.ns.length p.np.c, .slice ta0 e.ty.length tc0] 69)).alloc (.cells #[.int .i64 0, .slice none 0 0, .slice none 0 0] 97)).alloc (.cells #[.int .i64 4, .slice none 0 0, .slice none 0 0] 97) := ⟨_, rfl⟩
  have HR : Hid (R3 w W0 (w.heap.size + 1) 69 6 (v6 (.int .i64 op) (.int .i64 e.num) (.string e.md) (.string e.nm) (.slice p.np.a e.ns.length p.np.c) (.slice ta0 e.ty.length tc0)) (v3 (.int .i64 4) (.slice none 0 0) (.slice none 0 0))) := by
    have r1 := row6 (w.alloc (.cells #[.int .i64 (lim : Int)] 57)) (.int .i64 op) (.int .i64 e.num) (.string e.md) (.string e.nm) (.slice p.np.a e.ns.length p.np.c) (.slice ta0 e.ty.length tc0) 69
    have r2 := row3 ((w.alloc (.cells #[.int .i64 (lim : Int)] 57)).alloc (.cells #[.int .i64 op, .int .i64 e.num, .string e.md, .string e.nm, .slice p.np.a e.ns.length p.np.c, .slice ta0 e.ty.length tc0] 69)) (.int .i64 0) (.slice none 0 0) (.slice none 0 0) 97
    have r3 := row3 (((w.alloc (.cells #[.int .i64 (lim : Int)] 57)).alloc (.cells #[.int .i64 op, .int .i64 e.num, .string e.md, .string e.nm, .slice p.np.a e.ns.length p.np.c, .slice ta0 e.ty.length tc0] 69)).alloc (.cells #[.int .i64 0, .slice none 0 0, .slice none 0 0] 97)) (.int .i64 4) (.slice none 0 0) (.slice none 0 0) 97
    simp only [World.size_alloc] at r1 r2 r3
    rw [hW0]
    exact ⟨(r1.alloc _).alloc _, r2.alloc _, r3, ((bel2 _ _ _).alloc (by simp; omega) _).alloc (by simp; omega) _, by omega⟩
  have HRP : Hid (W0.rowIs w.heap.size 57 1 (fun _ => .int .i64 (lim : Int))) := by rw [hW0]; exact (((row1 w (.int .i64 (lim : Int)) 57).alloc _).alloc _).alloc _
  have HSZ : Hid (W0.heap.size = w.heap.size + 4) := by show _ = _; rw [hW0]; simp
  rw [← hop, ← hff]
  clear hop h htv hten hcost hnum hff
  go_enter Tryd.func44, Tryd.ntmps44
  go_upto_block 0 with fail
  rw [← hW0]
  clear hW0
  go_cut [7] (fun s7 wc => ∃ (ok : Bool) (num' : Int) (md' nm' : ByteArray) (a' : Option Addr) (n' c' : Nat) (b' : Option Addr) (m' d' : Nat) (L : Int) (ta : Option Addr) (tn tc : Nat) (na : Option Addr) (nn nc : Nat), s7 = .bool ok ∧ Hid (FxE w op ff wc ok num' md' nm' a' n' c' b' m' d' L ta tn tc na nn nc))
  case first =>
    have y1 : W0.cell? ⟨w.heap.size + 1, 1, none⟩ = some (.int .i64 e.num) := HR.out.box.cell (i := 1) (by omega)
    have y2 : W0.cell? ⟨w.heap.size + 1, 2, none⟩ = some (.string e.md) := HR.out.box.cell (i := 2) (by omega)
    have y3 : W0.cell? ⟨w.heap.size + 1, 3, none⟩ = some (.string e.nm) := HR.out.box.cell (i := 3) (by omega)
    have y4 : W0.cell? ⟨w.heap.size + 1, 4, none⟩ = some (.slice p.np.a e.ns.length p.np.c) := HR.out.box.cell (i := 4) (by omega)
    have y5 : W0.cell? ⟨w.heap.size + 1, 5, none⟩ = some (.slice ta0 e.ty.length tc0) := HR.out.box.cell (i := 5) (by omega)
    by_cases o7 : op = 7
    · subst o7
      have hf := (fE_b (lim := lim) HOP.out).1 rfl
      rw [← HFF.out] at hf
      have HFE : Hid _ := hf
      have HSF : Hid _ := set_form (ff := ff) HR.out 3 [3, 0] [e0, sL, sR] (fun f hf2 => ite_eq hf hf2) _ rfl
      clear hf
      have qf := (HR.out.frm.alloc (.cells #[.int .i64 3, .int .i64 0] 3)).alloc (.cells #[.string ⟨#[]⟩, .string ⟨#[40]⟩, .string ⟨#[41]⟩] 9)
      have q0 := qf.cell (i := 0) (by omega)
      have q1 := qf.cell (i := 1) (by omega)
      have q2 := qf.cell (i := 2) (by omega)
      have g0 := qf.frozen 0
      have g1 := qf.frozen 1
      have g2 := qf.frozen 2
      clear qf
      go_wp2
      go_meet
      case rel =>
        exact ⟨true, e.num, e.md, e.nm, p.np.a, e.ns.length, p.np.c, ta0, e.ty.length, tc0, 3, some ⟨W0.heap.size + 1, 0, none⟩, 3, 3, some ⟨W0.heap.size, 0, none⟩, 2, 2, rfl, ⟨HSF.out.1, by omega, ite_isSome HFE.out, HSF.out.2⟩⟩
    by_cases o8 : op = 8
    · subst o8
      have hf := (fE_b (lim := lim) HOP.out).2.1 rfl
      rw [← HFF.out] at hf
      have HFE : Hid _ := hf
      have HSF : Hid _ := set_form (ff := ff) HR.out 0 [0, 0, 0] [xIf, xThen, xElse, e0] (fun f hf2 => ite_eq hf hf2) _ rfl
      clear hf
      have qf := (HR.out.frm.alloc (.cells #[.int .i64 0, .int .i64 0, .int .i64 0] 3)).alloc (.cells #[.string ⟨#[105, 102, 32]⟩, .string ⟨#[32, 116, 104, 101, 110, 32]⟩, .string ⟨#[32, 101, 108, 115, 101, 32]⟩, .string ⟨#[]⟩] 9)
      have q0 := qf.cell (i := 0) (by omega)
      have q1 := qf.cell (i := 1) (by omega)
      have q2 := qf.cell (i := 2) (by omega)
      have g0 := qf.frozen 0
      have g1 := qf.frozen 1
      have g2 := qf.frozen 2
      clear qf
      go_wp2
      go_meet
      case rel =>
        exact ⟨true, e.num, e.md, e.nm, p.np.a, e.ns.length, p.np.c, ta0, e.ty.length, tc0, 0, some ⟨W0.heap.size + 1, 0, none⟩, 4, 4, some ⟨W0.heap.size, 0, none⟩, 3, 3, rfl, ⟨HSF.out.1, by omega, ite_isSome HFE.out, HSF.out.2⟩⟩
    by_cases o9 : op = 9
    · subst o9
      have hf := (fE_b (lim := lim) HOP.out).2.2.1 rfl
      rw [← HFF.out] at hf
      have HFE : Hid _ := hf
      have HSF : Hid _ := set_form (ff := ff) HR.out 2 [2, 3] [e0, xAdd, e0] (fun f hf2 => ite_eq hf hf2) _ rfl
      clear hf
      have qf := (HR.out.frm.alloc (.cells #[.int .i64 2, .int .i64 3] 3)).alloc (.cells #[.string ⟨#[]⟩, .string ⟨#[32, 43, 32]⟩, .string ⟨#[]⟩] 9)
      have q0 := qf.cell (i := 0) (by omega)
      have q1 := qf.cell (i := 1) (by omega)
      have q2 := qf.cell (i := 2) (by omega)
      have g0 := qf.frozen 0
      have g1 := qf.frozen 1
      have g2 := qf.frozen 2
      clear qf
      go_wp2
      go_meet
      case rel =>
        exact ⟨true, e.num, e.md, e.nm, p.np.a, e.ns.length, p.np.c, ta0, e.ty.length, tc0, 2, some ⟨W0.heap.size + 1, 0, none⟩, 3, 3, some ⟨W0.heap.size, 0, none⟩, 2, 2, rfl, ⟨HSF.out.1, by omega, ite_isSome HFE.out, HSF.out.2⟩⟩
    by_cases o10 : op = 10
    · subst o10
      have hf := (fE_b (lim := lim) HOP.out).2.2.2 rfl
      rw [← HFF.out] at hf
      have HFE : Hid _ := hf
      have HSF : Hid _ := set_form (ff := ff) HR.out 1 [2, 2] [e0, xLess, e0] (fun f hf2 => ite_eq hf hf2) _ rfl
      clear hf
      have qf := (HR.out.frm.alloc (.cells #[.int .i64 2, .int .i64 2] 3)).alloc (.cells #[.string ⟨#[]⟩, .string ⟨#[32, 60, 32]⟩, .string ⟨#[]⟩] 9)
      have q0 := qf.cell (i := 0) (by omega)
      have q1 := qf.cell (i := 1) (by omega)
      have q2 := qf.cell (i := 2) (by omega)
      have g0 := qf.frozen 0
      have g1 := qf.frozen 1
      have g2 := qf.frozen 2
      clear qf
      go_wp2
      go_meet
      case rel =>
        exact ⟨true, e.num, e.md, e.nm, p.np.a, e.ns.length, p.np.c, ta0, e.ty.length, tc0, 1, some ⟨W0.heap.size + 1, 0, none⟩, 3, 3, some ⟨W0.heap.size, 0, none⟩, 2, 2, rfl, ⟨HSF.out.1, by omega, ite_isSome HFE.out, HSF.out.2⟩⟩
    by_cases o3 : op = 3
    · subst o3
      obtain ⟨x, hx⟩ : ∃ x, x = pth e.md e.nm := ⟨_, rfl⟩
      obtain ⟨b, hb⟩ : ∃ b, b = gPth e.md e.nm := ⟨_, rfl⟩
      have C1 : Hid (∀ W, Calls Tryd.prog 61 #[.string e.md, .string e.nm] W fun r w' => r = .returned (.string x) ∧ w' = W) := fun W => by rw [hx]; exact p_printedPath W e.md e.nm hm hn
      have C2 : Hid (∀ W, Calls Tryd.prog 62 #[.string e.md, .string e.nm] W fun r w' => r = .returned (.bool b) ∧ w' = W) := fun W => by rw [hb]; exact p_goodPath W e.md e.nm hm hn
      have hf := fE_3 (lim := lim) HOP.out
      rw [← HFF.out, ← hx, ← hb] at hf
      have HFX : Hid (∀ (V : World), V = ((((W0.alloc (.cells #[.string x] 9)).setCell ⟨w.heap.size + 1 + 1 + 1, 2, none⟩ (.slice (some ⟨W0.heap.size, 0, none⟩) 1 1)).setCell ⟨w.heap.size + 1, 2, none⟩ (.string ⟨#[]⟩)).setCell ⟨w.heap.size + 1, 3, none⟩ (.string ⟨#[]⟩)) → FxE w 3 ff V.drew b e.num ⟨#[]⟩ ⟨#[]⟩ p.np.a e.ns.length p.np.c ta0 e.ty.length tc0 4 (some ⟨W0.heap.size, 0, none⟩) 1 1 none 0 0) := fun V hV => by
        have hz := HSZ.out
        refine FxE.of (F := ⟨4, [], [x]⟩) ?_ (by omega) hf (FmX.one (lev := 4) (x := x) ?_ (by omega) fun f hf2 => ite_eq hf hf2)
        · rw [hV]
          exact (((((HR.out.alloc _).setF2 _).setB 2 _).setB 3 _).congr (v6_ext rfl rfl rfl rfl rfl rfl) (fun _ _ => rfl)).drew
        · have r := ((((row1 W0 (.string x) 9).setOther (a := ⟨w.heap.size + 1 + 1 + 1, 2, none⟩) (by show W0.heap.size ≠ w.heap.size + 1 + 1 + 1; omega) (.slice (some ⟨W0.heap.size, 0, none⟩) 1 1)).setOther (a := ⟨w.heap.size + 1, 2, none⟩) (by show W0.heap.size ≠ w.heap.size + 1; omega) (.string ⟨#[]⟩)).setOther (a := ⟨w.heap.size + 1, 3, none⟩) (by show W0.heap.size ≠ w.heap.size + 1; omega) (.string ⟨#[]⟩))
          rw [hV]
          exact r.cell (i := 0) (by omega)
      clear hx hb hf
      have qf := HR.out.frm.alloc (.cells #[.string x] 9)
      have qb := HR.out.box.alloc (.cells #[.string x] 9)
      have q2 : (W0.alloc (.cells #[.string x] 9)).cell? ⟨w.heap.size + 1 + 1 + 1, 2, none⟩ = some (.slice none 0 0) := qf.cell (i := 2) (by omega)
      have g2 := qf.frozen 2
      have b1 : (W0.alloc (.cells #[.string x] 9)).cell? ⟨w.heap.size + 1, 2, none⟩ = some (.string e.md) := qb.cell (i := 2) (by omega)
      have b2 : (W0.alloc (.cells #[.string x] 9)).cell? ⟨w.heap.size + 1, 3, none⟩ = some (.string e.nm) := qb.cell (i := 3) (by omega)
      have b3 := qb.frozen 2
      have b4 := qb.frozen 3
      have HK : Hid (((W0.alloc (.cells #[.string x] 9)).setCell ⟨w.heap.size + 1 + 1 + 1, 2, none⟩ (.slice (some ⟨W0.heap.size, 0, none⟩) 1 1)).cell? ⟨w.heap.size + 1, 2, none⟩ = some (.string e.md) ∧ ((W0.alloc (.cells #[.string x] 9)).setCell ⟨w.heap.size + 1 + 1 + 1, 2, none⟩ (.slice (some ⟨W0.heap.size, 0, none⟩) 1 1)).cell? ⟨w.heap.size + 1, 3, none⟩ = some (.string e.nm)) := by
        have r := qb.setOther (a := ⟨w.heap.size + 1 + 1 + 1, 2, none⟩) (by show w.heap.size + 1 ≠ w.heap.size + 1 + 1 + 1; omega) (.slice (some ⟨W0.heap.size, 0, none⟩) 1 1)
        exact ⟨r.cell (i := 2) (by omega), r.cell (i := 3) (by omega)⟩
      clear qf qb
      go_wp2
      go_region_held3 (fun w' => w'.cell? ⟨w.heap.size + 1, 2, none⟩ = some (.string e.md) ∧ w'.cell? ⟨w.heap.size + 1, 3, none⟩ = some (.string e.nm)) (first | exact HK.out | exact HK.out.1 | exact HK.out.2 | go_keep) (first
        | (go_at_call 61; (with_reducible refine (C1.out _).mono ?_); rintro r0 u0 ⟨rfl, rfl⟩)
        | (go_at_call 62; (with_reducible refine (C2.out _).mono ?_); rintro r1 u1 ⟨rfl, rfl⟩))
      all_goals
        go_wp2
        go_meet
        case rel => exact ⟨b, e.num, ⟨#[]⟩, ⟨#[]⟩, p.np.a, e.ns.length, p.np.c, ta0, e.ty.length, tc0, 4, some ⟨W0.heap.size, 0, none⟩, 1, 1, none, 0, 0, rfl, HFX.out _ rfl⟩
    by_cases o4 : op = 4
    · subst o4
      obtain ⟨f, hfb⟩ : ∃ f, f = brc e.ns xEs 4 := ⟨_, rfl⟩
      obtain ⟨b, hb⟩ : ∃ b, b = nmOk e.ns := ⟨_, rfl⟩
      have hf := fE_4 (lim := lim) HOP.out
      rw [← HFF.out, ← hfb, ← hb] at hf
      have E1 : Hid (∀ W, R3 w W (w.heap.size + 1) 69 6 (v6 (.int .i64 4) (.int .i64 e.num) (.string e.md) (.string e.nm) (.slice p.np.a e.ns.length p.np.c) (.slice ta0 e.ty.length tc0)) (v3 (.int .i64 4) (.slice none 0 0) (.slice none 0 0)) → Calls Tryd.prog 63 #[.slice p.np.a e.ns.length p.np.c, .string ⟨#[32, 61, 32]⟩, .int .i64 4] W fun r w' => ∃ (na ta : Option Addr) (nb tb nc tc : Nat), r = .returned (.agg #[.int .i64 (f.lev : Int), .slice na f.needs.length nc, .slice ta f.texts.length tc]) ∧ Hid (R3 w w' (w.heap.size + 1) 69 6 (v6 (.int .i64 4) (.int .i64 e.num) (.string e.md) (.string e.nm) (.slice p.np.a e.ns.length p.np.c) (.slice ta0 e.ty.length tc0)) (v3 (.int .i64 4) (.slice none 0 0) (.slice none 0 0))) ∧ Hid (FmA w' f na ta nb tb ∧ f.needs.length ≤ nc ∧ f.texts.length ≤ tc ∧ w.heap.size + 1 + 1 + 1 < nb ∧ w.heap.size + 1 + 1 + 1 < tb)) := fun W hR => by
        have T := HT.out W hR.bel
        have hs := hR.size
        refine (p_braces W T.ns T.len T.sz T.cap xEs (by decide) 4).mono ?_
        rintro r w' ⟨na, ta, nb, tb, nc, tc, rfl, F, n1, n2, n3, n4, B⟩
        rw [← hfb] at F n1 n2
        exact ⟨na, ta, nb, tb, nc, tc, by rw [hfb]; rfl, hR.below (B.mono (by omega)), F, n1, n2, by omega, by omega⟩
      have E2 : Hid (∀ W, R3 w W (w.heap.size + 1) 69 6 (v6 (.int .i64 4) (.int .i64 e.num) (.string e.md) (.string e.nm) (.slice p.np.a e.ns.length p.np.c) (.slice ta0 e.ty.length tc0)) (v3 (.int .i64 4) (.slice none 0 0) (.slice none 0 0)) → Calls Tryd.prog 64 #[.slice p.np.a e.ns.length p.np.c] W fun r w' => r = .returned (.bool b) ∧ Hid (R3 w w' (w.heap.size + 1) 69 6 (v6 (.int .i64 4) (.int .i64 e.num) (.string e.md) (.string e.nm) (.slice p.np.a e.ns.length p.np.c) (.slice ta0 e.ty.length tc0)) (v3 (.int .i64 4) (.slice none 0 0) (.slice none 0 0))) ∧ Hid (Below W.heap.size W w')) := fun W hR => by
        have T := HT.out W hR.bel
        have hs := hR.size
        refine (p_different W T.ns T.len T.sz rfl T.cap).mono ?_
        rintro r w' ⟨rfl, B⟩
        exact ⟨by rw [hb], hR.below (B.mono (by omega)), B⟩
      have HFX : Hid (∀ (V u : World) (na ta : Option Addr) (nb tb nc tc : Nat), R3 w u (w.heap.size + 1) 69 6 (v6 (.int .i64 4) (.int .i64 e.num) (.string e.md) (.string e.nm) (.slice p.np.a e.ns.length p.np.c) (.slice ta0 e.ty.length tc0)) (v3 (.int .i64 4) (.slice none 0 0) (.slice none 0 0)) → (FmA u f na ta nb tb ∧ f.needs.length ≤ nc ∧ f.texts.length ≤ tc ∧ w.heap.size + 1 + 1 + 1 < nb ∧ w.heap.size + 1 + 1 + 1 < tb) → V = ((((u.setCell ⟨w.heap.size + 1 + 1 + 1, 0, none⟩ (.int .i64 (f.lev : Int))).setCell ⟨w.heap.size + 1 + 1 + 1, 1, none⟩ (.slice na f.needs.length nc)).setCell ⟨w.heap.size + 1 + 1 + 1, 2, none⟩ (.slice ta f.texts.length tc)).setCell ⟨w.heap.size + 1, 4, none⟩ (.slice none 0 0)) → FxE w 4 ff V b e.num e.md e.nm none 0 0 ta0 e.ty.length tc0 (f.lev : Int) ta f.texts.length tc na f.needs.length nc) := fun V u na ta nb tb nc tc hR hF hV => by
        obtain ⟨F, n1, n2, n3, n4⟩ := hF
        refine FxE.of (F := f) ?_ ?_ hf fun g hg => ?_
        · rw [hV]
          exact ((hR.setF3 _ _ _).setB 4 _).congr (v6_ext rfl rfl rfl rfl rfl rfl) (fun _ _ => rfl)
        · rw [hfb, (brc_ok _ _ _).2.1]; exact hl
        · rw [ite_eq hf hg]
          have blk : ∀ k, w.heap.size + 1 + 1 + 1 < k → V.heap[k]? = u.heap[k]? := fun k hk => by
            have ne : ∀ j, k ≠ (⟨w.heap.size + 1 + 1 + 1, j, none⟩ : Addr).block := fun j => by show k ≠ w.heap.size + 1 + 1 + 1; omega
            have ne2 : k ≠ (⟨w.heap.size + 1, 4, none⟩ : Addr).block := by show k ≠ w.heap.size + 1; omega
            rw [hV, Below.heap_setCell _ _ _ _ ne2, Below.heap_setCell _ _ _ _ (ne 2), Below.heap_setCell _ _ _ _ (ne 1), Below.heap_setCell _ _ _ _ (ne 0)]
          exact ⟨nb, tb, rfl, F.of_blocks (blk nb n3) (blk tb n4), n1, n2, n3, n4⟩
      have HCL : Hid (∀ u, R3 w u (w.heap.size + 1) 69 6 (v6 (.int .i64 4) (.int .i64 e.num) (.string e.md) (.string e.nm) (.slice p.np.a e.ns.length p.np.c) (.slice ta0 e.ty.length tc0)) (v3 (.int .i64 4) (.slice none 0 0) (.slice none 0 0)) → (u.cell? ⟨w.heap.size + 1, 4, none⟩ = some (.slice p.np.a e.ns.length p.np.c) ∧ u.frozen? ⟨w.heap.size + 1, 4, none⟩ = false) ∧ (u.cell? ⟨w.heap.size + 1 + 1 + 1, 0, none⟩ = some (.int .i64 4) ∧ u.cell? ⟨w.heap.size + 1 + 1 + 1, 1, none⟩ = some (.slice none 0 0) ∧ u.cell? ⟨w.heap.size + 1 + 1 + 1, 2, none⟩ = some (.slice none 0 0)) ∧ u.frozen? ⟨w.heap.size + 1 + 1 + 1, 0, none⟩ = false ∧ u.frozen? ⟨w.heap.size + 1 + 1 + 1, 1, none⟩ = false ∧ u.frozen? ⟨w.heap.size + 1 + 1 + 1, 2, none⟩ = false) := fun u h =>
        ⟨⟨h.box.cell (i := 4) (by omega), h.box.frozen 4⟩, ⟨h.frm.cell (i := 0) (by omega), h.frm.cell (i := 1) (by omega), h.frm.cell (i := 2) (by omega)⟩, h.frm.frozen 0, h.frm.frozen 1, h.frm.frozen 2⟩
      have HKS : Hid (∀ (u : World) (x y z : Value), R3 w u (w.heap.size + 1) 69 6 (v6 (.int .i64 4) (.int .i64 e.num) (.string e.md) (.string e.nm) (.slice p.np.a e.ns.length p.np.c) (.slice ta0 e.ty.length tc0)) (v3 (.int .i64 4) (.slice none 0 0) (.slice none 0 0)) → (((u.setCell ⟨w.heap.size + 1 + 1 + 1, 0, none⟩ x).setCell ⟨w.heap.size + 1 + 1 + 1, 1, none⟩ y).setCell ⟨w.heap.size + 1 + 1 + 1, 2, none⟩ z).cell? ⟨w.heap.size + 1, 4, none⟩ = some (.slice p.np.a e.ns.length p.np.c)) := fun u x y z h => (h.setF3 x y z).box.cell (i := 4) (by omega)
      clear hfb hb hf
      go_wp2
      go_region_held3 (fun w' => w'.cell? ⟨w.heap.size + 1, 4, none⟩ = some (.slice p.np.a e.ns.length p.np.c)) (first | (with_reducible exact HKS.out _ _ _ _ R1.out) | go_keep) (first
        | (go_at_call 63; (with_reducible refine (E1.out _ (by first | (with_reducible exact HR.out) | (with_reducible exact HR.out.drew))).mono ?_); rintro r0 u0 ⟨na, ta, nb, tb, nc, tc, rfl, R0, F0⟩; obtain ⟨⟨m0, m1⟩, ⟨m2, m3, m4⟩, m5, m6, m7⟩ := HCL.out u0 R0.out)
        | (go_at_call 64; (with_reducible refine (E2.out _ (by first | (with_reducible exact R0.out) | (with_reducible exact R0.out.drew))).mono ?_); rintro r1 u1 ⟨rfl, R1, V1⟩; obtain ⟨⟨l0, l1⟩, ⟨l2, l3, l4⟩, l5, l6, l7⟩ := HCL.out u1 R1.out))
      all_goals
        go_wp2
        go_meet
        case rel => exact ⟨b, e.num, e.md, e.nm, none, 0, 0, ta0, e.ty.length, tc0, (f.lev : Int), ta, f.texts.length, tc, na, f.needs.length, nc, rfl, HFX.out _ u1 na ta nb tb nc tc R1.out ⟨F0.out.1.below V1.out, F0.out.2⟩ rfl⟩
    by_cases o5 : op = 5
    · subst o5
      have hf := fE_5 (lim := lim) HOP.out
      rw [← HFF.out] at hf
      have z1 : (⟨#[46]⟩ : ByteArray).size = 1 := rfl
      have c1 := fun W => run_string_add_sum (P := Tryd.prog) (w := W) (⟨#[46]⟩ : ByteArray) e.nm (by omega)
      obtain ⟨x, hx⟩ : ∃ x, x = (⟨#[46]⟩ : ByteArray) ++ e.nm := ⟨_, rfl⟩
      rw [← hx] at c1
      obtain ⟨b, hb⟩ : ∃ b, b = gn e.nm := ⟨_, rfl⟩
      have C1 : Hid (∀ W, Calls Tryd.prog 40 #[.string e.nm] W fun r w' => r = .returned (.bool b) ∧ w' = W) := fun W => by rw [hb]; exact c40 e.nm W (by omega)
      rw [← hb] at hf
      have hfx : ∀ f, ff = some f → f = ⟨3, [3], [e0, x]⟩ := fun f hf2 => by rw [ite_eq hf hf2, hx]; rfl
      have SFa := set_form (ff := ff) HR.out 3 [3] [e0, x] hfx _ rfl
      have SFb := set_form2 (ff := ff) HR.out 3 [3] [e0, x] hfx _ rfl
      have HFXa : Hid (∀ V : World, V = (((((W0.alloc (.cells #[.int .i64 3] 3)).alloc (.cells #[.string ⟨#[]⟩, .string x] 9)).setCell ⟨w.heap.size + 1 + 1 + 1, 0, none⟩ (.int .i64 3)).setCell ⟨w.heap.size + 1 + 1 + 1, 1, none⟩ (.slice (some ⟨W0.heap.size, 0, none⟩) 1 1)).setCell ⟨w.heap.size + 1 + 1 + 1, 2, none⟩ (.slice (some ⟨W0.heap.size + 1, 0, none⟩) 2 2)).setCell ⟨w.heap.size + 1, 3, none⟩ (.string ⟨#[]⟩) → Hid (FxE w 5 ff V.drew b e.num e.md ⟨#[]⟩ p.np.a e.ns.length p.np.c ta0 e.ty.length tc0 3 (some ⟨W0.heap.size + 1, 0, none⟩) 2 2 (some ⟨W0.heap.size, 0, none⟩) 1 1)) := fun V hV => by
        rw [hV]
        show FxE _ _ _ _ _ _ _ _ _ _ _ _ _ _ _ _ _ _ _ _ _
        refine FxE.of ?_ (by omega) hf (FmX.drew (FmX.of_blocks SFa.2 fun k hk => ?_))
        · exact ((SFa.1.setB 3 _).congr (v6_ext rfl rfl rfl rfl rfl rfl) (fun _ _ => rfl)).drew
        · rw [Below.heap_setCell _ _ _ _ (by show k ≠ w.heap.size + 1; omega)]
          rfl
      have HFXb : Hid (∀ V : World, V = (((((W0.alloc (.cells #[.string ⟨#[]⟩, .string x] 9)).alloc (.cells #[.int .i64 3] 3)).setCell ⟨w.heap.size + 1 + 1 + 1, 0, none⟩ (.int .i64 3)).setCell ⟨w.heap.size + 1 + 1 + 1, 1, none⟩ (.slice (some ⟨W0.heap.size + 1, 0, none⟩) 1 1)).setCell ⟨w.heap.size + 1 + 1 + 1, 2, none⟩ (.slice (some ⟨W0.heap.size, 0, none⟩) 2 2)).setCell ⟨w.heap.size + 1, 3, none⟩ (.string ⟨#[]⟩) → Hid (FxE w 5 ff V.drew b e.num e.md ⟨#[]⟩ p.np.a e.ns.length p.np.c ta0 e.ty.length tc0 3 (some ⟨W0.heap.size, 0, none⟩) 2 2 (some ⟨W0.heap.size + 1, 0, none⟩) 1 1)) := fun V hV => by
        rw [hV]
        show FxE _ _ _ _ _ _ _ _ _ _ _ _ _ _ _ _ _ _ _ _ _
        refine FxE.of ?_ (by omega) hf (FmX.drew (FmX.of_blocks SFb.2 fun k hk => ?_))
        · exact ((SFb.1.setB 3 _).congr (v6_ext rfl rfl rfl rfl rfl rfl) (fun _ _ => rfl)).drew
        · rw [Below.heap_setCell _ _ _ _ (by show k ≠ w.heap.size + 1; omega)]
          rfl
      have HKa : Hid ((((((W0.alloc (.cells #[.int .i64 3] 3)).alloc (.cells #[.string ⟨#[]⟩, .string x] 9)).setCell ⟨w.heap.size + 1 + 1 + 1, 0, none⟩ (.int .i64 3)).setCell ⟨w.heap.size + 1 + 1 + 1, 1, none⟩ (.slice (some ⟨W0.heap.size, 0, none⟩) 1 1)).setCell ⟨w.heap.size + 1 + 1 + 1, 2, none⟩ (.slice (some ⟨W0.heap.size + 1, 0, none⟩) 2 2)).drew.cell? ⟨w.heap.size + 1, 3, none⟩ = some (.string e.nm)) := SFa.1.box.cell (i := 3) (by omega)
      have HKb : Hid ((((((W0.alloc (.cells #[.string ⟨#[]⟩, .string x] 9)).alloc (.cells #[.int .i64 3] 3)).setCell ⟨w.heap.size + 1 + 1 + 1, 0, none⟩ (.int .i64 3)).setCell ⟨w.heap.size + 1 + 1 + 1, 1, none⟩ (.slice (some ⟨W0.heap.size + 1, 0, none⟩) 1 1)).setCell ⟨w.heap.size + 1 + 1 + 1, 2, none⟩ (.slice (some ⟨W0.heap.size, 0, none⟩) 2 2)).drew.cell? ⟨w.heap.size + 1, 3, none⟩ = some (.string e.nm)) := SFb.1.box.cell (i := 3) (by omega)
      have HKc : Hid ((((((W0.alloc (.cells #[.int .i64 3] 3)).alloc (.cells #[.string ⟨#[]⟩, .string x] 9)).setCell ⟨w.heap.size + 1 + 1 + 1, 0, none⟩ (.int .i64 3)).setCell ⟨w.heap.size + 1 + 1 + 1, 1, none⟩ (.slice (some ⟨W0.heap.size, 0, none⟩) 1 1)).setCell ⟨w.heap.size + 1 + 1 + 1, 2, none⟩ (.slice (some ⟨W0.heap.size + 1, 0, none⟩) 2 2)).drew.frozen? ⟨w.heap.size + 1, 3, none⟩ = false) := SFa.1.box.frozen 3
      have HKd : Hid ((((((W0.alloc (.cells #[.string ⟨#[]⟩, .string x] 9)).alloc (.cells #[.int .i64 3] 3)).setCell ⟨w.heap.size + 1 + 1 + 1, 0, none⟩ (.int .i64 3)).setCell ⟨w.heap.size + 1 + 1 + 1, 1, none⟩ (.slice (some ⟨W0.heap.size + 1, 0, none⟩) 1 1)).setCell ⟨w.heap.size + 1 + 1 + 1, 2, none⟩ (.slice (some ⟨W0.heap.size, 0, none⟩) 2 2)).drew.frozen? ⟨w.heap.size + 1, 3, none⟩ = false) := SFb.1.box.frozen 3
      clear hf hb hfx SFa SFb hx z1
      have qfa := (HR.out.frm.alloc (.cells #[.int .i64 3] 3)).alloc (.cells #[.string ⟨#[]⟩, .string x] 9)
      have qba := (HR.out.box.alloc (.cells #[.int .i64 3] 3)).alloc (.cells #[.string ⟨#[]⟩, .string x] 9)
      have qa0 : ((W0.alloc (.cells #[.int .i64 3] 3)).alloc (.cells #[.string ⟨#[]⟩, .string x] 9)).cell? ⟨w.heap.size + 1 + 1 + 1, 0, none⟩ = some (.int .i64 4) := qfa.cell (i := 0) (by omega)
      have qa1 : ((W0.alloc (.cells #[.int .i64 3] 3)).alloc (.cells #[.string ⟨#[]⟩, .string x] 9)).cell? ⟨w.heap.size + 1 + 1 + 1, 1, none⟩ = some (.slice none 0 0) := qfa.cell (i := 1) (by omega)
      have qa2 : ((W0.alloc (.cells #[.int .i64 3] 3)).alloc (.cells #[.string ⟨#[]⟩, .string x] 9)).cell? ⟨w.heap.size + 1 + 1 + 1, 2, none⟩ = some (.slice none 0 0) := qfa.cell (i := 2) (by omega)
      have ga0 := qfa.frozen 0
      have ga1 := qfa.frozen 1
      have ga2 := qfa.frozen 2
      have ba0 : ((W0.alloc (.cells #[.int .i64 3] 3)).alloc (.cells #[.string ⟨#[]⟩, .string x] 9)).cell? ⟨w.heap.size + 1, 3, none⟩ = some (.string e.nm) := qba.cell (i := 3) (by omega)
      have ba1 := qba.frozen 3
      clear qfa qba
      have qfb := (HR.out.frm.alloc (.cells #[.string ⟨#[]⟩, .string x] 9)).alloc (.cells #[.int .i64 3] 3)
      have qbb := (HR.out.box.alloc (.cells #[.string ⟨#[]⟩, .string x] 9)).alloc (.cells #[.int .i64 3] 3)
      have qb0 : ((W0.alloc (.cells #[.string ⟨#[]⟩, .string x] 9)).alloc (.cells #[.int .i64 3] 3)).cell? ⟨w.heap.size + 1 + 1 + 1, 0, none⟩ = some (.int .i64 4) := qfb.cell (i := 0) (by omega)
      have qb1 : ((W0.alloc (.cells #[.string ⟨#[]⟩, .string x] 9)).alloc (.cells #[.int .i64 3] 3)).cell? ⟨w.heap.size + 1 + 1 + 1, 1, none⟩ = some (.slice none 0 0) := qfb.cell (i := 1) (by omega)
      have qb2 : ((W0.alloc (.cells #[.string ⟨#[]⟩, .string x] 9)).alloc (.cells #[.int .i64 3] 3)).cell? ⟨w.heap.size + 1 + 1 + 1, 2, none⟩ = some (.slice none 0 0) := qfb.cell (i := 2) (by omega)
      have gb0 := qfb.frozen 0
      have gb1 := qfb.frozen 1
      have gb2 := qfb.frozen 2
      have bb0 : ((W0.alloc (.cells #[.string ⟨#[]⟩, .string x] 9)).alloc (.cells #[.int .i64 3] 3)).cell? ⟨w.heap.size + 1, 3, none⟩ = some (.string e.nm) := qbb.cell (i := 3) (by omega)
      have bb1 := qbb.frozen 3
      clear qfb qbb
      go_wp2
      go_region_held3 (fun w' => w'.cell? ⟨w.heap.size + 1, 3, none⟩ = some (.string e.nm)) (first | (with_reducible exact HKa.out) | (with_reducible exact HKb.out) | go_keep) (first
        | (go_at_call 40; (with_reducible refine (C1.out _).mono ?_); rintro r0 u0 ⟨rfl, rfl⟩))
      all_goals
        clear qa0 qa1 qa2 ga0 ga1 ga2 ba0 ba1 qb0 qb1 qb2 gb0 gb1 gb2 bb0 bb1 c1 y1 y2 y3 y4 y5 C1
        have k1 := HKa.out
        have k2 := HKb.out
        have k3 := HKc.out
        have k4 := HKd.out
        go_wp2
        clear k1 k2 k3 k4
        go_meet
        case rel => first
          | (with_reducible exact ⟨b, e.num, e.md, ⟨#[]⟩, p.np.a, e.ns.length, p.np.c, ta0, e.ty.length, tc0, 3, some ⟨W0.heap.size + 1, 0, none⟩, 2, 2, some ⟨W0.heap.size, 0, none⟩, 1, 1, rfl, HFXa.out _ rfl⟩)
          | (with_reducible exact ⟨b, e.num, e.md, ⟨#[]⟩, p.np.a, e.ns.length, p.np.c, ta0, e.ty.length, tc0, 3, some ⟨W0.heap.size, 0, none⟩, 2, 2, some ⟨W0.heap.size + 1, 0, none⟩, 1, 1, rfl, HFXb.out _ rfl⟩)
    by_cases o6 : op = 6
    · subst o6
      have hf := fE_6 (lim := lim) HOP.out
      rw [← HFF.out] at hf
      have T := HT.out W0 HR.out.bel
      have hzl : p.zs.length = e.ty.length := by rw [← T.is, List.length_map]
      have C1 := p_funForm W0 e.nm hn (a := ta0) (c := tc0) (xs := p.zs) (by have := T.ty; rw [HTV.out, ← hzl] at this; exact this) T.is HCO.out lim hlim
      rw [hzl] at C1
      have p0 : W0.cell? ⟨w.heap.size, 0, none⟩ = some (.int .i64 (lim : Int)) := HRP.out.cell (i := 0) (by omega)
      obtain ⟨gg, hgg⟩ : ∃ gg, gg = funF e.nm (plF (fun i => (e.ty[i]?).bind fT) lim e.ty.length) := ⟨_, rfl⟩
      have HGF : Hid (∀ g, gg = some g → g = ⟨0, [0], [xFun ++ e.nm ++ xCs ++ prT e.ty ++ xFn2, e0]⟩) := fun g hg => fE_6f (lim := lim) (by rw [← hgg]; exact hg)
      rw [← hgg] at C1 hf
      have HFE : Hid _ := hf
      clear hf hgg T
      go_wp2_with fail
      refine C1.mono ?_
      rintro r w2 ⟨B2, L, ta, tn, tc, na, fl, nc, ok, rfl, hfl, hok, HF⟩
      clear C1
      have R2 := HR.out.below (B2.mono HR.out.size)
      have q0 : w2.cell? ⟨w.heap.size + 1 + 1 + 1, 0, none⟩ = some (.int .i64 4) := R2.frm.cell (i := 0) (by omega)
      have q1 : w2.cell? ⟨w.heap.size + 1 + 1 + 1, 1, none⟩ = some (.slice none 0 0) := R2.frm.cell (i := 1) (by omega)
      have q2 : w2.cell? ⟨w.heap.size + 1 + 1 + 1, 2, none⟩ = some (.slice none 0 0) := R2.frm.cell (i := 2) (by omega)
      have g0 := R2.frm.frozen 0
      have g1 := R2.frm.frozen 1
      have g2 := R2.frm.frozen 2
      have b3 : w2.cell? ⟨w.heap.size + 1, 3, none⟩ = some (.string e.nm) := R2.box.cell (i := 3) (by omega)
      have b5 : w2.cell? ⟨w.heap.size + 1, 5, none⟩ = some (.slice ta0 e.ty.length tc0) := R2.box.cell (i := 5) (by omega)
      have k3 := R2.box.frozen 3
      have k5 := R2.box.frozen 5
      have HFX : Hid (∀ V : World, V = ((((w2.setCell ⟨w.heap.size + 1 + 1 + 1, 0, none⟩ (.int .i64 L)).setCell ⟨w.heap.size + 1 + 1 + 1, 1, none⟩ (.slice na fl nc)).setCell ⟨w.heap.size + 1 + 1 + 1, 2, none⟩ (.slice ta tn tc)).setCell ⟨w.heap.size + 1, 3, none⟩ (.string ⟨#[]⟩)).setCell ⟨w.heap.size + 1, 5, none⟩ (.slice none 0 0) → FxE w 6 ff V ok e.num e.md ⟨#[]⟩ p.np.a e.ns.length p.np.c none 0 0 L ta tn tc na fl nc) := fun V hV => by
        refine FxE.of ?_ hfl (by rw [hok]; exact HFE.out) fun f hf2 => ?_
        · rw [hV]
          exact ((((R2.setF3 _ _ _).setB 3 _).setB 5 _).congr (v6_ext rfl rfl rfl rfl rfl rfl) (fun _ _ => rfl))
        · have e1 := ite_eq HFE.out hf2
          have hl1 : lft gg.isSome e.num e.md ⟨#[]⟩ e.ns.length 0 = true := by
            have := ite_isSome HFE.out
            rw [this, hf2]; rfl
          have hg1 : ∃ g, gg = some g := by
            cases hgx : gg with
            | none =>
              rw [hgx] at hl1
              unfold lft at hl1
              simp at hl1
            | some g => exact ⟨g, rfl⟩
          obtain ⟨g, hg⟩ := hg1
          have e2 := HGF.out g hg
          have e3 : gg = some f := by rw [hg, e2, e1]
          obtain ⟨nb, tb, ev, F, h1, h2, h3, h4⟩ := HF f e3
          have hsz0 := HSZ.out
          have blk : ∀ k, w.heap.size + 1 + 1 + 1 < k → V.heap[k]? = w2.heap[k]? := fun k hk => by
            have ne : ∀ j, k ≠ (⟨w.heap.size + 1 + 1 + 1, j, none⟩ : Addr).block := fun j => by show k ≠ w.heap.size + 1 + 1 + 1; omega
            have ne2 : ∀ j, k ≠ (⟨w.heap.size + 1, j, none⟩ : Addr).block := fun j => by show k ≠ w.heap.size + 1; omega
            rw [hV, Below.heap_setCell _ _ _ _ (ne2 5), Below.heap_setCell _ _ _ _ (ne2 3), Below.heap_setCell _ _ _ _ (ne 2), Below.heap_setCell _ _ _ _ (ne 1), Below.heap_setCell _ _ _ _ (ne 0)]
          exact ⟨nb, tb, ev, F.of_blocks (blk nb (by omega)) (blk tb (by omega)), h1, h2, by omega, by omega⟩
      clear R2 hok HF HFE HGF
      go_wp2
      go_meet
      case rel => exact ⟨ok, e.num, e.md, ⟨#[]⟩, p.np.a, e.ns.length, p.np.c, none, 0, 0, L, ta, tn, tc, na, fl, nc, rfl, HFX.out _ rfl⟩
    by_cases o1 : op = 1
    · subst o1
      have hf := fE_1 (lim := lim) HOP.out
      rw [← HFF.out] at hf
      obtain ⟨b, hb⟩ : ∃ b, b = (decide (0 ≤ e.num) && decide (e.num ≤ 999999999)) := ⟨_, rfl⟩
      rw [← hb] at hf
      have HFX : Hid (∀ (u V : World) (x : ByteArray), R3 w u (w.heap.size + 1) 69 6 (v6 (.int .i64 1) (.int .i64 e.num) (.string e.md) (.string e.nm) (.slice p.np.a e.ns.length p.np.c) (.slice ta0 e.ty.length tc0)) (v3 (.int .i64 4) (.slice none 0 0) (.slice none 0 0)) → (∀ f, ff = some f → f = ⟨4, [], [x]⟩) → V = ((u.alloc (.cells #[.string x] 9)).setCell ⟨w.heap.size + 1 + 1 + 1, 2, none⟩ (.slice (some ⟨u.heap.size, 0, none⟩) 1 1)).setCell ⟨w.heap.size + 1, 1, none⟩ (.int .i64 0) → FxE w 1 ff V b 0 e.md e.nm p.np.a e.ns.length p.np.c ta0 e.ty.length tc0 4 (some ⟨u.heap.size, 0, none⟩) 1 1 none 0 0) := fun u V x hR hx hV => by
        have hz := hR.size
        refine FxE.of (F := ⟨4, [], [shN e.num.toNat]⟩) ?_ (by omega) hf (FmX.one (lev := 4) (x := x) ?_ (by omega) hx)
        · rw [hV]
          exact (((hR.alloc _).setF2 _).setB 1 _).congr (v6_ext rfl rfl rfl rfl rfl rfl) (fun _ _ => rfl)
        · have r := ((row1 u (.string x) 9).setOther (a := ⟨w.heap.size + 1 + 1 + 1, 2, none⟩) (by show u.heap.size ≠ w.heap.size + 1 + 1 + 1; omega) (.slice (some ⟨u.heap.size, 0, none⟩) 1 1)).setOther (a := ⟨w.heap.size + 1, 1, none⟩) (by show u.heap.size ≠ w.heap.size + 1; omega) (.int .i64 0)
          rw [hV]
          exact r.cell (i := 0) (by omega)
      have HCL : Hid (∀ (u : World) (x : ByteArray), R3 w u (w.heap.size + 1) 69 6 (v6 (.int .i64 1) (.int .i64 e.num) (.string e.md) (.string e.nm) (.slice p.np.a e.ns.length p.np.c) (.slice ta0 e.ty.length tc0)) (v3 (.int .i64 4) (.slice none 0 0) (.slice none 0 0)) → (u.alloc (.cells #[.string x] 9)).cell? ⟨w.heap.size + 1 + 1 + 1, 2, none⟩ = some (.slice none 0 0) ∧ (u.alloc (.cells #[.string x] 9)).frozen? ⟨w.heap.size + 1 + 1 + 1, 2, none⟩ = false ∧ (u.alloc (.cells #[.string x] 9)).cell? ⟨w.heap.size + 1, 1, none⟩ = some (.int .i64 e.num) ∧ (u.alloc (.cells #[.string x] 9)).frozen? ⟨w.heap.size + 1, 1, none⟩ = false ∧ u.cell? ⟨w.heap.size + 1, 1, none⟩ = some (.int .i64 e.num)) := fun u x hR =>
        ⟨(hR.frm.alloc _).cell (i := 2) (by omega), (hR.frm.alloc _).frozen 2, (hR.box.alloc _).cell (i := 1) (by omega), (hR.box.alloc _).frozen 1, hR.box.cell (i := 1) (by omega)⟩
      have HKS : Hid (∀ (u : World) (x : ByteArray), R3 w u (w.heap.size + 1) 69 6 (v6 (.int .i64 1) (.int .i64 e.num) (.string e.md) (.string e.nm) (.slice p.np.a e.ns.length p.np.c) (.slice ta0 e.ty.length tc0)) (v3 (.int .i64 4) (.slice none 0 0) (.slice none 0 0)) → ((u.alloc (.cells #[.string x] 9)).setCell ⟨w.heap.size + 1 + 1 + 1, 2, none⟩ (.slice (some ⟨u.heap.size, 0, none⟩) 1 1)).cell? ⟨w.heap.size + 1, 1, none⟩ = some (.int .i64 e.num)) := fun u x hR => ((hR.alloc _).setF2 _).box.cell (i := 1) (by omega)
      by_cases hp : 0 ≤ e.num
      · have C1 : Hid (∀ W, R3 w W (w.heap.size + 1) 69 6 (v6 (.int .i64 1) (.int .i64 e.num) (.string e.md) (.string e.nm) (.slice p.np.a e.ns.length p.np.c) (.slice ta0 e.ty.length tc0)) (v3 (.int .i64 4) (.slice none 0 0) (.slice none 0 0)) → Calls Tryd.prog 65 #[.int .i64 e.num] W fun r w' => r = .returned (.string (shN e.num.toNat)) ∧ Hid (R3 w w' (w.heap.size + 1) 69 6 (v6 (.int .i64 1) (.int .i64 e.num) (.string e.md) (.string e.nm) (.slice p.np.a e.ns.length p.np.c) (.slice ta0 e.ty.length tc0)) (v3 (.int .i64 4) (.slice none 0 0) (.slice none 0 0)))) := fun W hR => by
          have hs := hR.size
          refine (p_itoa e.num HNU.out W (HTN.out W hR.bel)).mono ?_
          rintro r w' ⟨⟨x, rfl, hx⟩, B⟩
          exact ⟨by rw [hx hp], hR.below (B.mono (by omega))⟩
        have HX : Hid (∀ f, ff = some f → f = ⟨4, [], [shN e.num.toNat]⟩) := fun f hf2 => ite_eq hf hf2
        have HBV : Hid (b = decide (e.num ≤ 999999999)) := by show _ = _; rw [hb, decide_eq_true hp, Bool.true_and]
        obtain ⟨x, hx⟩ : ∃ x, x = shN e.num.toNat := ⟨_, rfl⟩
        rw [← hx] at C1 HX
        clear hf hb hx
        go_wp2
        go_region_held3 (fun w' => w'.cell? ⟨w.heap.size + 1, 1, none⟩ = some (.int .i64 e.num)) (first | (with_reducible exact HKS.out _ _ U0.out) | go_keep) (first
          | (go_at_call 65; (with_reducible refine (C1.out _ (by first | (with_reducible exact HR.out) | (with_reducible exact HR.out.drew))).mono ?_); rintro r0 u0 ⟨rfl, U0⟩; obtain ⟨m0, m1, m2, m3, m4⟩ := HCL.out u0 x U0.out))
        all_goals
          go_wp2
          go_meet
          case rel =>
            exact ⟨decide (e.num ≤ 999999999), 0, e.md, e.nm, p.np.a, e.ns.length, p.np.c, ta0, e.ty.length, tc0, 4, some ⟨u0.heap.size, 0, none⟩, 1, 1, none, 0, 0, rfl, by rw [← HBV.out]; exact HFX.out u0 _ x U0.out HX.out rfl⟩
      · have C1 : Hid (∀ W, R3 w W (w.heap.size + 1) 69 6 (v6 (.int .i64 1) (.int .i64 e.num) (.string e.md) (.string e.nm) (.slice p.np.a e.ns.length p.np.c) (.slice ta0 e.ty.length tc0)) (v3 (.int .i64 4) (.slice none 0 0) (.slice none 0 0)) → Calls Tryd.prog 65 #[.int .i64 e.num] W fun r w' => ∃ x : ByteArray, r = .returned (.string x) ∧ Hid (R3 w w' (w.heap.size + 1) 69 6 (v6 (.int .i64 1) (.int .i64 e.num) (.string e.md) (.string e.nm) (.slice p.np.a e.ns.length p.np.c) (.slice ta0 e.ty.length tc0)) (v3 (.int .i64 4) (.slice none 0 0) (.slice none 0 0)))) := fun W hR => by
          have hs := hR.size
          refine (p_itoa e.num HNU.out W (HTN.out W hR.bel)).mono ?_
          rintro r w' ⟨⟨x, rfl, _⟩, B⟩
          exact ⟨x, rfl, hR.below (B.mono (by omega))⟩
        have hb2 : b = false := by rw [hb, decide_eq_false hp, Bool.false_and]
        have HX : Hid (∀ (x : ByteArray) f, ff = some f → f = ⟨4, [], [x]⟩) := fun x f hf2 => by
          rw [hf, hb2] at hf2
          cases hf2
        have HBV : Hid (b = false) := hb2
        have hlq : decide (0 ≤ e.num) = false := decide_eq_false hp
        clear hf hb hb2 hp
        go_wp2
        refine wp_region_held_drew (S := (fun w' => w'.cell? ⟨w.heap.size + 1, 1, none⟩ = some (.int .i64 e.num))) (by kernel_rfl) ?_ (fun hHeld => ?_)
        · (try dsimp only); (first | (with_reducible exact HKS.out _ _ U0.out) | go_keep)
        refine wpAnyH_take (i := 0) (oi := ⟨some 13, _, _, _, _, _⟩) (v := ?_) rfl (by kernel_rfl) (by kernel_rfl) (by kernel_rfl) (fun _ _ _ h => h) (Or.inl ⟨by kernel_rfl, ?_⟩) (by assumption) ?_
        rotate_left
        · (intro wS hSw; (try dsimp only at hSw); (go_simp <;> with_reducible rfl))
        (try simp only [Act.put]); (try simp only [List.setIfInBounds_toArray]); (try simp only [List.set_cons_succ]); (try simp only [List.set_cons_zero])
        refine wpAnyH_take (i := 1) (oi := ⟨some 14, _, _, _, _, _⟩) (v := ?_) rfl (by kernel_rfl) (by kernel_rfl) (by kernel_rfl) (fun _ _ _ h => h) (Or.inl ⟨by kernel_rfl, ?_⟩) (by assumption) ?_
        rotate_left
        · (intro wS hSw; (try dsimp only at hSw); (go_simp <;> with_reducible rfl))
        (try simp only [Act.put]); (try simp only [List.setIfInBounds_toArray]); (try simp only [List.set_cons_succ]); (try simp only [List.set_cons_zero])
        refine wpAnyH_take (i := 4) (oi := ⟨some 17, _, _, _, _, _⟩) (v := ?_) rfl (by kernel_rfl) (by kernel_rfl) (by kernel_rfl) (fun _ _ _ h => h) (Or.inl ⟨by kernel_rfl, ?_⟩) (by assumption) ?_
        rotate_left
        · (intro wS hSw; (try dsimp only at hSw); (go_simp <;> with_reducible rfl))
        (try simp only [Act.put]); (try simp only [List.setIfInBounds_toArray]); (try simp only [List.set_cons_succ]); (try simp only [List.set_cons_zero])
        refine wpAnyH_take (i := 5) (oi := ⟨some 18, _, _, _, _, _⟩) (v := ?_) rfl (by kernel_rfl) (by kernel_rfl) (by kernel_rfl) (fun _ _ _ h => h) (Or.inl ⟨by kernel_rfl, ?_⟩) (by assumption) ?_
        rotate_left
        · (intro wS hSw; (try dsimp only at hSw); (go_simp <;> with_reducible rfl))
        (try simp only [Act.put]); (try simp only [List.setIfInBounds_toArray]); (try simp only [List.set_cons_succ]); (try simp only [List.set_cons_zero])
        refine wpAnyH_take (i := 6) (oi := ⟨some 19, _, _, _, _, _⟩) (v := ?_) rfl (by kernel_rfl) (by kernel_rfl) (by kernel_rfl) (fun _ _ _ h => h) (Or.inl ⟨by kernel_rfl, ?_⟩) (by assumption) ?_
        rotate_left
        · (intro wS hSw; (try dsimp only at hSw); (go_simp <;> with_reducible rfl))
        (try simp only [Act.put]); (try simp only [List.setIfInBounds_toArray]); (try simp only [List.set_cons_succ]); (try simp only [List.set_cons_zero])
        refine wpAnyH_ready (rs := [2]) (by kernel_rfl) (by simp) ?_
        refine AllReadyH.cons rfl (fun K hK => ?_) AllReadyH.nil
        go_simp
        go_wp2_with (first | (go_at_call 65; (with_reducible refine (C1.out _ (by first | (with_reducible exact HR.out) | (with_reducible exact HR.out.drew))).mono ?_); rintro r0 u0 ⟨x, rfl, U0⟩; obtain ⟨m0, m1, m2, m3, m4⟩ := HCL.out u0 x U0.out))
        refine hK.out _ _ ?_ (fun hHeld2 => ?_)
        · (try dsimp only); (first | (with_reducible exact HKS.out _ _ U0.out) | go_keep)
        clear hK K hHeld
        have hHeld := hHeld2
        clear hHeld2
        refine wpAnyH_take (i := 7) (oi := ⟨some 20, _, _, _, _, _⟩) (v := ?_) rfl (by kernel_rfl) (by kernel_rfl) (by kernel_rfl) (fun _ _ _ h => h) (Or.inl ⟨by kernel_rfl, ?_⟩) (by assumption) ?_
        rotate_left
        · (intro wS hSw; (try dsimp only at hSw); (go_simp <;> with_reducible rfl))
        (try simp only [Act.put]); (try simp only [List.setIfInBounds_toArray]); (try simp only [List.set_cons_succ]); (try simp only [List.set_cons_zero])
        refine wpAnyH_take (i := 8) (oi := ⟨some 21, _, _, _, _, _⟩) (v := undef) rfl (by kernel_rfl) (by kernel_rfl) (by kernel_rfl) (fun _ _ _ h => h) (Or.inr ⟨by kernel_rfl, rfl⟩) (by assumption) ?_
        (try simp only [Act.put]); (try simp only [List.setIfInBounds_toArray]); (try simp only [List.set_cons_succ]); (try simp only [List.set_cons_zero])
        refine wpAnyH_take (i := 9) (oi := ⟨some 22, _, _, _, _, _⟩) (v := undef) rfl (by kernel_rfl) (by kernel_rfl) (by kernel_rfl) (fun _ _ _ h => h) (Or.inr ⟨by kernel_rfl, rfl⟩) (by assumption) ?_
        (try simp only [Act.put]); (try simp only [List.setIfInBounds_toArray]); (try simp only [List.set_cons_succ]); (try simp only [List.set_cons_zero])
        refine wpAnyH_take (i := 10) (oi := ⟨some 23, _, _, _, _, _⟩) (v := undef) rfl (by kernel_rfl) (by kernel_rfl) (by kernel_rfl) (fun _ _ _ h => h) (Or.inr ⟨by kernel_rfl, rfl⟩) (by assumption) ?_
        (try simp only [Act.put]); (try simp only [List.setIfInBounds_toArray]); (try simp only [List.set_cons_succ]); (try simp only [List.set_cons_zero])
        refine wpAnyH_take (i := 11) (oi := ⟨some 24, _, _, _, _, _⟩) (v := ?_) rfl (by kernel_rfl) (by kernel_rfl) (by kernel_rfl) (fun _ _ _ h => h) (Or.inl ⟨by kernel_rfl, ?_⟩) (by assumption) ?_
        rotate_left
        · (intro wS hSw; (try dsimp only at hSw); (go_simp <;> with_reducible rfl))
        (try simp only [Act.put]); (try simp only [List.setIfInBounds_toArray]); (try simp only [List.set_cons_succ]); (try simp only [List.set_cons_zero])
        refine wpAnyH_ready (rs := [3]) (by kernel_rfl) (by simp) ?_
        refine AllReadyH.cons rfl (fun K hK => ?_) AllReadyH.nil
        go_simp
        refine hK.out _ _ ?_ (fun hHeld2 => ?_)
        · (try dsimp only); (first | (with_reducible exact HKS.out _ _ U0.out) | go_keep)
        clear hK K hHeld
        have hHeld := hHeld2
        clear hHeld2
        refine wpAnyH_take (i := 12) (oi := ⟨some 25, _, _, _, _, _⟩) (v := ?_) rfl (by kernel_rfl) (by kernel_rfl) (by kernel_rfl) (fun _ _ _ h => h) (Or.inl ⟨by kernel_rfl, ?_⟩) (by assumption) ?_
        rotate_left
        · (intro wS hSw; (try dsimp only at hSw); (go_simp <;> with_reducible rfl))
        (try simp only [Act.put]); (try simp only [List.setIfInBounds_toArray]); (try simp only [List.set_cons_succ]); (try simp only [List.set_cons_zero])
        refine wpAnyH_ready (rs := [13]) (by kernel_rfl) (by simp) ?_
        refine AllReadyH.cons rfl (fun K hK => ?_) AllReadyH.nil
        go_simp
        refine hK.out _ _ ?_ (fun hHeld2 => ?_)
        · (try dsimp only); (first | (with_reducible exact HKS.out _ _ U0.out) | go_keep)
        clear hK K hHeld
        have hHeld := hHeld2
        clear hHeld2
        refine wpAnyH_take (i := 14) (oi := ⟨some 7, _, _, _, _, _⟩) (v := ?_) rfl (by kernel_rfl) (by kernel_rfl) (by kernel_rfl) (fun _ _ _ h => h) (Or.inl ⟨by kernel_rfl, ?_⟩) (by assumption) ?_
        rotate_left
        · (intro wS hSw; (try dsimp only at hSw); (go_simp <;> with_reducible rfl))
        (try simp only [Act.put]); (try simp only [List.setIfInBounds_toArray]); (try simp only [List.set_cons_succ]); (try simp only [List.set_cons_zero])
        refine wpAnyH_done (by kernel_rfl) ?_ _
        go_wp2
        go_meet
        case rel =>
          have G := HFX.out u0 _ x U0.out (HX.out x) rfl
          rw [HBV.out] at G
          exact ⟨false, 0, e.md, e.nm, p.np.a, e.ns.length, p.np.c, ta0, e.ty.length, tc0, 4, some ⟨u0.heap.size, 0, none⟩, 1, 1, none, 0, 0, rfl, G⟩
    by_cases o2 : op = 2
    · subst o2
      have hf := fE_2 (lim := lim) HOP.out
      rw [← HFF.out] at hf
      obtain ⟨b, hb⟩ : ∃ b, b = (decide (e.num = 0) || decide (e.num = 1)) := ⟨_, rfl⟩
      rw [← hb] at hf
      have HFX : Hid (∀ (u V : World) (x : ByteArray), R3 w u (w.heap.size + 1) 69 6 (v6 (.int .i64 2) (.int .i64 e.num) (.string e.md) (.string e.nm) (.slice p.np.a e.ns.length p.np.c) (.slice ta0 e.ty.length tc0)) (v3 (.int .i64 4) (.slice none 0 0) (.slice none 0 0)) → (∀ f, ff = some f → f = ⟨4, [], [x]⟩) → V = ((u.alloc (.cells #[.string x] 9)).setCell ⟨w.heap.size + 1 + 1 + 1, 2, none⟩ (.slice (some ⟨u.heap.size, 0, none⟩) 1 1)).setCell ⟨w.heap.size + 1, 1, none⟩ (.int .i64 0) → FxE w 2 ff V b 0 e.md e.nm p.np.a e.ns.length p.np.c ta0 e.ty.length tc0 4 (some ⟨u.heap.size, 0, none⟩) 1 1 none 0 0) := fun u V x hR hx hV => by
        have hz := hR.size
        refine FxE.of  ?_ (by omega) hf (FmX.one (lev := 4) (x := x) ?_ (by omega) hx)
        · rw [hV]
          exact (((hR.alloc _).setF2 _).setB 1 _).congr (v6_ext rfl rfl rfl rfl rfl rfl) (fun _ _ => rfl)
        · have r := ((row1 u (.string x) 9).setOther (a := ⟨w.heap.size + 1 + 1 + 1, 2, none⟩) (by show u.heap.size ≠ w.heap.size + 1 + 1 + 1; omega) (.slice (some ⟨u.heap.size, 0, none⟩) 1 1)).setOther (a := ⟨w.heap.size + 1, 1, none⟩) (by show u.heap.size ≠ w.heap.size + 1; omega) (.int .i64 0)
          rw [hV]
          exact r.cell (i := 0) (by omega)
      have HCL : Hid (∀ (u : World) (x : ByteArray), R3 w u (w.heap.size + 1) 69 6 (v6 (.int .i64 2) (.int .i64 e.num) (.string e.md) (.string e.nm) (.slice p.np.a e.ns.length p.np.c) (.slice ta0 e.ty.length tc0)) (v3 (.int .i64 4) (.slice none 0 0) (.slice none 0 0)) → (u.alloc (.cells #[.string x] 9)).cell? ⟨w.heap.size + 1 + 1 + 1, 2, none⟩ = some (.slice none 0 0) ∧ (u.alloc (.cells #[.string x] 9)).frozen? ⟨w.heap.size + 1 + 1 + 1, 2, none⟩ = false ∧ (u.alloc (.cells #[.string x] 9)).cell? ⟨w.heap.size + 1, 1, none⟩ = some (.int .i64 e.num) ∧ (u.alloc (.cells #[.string x] 9)).frozen? ⟨w.heap.size + 1, 1, none⟩ = false ∧ u.cell? ⟨w.heap.size + 1, 1, none⟩ = some (.int .i64 e.num)) := fun u x hR =>
        ⟨(hR.frm.alloc _).cell (i := 2) (by omega), (hR.frm.alloc _).frozen 2, (hR.box.alloc _).cell (i := 1) (by omega), (hR.box.alloc _).frozen 1, hR.box.cell (i := 1) (by omega)⟩
      have HKS : Hid (∀ (u : World) (x : ByteArray), R3 w u (w.heap.size + 1) 69 6 (v6 (.int .i64 2) (.int .i64 e.num) (.string e.md) (.string e.nm) (.slice p.np.a e.ns.length p.np.c) (.slice ta0 e.ty.length tc0)) (v3 (.int .i64 4) (.slice none 0 0) (.slice none 0 0)) → ((u.alloc (.cells #[.string x] 9)).setCell ⟨w.heap.size + 1 + 1 + 1, 2, none⟩ (.slice (some ⟨u.heap.size, 0, none⟩) 1 1)).cell? ⟨w.heap.size + 1, 1, none⟩ = some (.int .i64 e.num)) := fun u x hR => ((hR.alloc _).setF2 _).box.cell (i := 1) (by omega)
      obtain ⟨x, hx⟩ : ∃ x, x = if e.num = 0 then xFalse else xTrue := ⟨_, rfl⟩
      have C1 : Hid (∀ W, Calls Tryd.prog 66 #[.int .i64 e.num] W fun r w' => r = .returned (.string x) ∧ w' = W) := fun W => by rw [hx]; exact p_printedBool W e.num
      rw [← hx] at hf
      have HFD : Hid (∀ V : World, V = ((W0.alloc (.cells #[.string x] 9)).setCell ⟨w.heap.size + 1 + 1 + 1, 2, none⟩ (.slice (some ⟨W0.heap.size, 0, none⟩) 1 1)).setCell ⟨w.heap.size + 1, 1, none⟩ (.int .i64 0) → FxE w 2 ff V.drew b 0 e.md e.nm p.np.a e.ns.length p.np.c ta0 e.ty.length tc0 4 (some ⟨W0.heap.size, 0, none⟩) 1 1 none 0 0) := fun V hV => by
        have G := HFX.out W0 V x HR.out (fun f hf2 => ite_eq hf hf2) hV
        exact ⟨G.r.drew, G.n, G.is, G.fm.drew⟩
      have HKD : Hid (((W0.alloc (.cells #[.string x] 9)).setCell ⟨w.heap.size + 1 + 1 + 1, 2, none⟩ (.slice (some ⟨W0.heap.size, 0, none⟩) 1 1)).drew.cell? ⟨w.heap.size + 1, 1, none⟩ = some (.int .i64 e.num)) := HKS.out W0 x HR.out
      obtain ⟨m0, m1, m2, m3, m4⟩ := HCL.out W0 x HR.out
      by_cases hz : e.num = 0
      · have HBV : Hid (b = true) := by show _ = _; rw [hb, decide_eq_true hz, Bool.true_or]
        have hq : (e.num == 0) = true := beq_iff_eq.2 hz
        clear hf hb hx hz
        go_wp2
        refine wp_region_held_drew (S := (fun w' => w'.cell? ⟨w.heap.size + 1, 1, none⟩ = some (.int .i64 e.num))) (by kernel_rfl) ?_ (fun hHeld => ?_)
        · (try dsimp only); (first | (with_reducible exact HKD.out) | go_keep)
        refine wpAnyH_take (i := 0) (oi := ⟨some 29, _, _, _, _, _⟩) (v := ?_) rfl (by kernel_rfl) (by kernel_rfl) (by kernel_rfl) (fun _ _ _ h => h) (Or.inl ⟨by kernel_rfl, ?_⟩) (by assumption) ?_
        rotate_left
        · (intro wS hSw; (try dsimp only at hSw); (go_simp <;> with_reducible rfl))
        (try simp only [Act.put]); (try simp only [List.setIfInBounds_toArray]); (try simp only [List.set_cons_succ]); (try simp only [List.set_cons_zero])
        refine wpAnyH_take (i := 1) (oi := ⟨some 30, _, _, _, _, _⟩) (v := ?_) rfl (by kernel_rfl) (by kernel_rfl) (by kernel_rfl) (fun _ _ _ h => h) (Or.inl ⟨by kernel_rfl, ?_⟩) (by assumption) ?_
        rotate_left
        · (intro wS hSw; (try dsimp only at hSw); (go_simp <;> with_reducible rfl))
        (try simp only [Act.put]); (try simp only [List.setIfInBounds_toArray]); (try simp only [List.set_cons_succ]); (try simp only [List.set_cons_zero])
        refine wpAnyH_take (i := 4) (oi := ⟨some 33, _, _, _, _, _⟩) (v := ?_) rfl (by kernel_rfl) (by kernel_rfl) (by kernel_rfl) (fun _ _ _ h => h) (Or.inl ⟨by kernel_rfl, ?_⟩) (by assumption) ?_
        rotate_left
        · (intro wS hSw; (try dsimp only at hSw); (go_simp <;> with_reducible rfl))
        (try simp only [Act.put]); (try simp only [List.setIfInBounds_toArray]); (try simp only [List.set_cons_succ]); (try simp only [List.set_cons_zero])
        refine wpAnyH_take (i := 5) (oi := ⟨some 34, _, _, _, _, _⟩) (v := ?_) rfl (by kernel_rfl) (by kernel_rfl) (by kernel_rfl) (fun _ _ _ h => h) (Or.inl ⟨by kernel_rfl, ?_⟩) (by assumption) ?_
        rotate_left
        · (intro wS hSw; (try dsimp only at hSw); (go_simp <;> with_reducible rfl))
        (try simp only [Act.put]); (try simp only [List.setIfInBounds_toArray]); (try simp only [List.set_cons_succ]); (try simp only [List.set_cons_zero])
        refine wpAnyH_take (i := 6) (oi := ⟨some 35, _, _, _, _, _⟩) (v := ?_) rfl (by kernel_rfl) (by kernel_rfl) (by kernel_rfl) (fun _ _ _ h => h) (Or.inl ⟨by kernel_rfl, ?_⟩) (by assumption) ?_
        rotate_left
        · (intro wS hSw; (try dsimp only at hSw); (go_simp <;> with_reducible rfl))
        (try simp only [Act.put]); (try simp only [List.setIfInBounds_toArray]); (try simp only [List.set_cons_succ]); (try simp only [List.set_cons_zero])
        refine wpAnyH_ready (rs := [2]) (by kernel_rfl) (by simp) ?_
        refine AllReadyH.cons rfl (fun K hK => ?_) AllReadyH.nil
        go_simp
        go_wp2_with (first | (go_at_call 66; (with_reducible refine (C1.out _).mono ?_); rintro r0 u0 ⟨rfl, rfl⟩))
        refine hK.out _ _ ?_ (fun hHeld2 => ?_)
        · (try dsimp only); (first | (with_reducible exact HKD.out) | go_keep)
        clear hK K hHeld
        have hHeld := hHeld2
        clear hHeld2
        refine wpAnyH_take (i := 7) (oi := ⟨some 36, _, _, _, _, _⟩) (v := ?_) rfl (by kernel_rfl) (by kernel_rfl) (by kernel_rfl) (fun _ _ _ h => h) (Or.inl ⟨by kernel_rfl, ?_⟩) (by assumption) ?_
        rotate_left
        · (intro wS hSw; (try dsimp only at hSw); (go_simp <;> with_reducible rfl))
        (try simp only [Act.put]); (try simp only [List.setIfInBounds_toArray]); (try simp only [List.set_cons_succ]); (try simp only [List.set_cons_zero])
        refine wpAnyH_take (i := 8) (oi := ⟨some 37, _, _, _, _, _⟩) (v := undef) rfl (by kernel_rfl) (by kernel_rfl) (by kernel_rfl) (fun _ _ _ h => h) (Or.inr ⟨by kernel_rfl, rfl⟩) (by assumption) ?_
        (try simp only [Act.put]); (try simp only [List.setIfInBounds_toArray]); (try simp only [List.set_cons_succ]); (try simp only [List.set_cons_zero])
        refine wpAnyH_take (i := 9) (oi := ⟨some 38, _, _, _, _, _⟩) (v := undef) rfl (by kernel_rfl) (by kernel_rfl) (by kernel_rfl) (fun _ _ _ h => h) (Or.inr ⟨by kernel_rfl, rfl⟩) (by assumption) ?_
        (try simp only [Act.put]); (try simp only [List.setIfInBounds_toArray]); (try simp only [List.set_cons_succ]); (try simp only [List.set_cons_zero])
        refine wpAnyH_take (i := 10) (oi := ⟨some 39, _, _, _, _, _⟩) (v := undef) rfl (by kernel_rfl) (by kernel_rfl) (by kernel_rfl) (fun _ _ _ h => h) (Or.inr ⟨by kernel_rfl, rfl⟩) (by assumption) ?_
        (try simp only [Act.put]); (try simp only [List.setIfInBounds_toArray]); (try simp only [List.set_cons_succ]); (try simp only [List.set_cons_zero])
        refine wpAnyH_take (i := 11) (oi := ⟨some 40, _, _, _, _, _⟩) (v := ?_) rfl (by kernel_rfl) (by kernel_rfl) (by kernel_rfl) (fun _ _ _ h => h) (Or.inl ⟨by kernel_rfl, ?_⟩) (by assumption) ?_
        rotate_left
        · (intro wS hSw; (try dsimp only at hSw); (go_simp <;> with_reducible rfl))
        (try simp only [Act.put]); (try simp only [List.setIfInBounds_toArray]); (try simp only [List.set_cons_succ]); (try simp only [List.set_cons_zero])
        refine wpAnyH_ready (rs := [3]) (by kernel_rfl) (by simp) ?_
        refine AllReadyH.cons rfl (fun K hK => ?_) AllReadyH.nil
        go_simp
        refine hK.out _ _ ?_ (fun hHeld2 => ?_)
        · (try dsimp only); (first | (with_reducible exact HKD.out) | go_keep)
        clear hK K hHeld
        have hHeld := hHeld2
        clear hHeld2
        refine wpAnyH_take (i := 12) (oi := ⟨some 41, _, _, _, _, _⟩) (v := ?_) rfl (by kernel_rfl) (by kernel_rfl) (by kernel_rfl) (fun _ _ _ h => h) (Or.inl ⟨by kernel_rfl, ?_⟩) (by assumption) ?_
        rotate_left
        · (intro wS hSw; (try dsimp only at hSw); (go_simp <;> with_reducible rfl))
        (try simp only [Act.put]); (try simp only [List.setIfInBounds_toArray]); (try simp only [List.set_cons_succ]); (try simp only [List.set_cons_zero])
        refine wpAnyH_ready (rs := [13]) (by kernel_rfl) (by simp) ?_
        refine AllReadyH.cons rfl (fun K hK => ?_) AllReadyH.nil
        go_simp
        refine hK.out _ _ ?_ (fun hHeld2 => ?_)
        · (try dsimp only); (first | (with_reducible exact HKD.out) | go_keep)
        clear hK K hHeld
        have hHeld := hHeld2
        clear hHeld2
        refine wpAnyH_take (i := 14) (oi := ⟨some 7, _, _, _, _, _⟩) (v := ?_) rfl (by kernel_rfl) (by kernel_rfl) (by kernel_rfl) (fun _ _ _ h => h) (Or.inl ⟨by kernel_rfl, ?_⟩) (by assumption) ?_
        rotate_left
        · (intro wS hSw; (try dsimp only at hSw); (go_simp <;> with_reducible rfl))
        (try simp only [Act.put]); (try simp only [List.setIfInBounds_toArray]); (try simp only [List.set_cons_succ]); (try simp only [List.set_cons_zero])
        refine wpAnyH_done (by kernel_rfl) ?_ _
        go_wp2
        go_meet
        case rel =>
          have G := HFD.out _ rfl
          rw [HBV.out] at G
          exact ⟨true, 0, e.md, e.nm, p.np.a, e.ns.length, p.np.c, ta0, e.ty.length, tc0, 4, some ⟨W0.heap.size, 0, none⟩, 1, 1, none, 0, 0, rfl, G⟩
      · have HBV : Hid (b = (e.num == 1)) := by
          show _ = _
          rw [hb, decide_eq_false hz, Bool.false_or]
          by_cases h1 : e.num = 1
          · rw [decide_eq_true h1, beq_iff_eq.2 h1]
          · rw [decide_eq_false h1, beq_eq_false_iff_ne.2 h1]
        have hq : (e.num == 0) = false := beq_eq_false_iff_ne.2 hz
        clear hf hb hx hz
        go_wp2
        go_region_held3 (fun w' => w'.cell? ⟨w.heap.size + 1, 1, none⟩ = some (.int .i64 e.num)) (first | (with_reducible exact HKD.out) | go_keep) (first | (go_at_call 66; (with_reducible refine (C1.out _).mono ?_); rintro r0 u0 ⟨rfl, rfl⟩))
        all_goals
          go_wp2
          go_meet
          case rel =>
            have G := HFD.out _ rfl
            rw [HBV.out] at G
            exact ⟨(e.num == 1), 0, e.md, e.nm, p.np.a, e.ns.length, p.np.c, ta0, e.ty.length, tc0, 4, some ⟨W0.heap.size, 0, none⟩, 1, 1, none, 0, 0, rfl, G⟩
    · have HFN : Hid (ff = none) := by show _ = _; rw [HFF.out]; exact fE_else (by rw [HOP.out]; exact ⟨o1, o2, o3, o4, o5, o6, o7, o8, o9, o10⟩)
      have c1 : (op == 1) = false := beq_eq_false_iff_ne.2 o1
      have c2 : (op == 2) = false := beq_eq_false_iff_ne.2 o2
      have c3 : (op == 3) = false := beq_eq_false_iff_ne.2 o3
      have c4 : (op == 4) = false := beq_eq_false_iff_ne.2 o4
      have c5 : (op == 5) = false := beq_eq_false_iff_ne.2 o5
      have c6 : (op == 6) = false := beq_eq_false_iff_ne.2 o6
      have c7 : (op == 7) = false := beq_eq_false_iff_ne.2 o7
      have c8 : (op == 8) = false := beq_eq_false_iff_ne.2 o8
      have c9 : (op == 9) = false := beq_eq_false_iff_ne.2 o9
      have c10 : (op == 10) = false := beq_eq_false_iff_ne.2 o10
      go_wp2
      go_meet
      case rel => exact ⟨false, e.num, e.md, e.nm, p.np.a, e.ns.length, p.np.c, ta0, e.ty.length, tc0, 4, none, 0, 0, none, 0, 0, rfl, ⟨HR.out, by omega, by rw [HFN.out]; rfl, fun f hf => by rw [HFN.out] at hf; cases hf⟩⟩
  case rest =>
    obtain ⟨ok, num', md', nm', a', n', c', b', m', d', L, ta, tn, tc, na, nn, nc, rfl, HX⟩ := hcut
    have R := HX.out.r
    have k1 : wc.cell? ⟨w.heap.size + 1, 1, none⟩ = some (.int .i64 num') := R.box.cell (i := 1) (by omega)
    have k2 : wc.cell? ⟨w.heap.size + 1, 2, none⟩ = some (.string md') := R.box.cell (i := 2) (by omega)
    have k3 : wc.cell? ⟨w.heap.size + 1, 3, none⟩ = some (.string nm') := R.box.cell (i := 3) (by omega)
    have k4 : wc.cell? ⟨w.heap.size + 1, 4, none⟩ = some (.slice a' n' c') := R.box.cell (i := 4) (by omega)
    have k5 : wc.cell? ⟨w.heap.size + 1, 5, none⟩ = some (.slice b' m' d') := R.box.cell (i := 5) (by omega)
    have f0 : wc.cell? ⟨w.heap.size + 1 + 1 + 1, 0, none⟩ = some (.int .i64 L) := R.frm.cell (i := 0) (by omega)
    have f1 : wc.cell? ⟨w.heap.size + 1 + 1 + 1, 1, none⟩ = some (.slice na nn nc) := R.frm.cell (i := 1) (by omega)
    have f2 : wc.cell? ⟨w.heap.size + 1 + 1 + 1, 2, none⟩ = some (.slice ta tn tc) := R.frm.cell (i := 2) (by omega)
    have r0 : wc.cell? ⟨w.heap.size + 1 + 1, 0, none⟩ = some (.int .i64 0) := R.res.cell (i := 0) (by omega)
    have r1 : wc.cell? ⟨w.heap.size + 1 + 1, 1, none⟩ = some (.slice none 0 0) := R.res.cell (i := 1) (by omega)
    have r2 : wc.cell? ⟨w.heap.size + 1 + 1, 2, none⟩ = some (.slice none 0 0) := R.res.cell (i := 2) (by omega)
    have t0 := R.res.frozen 0
    have t1 := R.res.frozen 1
    have t2 := R.res.frozen 2
    have HG : Hid (∀ (b : Bool), b = lft ok num' md' nm' n' m' → ∀ V : World, V = (((wc.setCell ⟨w.heap.size + 1 + 1, 0, none⟩ (.int .i64 L)).setCell ⟨w.heap.size + 1 + 1, 1, none⟩ (.slice na nn nc)).setCell ⟨w.heap.size + 1 + 1, 2, none⟩ (.slice ta tn tc)) → V.drew.rowIs (w.heap.size + 1 + 1) 97 3 (v3 (.int .i64 L) (.slice na nn nc) (.slice ta tn tc)) ∧ FmG w ff (.returned (.tuple #[.agg #[.int .i64 L, .slice na nn nc, .slice ta tn tc], .bool b])) V.drew) := fun b hb V hV => by
      have G := HX.out.r.give HX.out.n HX.out.fm (b := b) (by rw [hb, HX.out.is])
      rw [hV]
      exact ⟨G.1.drew, G.2.drew⟩
    clear R HR HX HRP
    cases ok with
    | false =>
      go_wp2
      go_region
      all_goals
        go_wp2
        have G := HG.out false (by show _ = _; unfold lft; simp) _ rfl
        exact bodyPost_ret (ex_read G.1 _ rfl rfl) rfl G.2
    | true =>
      by_cases z1 : num' = 0
      · subst z1
        by_cases z2 : md'.size = 0
        · have e2 : md' = ByteArray.empty := em_zero z2
          subst e2
          by_cases z3 : nm'.size = 0
          · have e3 : nm' = ByteArray.empty := em_zero z3
            subst e3
            by_cases z4 : n' = 0
            · subst z4
              by_cases z5 : m' = 0
              · subst z5
                go_wp2
                go_region
                all_goals
                  go_wp2
                  have G := HG.out true (by show _ = _; unfold lft; rfl) _ rfl
                  exact bodyPost_ret (ex_read G.1 _ rfl rfl) rfl G.2
              · have q5 : ((m' : Int) == 0) = false := beq_eq_false_iff_ne.2 (by omega)
                go_wp2
                go_region
                all_goals
                  go_wp2
                  have G := HG.out false (by show _ = _; unfold lft; rw [decide_eq_false z5]; simp) _ rfl
                  exact bodyPost_ret (ex_read G.1 _ rfl rfl) rfl G.2
            · have q4 : ((n' : Int) == 0) = false := beq_eq_false_iff_ne.2 (by omega)
              go_wp2
              go_region
              all_goals
                go_wp2
                have G := HG.out false (by show _ = _; unfold lft; rw [decide_eq_false z4]; simp) _ rfl
                exact bodyPost_ret (ex_read G.1 _ rfl rfl) rfl G.2
          · have q3 := em_list z3
            go_wp2
            go_region
            all_goals
              go_wp2
              have G := HG.out false (by show _ = _; unfold lft; rw [decide_eq_false z3]; simp) _ rfl
              exact bodyPost_ret (ex_read G.1 _ rfl rfl) rfl G.2
        · have q2 := em_list z2
          go_wp2
          go_region
          all_goals
            go_wp2
            have G := HG.out false (by show _ = _; unfold lft; rw [decide_eq_false z2]; simp) _ rfl
            exact bodyPost_ret (ex_read G.1 _ rfl rfl) rfl G.2
      · have q1 : (num' == 0) = false := beq_eq_false_iff_ne.2 z1
        go_wp2
        go_region
        all_goals
          go_wp2
          have G := HG.out false (by show _ = _; unfold lft; rw [decide_eq_false z1]; simp) _ rfl
          exact bodyPost_ret (ex_read G.1 _ rfl rfl) rfl G.2

end Go.Proofs.YtcehppndpccldaaDoor
