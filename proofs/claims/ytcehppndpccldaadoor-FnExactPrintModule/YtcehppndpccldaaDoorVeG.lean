/-
  The program's braces, with names.
-/
import Derived.Test.YtcehppndpccldaaDoorMA
namespace Go.Proofs.YtcehppndpccldaaDoor
open Go.RowKit

theorem Tryd.info3 : (Tryd.prog.info? 3).map (fun i => (i.zero, i.size, i.bytes)) = some (some (.int .i64 0), 1, 8) := by kernel_rfl
theorem FmA.of_blocks {w w' : World} {f : Fm} {na ta : Option Addr} {nb tb : Nat} (h : FmA w f na ta nb tb) (h1 : w'.heap[nb]? = w.heap[nb]?) (h2 : w'.heap[tb]? = w.heap[tb]?) : FmA w' f na ta nb tb :=
  ⟨h.nAt, fun k hk => (World.cell?_of_block (a := ⟨nb, k, none⟩) h1).trans (h.need k hk), h.tAt, fun k hk => (World.cell?_of_block (a := ⟨tb, k, none⟩) h2).trans (h.text k hk)⟩
/-- The form while its texts are laid. -/
structure BrI (w : World) (lev n : Nat) (va : Option Addr) (k vc : Nat) (L : List ByteArray) (wr : World) : Prop where
  row : wr.rowIs (w.heap.size + 1 + 1) 97 3 (v3 (.int .i64 (lev : Int)) (.slice (some ⟨w.heap.size + 1, 0, none⟩) n n) (.slice va k vc))
  res : wr.rowIs w.heap.size 97 3 (v3 (.int .i64 0) (.slice none 0 0) (.slice none 0 0))
  made : wr.rowIs (w.heap.size + 1) 3 n (fun _ => .int .i64 0)
  own : wr.ownsRow (w.heap.size + 3) 9 1 (.slice va k vc) k (L.map Value.string)
  bel : Below w.heap.size w wr
theorem v3_set (a b c V : Value) : ∀ i, i < 3 → (if i = 2 then V else v3 a b c i) = v3 a b V i := fun i hi => by
  match i, hi with
  | 0, _ => rfl
  | 1, _ => rfl
  | 2, _ => rfl
theorem BrI.step {w wr w3 : World} {lev n k vc gg cap : Nat} {va : Option Addr} {L : List ByteArray} {t : ByteArray} {o : Obj} (h : BrI w lev n va k vc L wr)
    (hown : w3.ownsRow (w.heap.size + 3) 9 1 (.slice (some ⟨gg, 0, none⟩) (k + 1) cap) (k + 1) (L.map Value.string ++ [.string t])) (hg : (wr.alloc o).grownBy w3 (Value.slice va k vc).ownBlock) :
    BrI w lev n (some ⟨gg, 0, none⟩) (k + 1) cap (L ++ [t]) (w3.setCell ⟨w.heap.size + 1 + 1, 2, none⟩ (.slice (some ⟨gg, 0, none⟩) (k + 1) cap)) := by
  have ne : ∀ b, b < w.heap.size + 3 → some b ≠ (Value.slice va k vc).ownBlock := fun b hb e => by have := (h.own.lt b e.symm).1; omega
  have sz : w.heap.size + 1 + 1 < wr.heap.size := h.row.lt
  have blk : ∀ b, b < w.heap.size + 3 → w3.heap[b]? = wr.heap[b]? := fun b hb => (hg.block b (by simp; omega) (ne b hb)).trans (Below.heap_alloc _ _ _ (by omega))
  have hgg : w.heap.size + 3 ≤ gg := (hown.lt gg rfl).1
  refine ⟨((h.row.of_block (blk _ (by omega))).set 2 _).congr (v3_set _ _ _ _), (h.res.of_block (blk _ (by omega))).setOther (by show w.heap.size ≠ w.heap.size + 1 + 1; omega) _, (h.made.of_block (blk _ (by omega))).setOther (by show w.heap.size + 1 ≠ w.heap.size + 1 + 1; omega) _, ?_, ?_⟩
  · rw [List.map_append]
    refine own_block hown fun b e => Below.heap_setCell _ _ _ _ ?_
    have : gg = b := by simpa [Value.ownBlock] using e.symm
    show b ≠ w.heap.size + 1 + 1
    omega
  · have b3 : Below w.heap.size w w3 := ⟨hg.os.trans h.bel.os, hg.tape.trans h.bel.tape, hg.output.trans h.bel.output, Nat.le_trans h.bel.size (Nat.le_trans (by simp) hg.size), fun b hb => (blk b (by omega)).trans (h.bel.block b hb)⟩
    exact b3.setCell (p := ⟨w.heap.size + 1 + 1, 2, none⟩) (by show w.heap.size ≤ w.heap.size + 1 + 1; omega) _

theorem brT_get (sign : ByteArray) : ∀ (ah : ByteArray) (ns : List ByteArray), brT sign ah ns = ((List.range ns.length).map fun k => (if k = 0 then ah else xCm) ++ ns.getD k e0 ++ sign) ++ [xC]
  | _, [] => rfl
  | ah, n :: ns => by
    rw [brT, brT_get sign xCm ns, List.length_cons, List.range_succ_eq_map, List.map_cons, List.map_map]
    show _ :: _ = (_ :: _) ++ _
    rw [List.cons_append]
    congr 3
    refine funext fun k => ?_
    show (if k = 0 then xCm else xCm) ++ ns.getD k e0 ++ sign = (if k + 1 = 0 then ah else xCm) ++ (n :: ns).getD (k + 1) e0 ++ sign
    rw [if_neg (by omega : ¬ k + 1 = 0), List.getD_cons_succ]
    split <;> rfl
/-- The texts up to the name k. -/
def brL (sign : ByteArray) (ns : List ByteArray) (k : Nat) : List ByteArray := (List.range k).map fun k => (if k = 0 then xO else xCm) ++ ns.getD k e0 ++ sign
theorem brL_succ (sign : ByteArray) (ns : List ByteArray) (k : Nat) : brL sign ns (k + 1) = brL sign ns k ++ [(if k = 0 then xO else xCm) ++ ns.getD k e0 ++ sign] := by
  unfold brL
  rw [List.range_succ, List.map_append]
  rfl
theorem brL_len (sign : ByteArray) (ns : List ByteArray) (k : Nat) : (brL sign ns k).length = k := by unfold brL; rw [List.length_map, List.length_range]

set_option maxRecDepth 100000 in
set_option maxHeartbeats 2000000 in
theorem p_braces (w : World) {p : NPl} {ns : List ByteArray} (h : NsA w p ns) (hl : ns.length ≤ 1048576) (hs : ∀ k, k < ns.length → (ns.getD k e0).size ≤ 1048576) (hc : ns.length ≤ p.c) (sign : ByteArray) (hsg : sign.size ≤ 3) (lev : Nat) :
    Calls Tryd.prog 63 #[.slice p.a ns.length p.c, .string sign, .int .i64 (lev : Int)] w (FmR w (brc ns sign lev)) := by
  by_cases hz : ns.length = 0
  · have e : ns = [] := List.eq_nil_of_length_eq_zero hz
    subst e
    exact p_braces_nil w p.a p.c sign lev
  obtain ⟨n, hn⟩ : ∃ n, n = ns.length := ⟨_, rfl⟩
  have HF : Hid (brc ns sign lev = ⟨lev, List.replicate n 0, brL sign ns n ++ [xC]⟩) := by
    show _ = _
    unfold brc
    rw [if_neg hz, brT_get, hn]
    rfl
  have HC : Hid (∀ W, Below w.heap.size w W → ∀ k, k < n → p.a = some ⟨p.b, 0, none⟩ ∧ W.cell? ⟨p.b, k, none⟩ = some (.string (ns.getD k e0)) ∧ (ns.getD k e0).size ≤ 1048576) := fun W hb k hk => ⟨h.at_ (by omega), (h.below hb).cell k (by omega), hs k (by omega)⟩
  rw [← hn] at hz hl hc ⊢
  have hni : ¬ (n : Int) = 0 := by omega
  have hmk := run_make_row' (P := Tryd.prog) 71 3 (.int .i64 0) 8 Tryd.underlying71 Tryd.info3 rfl .i64 .i64 n (by omega) (by omega)
  obtain ⟨i0, hi0, hz0, hz1, hz2⟩ := info_parts Tryd.info9
  obtain ⟨W1, hW1⟩ : ∃ W1, W1 = w.alloc (.cells #[.int .i64 0, .slice none 0 0, .slice none 0 0] 97) := ⟨_, rfl⟩
  obtain ⟨W2, hW2⟩ : ∃ W2, W2 = W1.alloc (.cells (madeCells #[.int .i64 0] n) 3) := ⟨_, rfl⟩
  obtain ⟨W3, hW3⟩ : ∃ W3, W3 = W2.alloc (.cells #[.int .i64 (lev : Int), .slice (some ⟨w.heap.size + 1, 0, none⟩) n n, .slice none 0 0] 97) := ⟨_, rfl⟩
  have z1 : W1.heap.size = w.heap.size + 1 := by rw [hW1]; simp
  have z2 : W2.heap.size = w.heap.size + 1 + 1 := by rw [hW2, World.size_alloc, z1]
  have z3 : W3.heap.size = w.heap.size + 3 := by rw [hW3]; simp [z2]
  have HI : Hid (BrI w lev n none 0 0 [] W3) := by
    refine ⟨?_, ?_, ?_, ⟨rfl, .inl ⟨rfl, rfl⟩⟩, ?_⟩
    · have := row3 W2 (.int .i64 (lev : Int)) (.slice (some ⟨w.heap.size + 1, 0, none⟩) n n) (.slice none 0 0) 97
      rw [← hW3, z2] at this
      exact this
    · have := ((row3 w (.int .i64 0) (.slice none 0 0) (.slice none 0 0) 97).alloc (.cells (madeCells #[.int .i64 0] n) 3))
      rw [← hW1, ← hW2] at this
      rw [hW3]
      exact this.alloc _
    · have := World.rowIs_made W1 (.int .i64 0) n 3
      rw [← hW2, z1] at this
      rw [hW3]
      exact this.alloc _
    · rw [hW3, hW2, hW1]
      exact (bel2 w _ _).alloc (by simp; omega) _
  clear h hs hn
  go_enter Tryd.func63, Tryd.ntmps63
  go_wp2
  rw [← hW1]
  rw [← hW2]
  rw [← hW3]
  have hnb : ((n : Int) == 0) = false := beq_eq_false_iff_ne.2 hni
  rw [hnb]
  clear hnb
  clear hW1 hW2 hW3 hmk z1 z2 z3 W1 W2
  go_loopw [24, 8] (fun i s wr => ∃ (k vc : Nat) (va : Option Addr) (ah : ByteArray), k ≤ n ∧ i = .int .i64 k ∧ s = .string ah ∧ Hid (ah = if k = 0 then xO else xCm) ∧ Hid (BrI w lev n va k vc (brL sign ns k) wr)) (fun i _ _ => n - (intOf i).toNat)
  case atStart => exact ⟨0, 0, none, xO, Nat.zero_le _, rfl, rfl, rfl, HI⟩
  case round =>
    clear HI
    obtain ⟨k, vc, va, ah, hk, rfl, rfl, HAH, HB⟩ := hrel
    have RB := HB.out.row
    have y2 : wr.cell? ⟨w.heap.size + 1 + 1, 2, none⟩ = some (.slice va k vc) := RB.cell (i := 2) (by omega)
    have OWN := HB.out.own
    have hbs : w.heap.size + 3 ≤ wr.heap.size := RB.lt
    have n1 : some (w.heap.size + 1 + 1) ≠ (Value.slice va k vc).ownBlock := fun e => by have := (OWN.lt _ e.symm).1; omega
    by_cases hlt : k < n
    · obtain ⟨ea, y0, sx⟩ := HC.out wr HB.out.bel k hlt
      obtain ⟨x, hx⟩ : ∃ x, x = ns.getD k e0 := ⟨_, rfl⟩
      rw [← hx] at y0 sx
      have HL : Hid (brL sign ns (k + 1) = brL sign ns k ++ [(ah ++ x) ++ sign]) := by show _ = _; rw [brL_succ, HAH.out, hx]
      have ha2 : ah.size ≤ 2 := by rw [HAH.out]; split <;> decide
      have c1 := fun W => run_string_add_sum (P := Tryd.prog) (w := W) ah x (by omega)
      have c2 := fun W => run_string_add_sum (P := Tryd.prog) (w := W) (ah ++ x) sign (by rw [ByteArray.size_append]; omega)
      have d1' := (RB.alloc (.cells #[.string ((ah ++ x) ++ sign)] 9)).cell (i := 2) (by omega)
      have d2' := (RB.alloc (.cells #[.string ((ah ++ x) ++ sign)] 9)).frozen 2
      have hkl : (k : Int) < (n : Int) := by omega
      have hk0 : (0 : Int) ≤ (k : Int) := by omega
      rw [ea]
      clear hx ea RB
      go_wp2_with (first | (at_builtin; refine wpList_append_lies _ rfl _ _ 64 rfl (w.heap.size + 3) 9 i0 (.string ByteArray.empty) 1 16 Tryd.underlying64 hi0 hz0 hz1 hz2 rfl (by omega) (.slice va k vc) k ((brL sign ns k).map Value.string) rfl (OWN.alloc _) ⟨wr.heap.size, 0, none⟩ 1 1 [.string ((ah ++ x) ++ sign)] rfl rfl (cell_one_new _ _ _) (by simp [Value.oneCell']) (by omega) (by unfold maxLen; omega) (by omega) (by simp; omega) (wr.heap.size + 1) (by simp) ?_; intro gg cap3 w3 hown3 hg3 hat hlt3; have f1 : w3.cell? ⟨w.heap.size + 1 + 1, 2, none⟩ = some (.slice va k vc) := (hg3.cell_far ⟨w.heap.size + 1 + 1, 2, none⟩ (by simp; omega) n1).trans d1'; have f2 : w3.frozen? ⟨w.heap.size + 1 + 1, 2, none⟩ = false := (hg3.frozen_far ⟨w.heap.size + 1 + 1, 2, none⟩ (by simp; omega) n1).trans d2'))
      have FIN : Hid (BrI w lev n (some ⟨gg, 0, none⟩) (k + 1) cap3 (brL sign ns (k + 1)) (w3.setCell ⟨w.heap.size + 1 + 1, 2, none⟩ (.slice (some ⟨gg, 0, none⟩) (k + 1) cap3))) := by
        show BrI _ _ _ _ _ _ _ _
        rw [HL.out]
        exact HB.out.step hown3 hg3
      clear hown3 hg3 hat OWN d1' d2' c1 c2 y0 y2 n1
      go_wp2
      go_roundw
      case rel =>
        exact ⟨k + 1, cap3, some ⟨gg, 0, none⟩, xCm, by omega, by go_num, rfl, by show xCm = _; rw [if_neg (by omega)], FIN⟩
      case measure => simp [intOf]; omega
    · have hkn : k = n := by omega
      subst hkn
      have HRB : Hid (wr.rowIs (w.heap.size + 1 + 1) 97 3 (v3 (.int .i64 (lev : Int)) (.slice (some ⟨w.heap.size + 1, 0, none⟩) k k) (.slice va k vc))) := RB
      have HRS : Hid (wr.rowIs w.heap.size 97 3 (v3 (.int .i64 0) (.slice none 0 0) (.slice none 0 0))) := HB.out.res
      have n0 : some w.heap.size ≠ (Value.slice va k vc).ownBlock := fun e => by have := (OWN.lt _ e.symm).1; omega
      have HQ : Hid (∀ (w3 : World) (o : Obj), (wr.alloc o).grownBy w3 (Value.slice va k vc).ownBlock → w3.rowIs (w.heap.size + 1 + 1) 97 3 (v3 (.int .i64 (lev : Int)) (.slice (some ⟨w.heap.size + 1, 0, none⟩) k k) (.slice va k vc)) ∧ w3.rowIs w.heap.size 97 3 (v3 (.int .i64 0) (.slice none 0 0) (.slice none 0 0))) := fun w3 o hg =>
        ⟨(HRB.out.alloc o).of_block (hg.block _ (by simp; omega) n1), (HRS.out.alloc o).of_block (hg.block _ (by simp; omega) n0)⟩
      have hkl : ¬ (k : Int) < (k : Int) := by omega
      clear RB
      go_wp2_with (first | (at_builtin; refine wpList_append_lies _ rfl _ _ 64 rfl (w.heap.size + 3) 9 i0 (.string ByteArray.empty) 1 16 Tryd.underlying64 hi0 hz0 hz1 hz2 rfl (by omega) (.slice va k vc) k ((brL sign ns k).map Value.string) rfl (OWN.alloc _) ⟨wr.heap.size, 0, none⟩ 1 1 [.string ⟨#[125]⟩] rfl rfl (cell_one_new _ _ _) (by simp [Value.oneCell']) (by omega) (by unfold maxLen; omega) (by omega) (by simp; omega) (wr.heap.size + 1) (by simp) ?_; intro gg cap3 w3 hown3 hg3 hat hlt3; obtain ⟨RF, RR⟩ := HQ.out w3 _ hg3; have f0 : w3.cell? ⟨w.heap.size + 1 + 1, 0, none⟩ = some (.int .i64 (lev : Int)) := RF.cell (i := 0) (by omega); have f1 : w3.cell? ⟨w.heap.size + 1 + 1, 1, none⟩ = some (.slice (some ⟨w.heap.size + 1, 0, none⟩) k k) := RF.cell (i := 1) (by omega); have f2 : w3.cell? ⟨w.heap.size + 1 + 1, 2, none⟩ = some (.slice va k vc) := RF.cell (i := 2) (by omega); have e2 := RF.frozen 2; have r0 := RR.cell (i := 0) (by omega); have r1 := RR.cell (i := 1) (by omega); have r2 := RR.cell (i := 2) (by omega); have t0 := RR.frozen 0; have t1 := RR.frozen 1; have t2 := RR.frozen 2; clear RF RR))
      have FIN := HB.out.step (t := xC) hown3 hg3
      obtain ⟨w4, hw4⟩ : ∃ w4, w4 = w3.setCell ⟨w.heap.size + 1 + 1, 2, none⟩ (.slice (some ⟨gg, 0, none⟩) (k + 1) cap3) := ⟨_, rfl⟩
      rw [← hw4] at FIN ⊢
      have q : w.heap.size ≤ w.heap.size := Nat.le_refl _
      have RZ := ((FIN.res.set 0 (.int .i64 (lev : Int))).set 1 (.slice (some ⟨w.heap.size + 1, 0, none⟩) k k)).set 2 (.slice (some ⟨gg, 0, none⟩) (k + 1) cap3)
      have RY := RZ.congr (g := v3 (.int .i64 (lev : Int)) (.slice (some ⟨w.heap.size + 1, 0, none⟩) k k) (.slice (some ⟨gg, 0, none⟩) (k + 1) cap3)) (fun i hi => by
        match i, hi with
        | 0, _ => rfl
        | 1, _ => rfl
        | 2, _ => rfl)
      refine bodyPost_ret (br_read RY _ rfl) rfl ?_
      have hgg : w.heap.size + 3 ≤ gg := (FIN.own.lt gg rfl).1
      have blk : ∀ (b : Nat) (x y z : Value), b ≠ w.heap.size → (((w4.setCell ⟨w.heap.size, 0, none⟩ x).setCell ⟨w.heap.size, 1, none⟩ y).setCell ⟨w.heap.size, 2, none⟩ z).heap[b]? = w4.heap[b]? := fun b x y z hb => by
        have ne : ∀ j, b ≠ (⟨w.heap.size, j, none⟩ : Addr).block := fun j => hb
        rw [Below.heap_setCell _ _ _ _ (ne 2), Below.heap_setCell _ _ _ _ (ne 1), Below.heap_setCell _ _ _ _ (ne 0)]
      have ln : (brL sign ns k ++ [xC]).length = k + 1 := by rw [List.length_append, brL_len]; rfl
      unfold FmR
      rw [HF.out]
      refine ⟨some ⟨w.heap.size + 1, 0, none⟩, some ⟨gg, 0, none⟩, w.heap.size + 1, gg, k, cap3, ?_, FmA.of_blocks (w := w4) ⟨fun _ => rfl, fun j hj => ?_, fun _ => rfl, fun j hj => ?_⟩ (blk _ _ _ _ (by omega)) (blk _ _ _ _ (by omega)), ?_, ?_, by omega, by omega, ?_⟩
      · unfold fmV
        rw [List.length_replicate, ln]
      · have hj2 : j < k := by rw [← List.length_replicate (n := k) (a := (0 : Nat))]; exact hj
        rw [FIN.made.cell hj2, List.getElem_replicate]
        rfl
      · have hj2 : j < k + 1 := by rw [← ln]; exact hj
        rw [FIN.own.cellAt j (by omega), List.getElem?_map, List.getElem?_eq_getElem hj]
        rfl
      · rw [List.length_replicate]; exact Nat.le_refl _
      · rw [ln]
        rcases FIN.own.2 with ⟨h1, _⟩ | ⟨_, _, _, h1, _, _, h3, _⟩
        · cases h1
        · cases h1
          exact h3
      · exact ((FIN.bel.setCell (p := ⟨w.heap.size, 0, none⟩) q _).setCell (p := ⟨w.heap.size, 1, none⟩) q _).setCell (p := ⟨w.heap.size, 2, none⟩) q _

end Go.Proofs.YtcehppndpccldaaDoor
