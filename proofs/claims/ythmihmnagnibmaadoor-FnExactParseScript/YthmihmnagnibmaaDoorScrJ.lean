/-
  Scripts: the law, given what the program's ParseScript gives.
-/
import Derived.Test.YthmihmnagnibmaaDoorScrI
namespace Go.Proofs.YthmihmnagnibmaaDoor
open Go.RowKit

theorem evcells_at : ∀ (l : List EV) (i j : Nat), i < l.length → j < 4 → (evcells l)[i * 4 + j]? = some (evf (l.getD i evz) j)
  | [], i, _, hi, _ => absurd hi (Nat.not_lt_zero _)
  | e :: l, 0, j, _, hj => by
    show (evc e ++ evcells l)[0 * 4 + j]? = _
    rw [List.getElem?_append_left (by show _ < 4; omega)]
    match j, hj with
    | 0, _ => rfl
    | 1, _ => rfl
    | 2, _ => rfl
    | 3, _ => rfl
  | e :: l, i + 1, j, hi, hj => by
    show (evc e ++ evcells l)[(i + 1) * 4 + j]? = _
    rw [List.getElem?_append_right (by show 4 ≤ _; omega)]
    have := evcells_at l i j (by simpa using hi) hj
    rw [show (i + 1) * 4 + j - (evc e).length = i * 4 + j by show _ - 4 = _; omega]
    exact this

theorem evs_of {w : World} {base : Nat} {v : Value} {l : List EV} (h : OwnE w base v l) (hl : l.length ≤ 1048576) :
    ∃ ao g c, v = .slice ao l.length c ∧ EvsIn w ao g l.length (fun i => l.getD i evz) ∧ (0 < l.length → base ≤ g ∧ g < w.heap.size) := by
  rcases h.2 with ⟨hv, h0⟩ | ⟨g, cap, cur, hv, hb, hh, hc, hm, hsz, ht⟩
  · exact ⟨none, 0, 0, by rw [hv, h0], ⟨fun e => absurd e (by omega), fun e => absurd e (by omega), hl⟩, fun e => absurd e (by omega)⟩
  · have hg : g < w.heap.size := by
      rcases Nat.lt_or_ge g w.heap.size with h1 | h1
      · exact h1
      · rw [Array.getElem?_eq_none h1] at hh; cases hh
    refine ⟨_, g, cap, hv, ⟨fun _ => rfl, fun h0 => ⟨cap * 4, fun i => cur[i]!, ⟨cur, hh, hsz, fun i hi => by simp [hsz, hi]⟩, Nat.mul_le_mul_right _ hc, fun i j hi hj => ?_⟩, hl⟩, fun _ => ⟨hb, hg⟩⟩
    have hlt : i * 4 + j < l.length * 4 := by omega
    have hlc : i * 4 + j < cur.size := by rw [hsz]; have := Nat.mul_le_mul_right 4 hc; omega
    have e1 := evcells_at l i j hi hj
    rw [← ht, List.getElem?_take, if_pos hlt, Array.getElem?_toList, Array.getElem?_eq_getElem hlc] at e1
    show cur[i * 4 + j]! = _
    rw [getElem!_pos cur (i * 4 + j) hlc]
    exact Option.some.inj e1

theorem EvsIn.span {w w' : World} {ao : Option Addr} {g n l : Nat} {E : Nat → EV} (h : EvsIn w ao g n E) (hs : Span l (l + 1) w w') (hne : 0 < n → g ≠ l) : EvsIn w' ao g n E :=
  ⟨h.at_, fun h0 => by
    obtain ⟨N, f, h1, h2, h3⟩ := h.row h0
    exact ⟨N, f, h1.of_block (hs.block _ h1.lt (by have := hne h0; omega)), h2, h3⟩, h.len⟩
theorem EvsIn.any {w : World} {ao : Option Addr} {g n : Nat} {E : Nat → EV} (h : EvsIn w ao g n E) (h0 : n = 0) (g' : Nat) : EvsIn w ao g' n E :=
  ⟨fun e => absurd e (by omega), fun e => absurd e (by omega), h.len⟩

theorem sc_len (s : ByteArray) (hs : s.size ≤ 1048576) : (scOf s).1.evs.length ≤ 1048576 := by
  have h0 : (scz).evs.length ≤ 1048576 := Nat.zero_le _
  have hr : ∀ wks cpy, (restOf (linesOf s) wks cpy).1.evs.length ≤ 1048576 := fun wks cpy => by
    unfold restOf
    split
    · exact h0
    · show (evsTo _ _ _).length ≤ _
      rw [evs_len]
      have := len_lines s
      omega
  unfold scOf
  split
  · exact h0
  split
  · exact h0
  split
  · exact h0
  split
  · exact h0
  split
  · exact h0
  · exact hr _ _

set_option maxRecDepth 100000 in
set_option maxHeartbeats 2000000 in
theorem l_Script (s : ByteArray) (w : World) (CI : s.size ≤ 1048576 → ∀ W, Below w.heap.size w W → Calls Tryd.prog 5 #[.string s] W fun e w' => ScPost W (scOf s) e w') (_hs : s.size ≤ 9223372036854775807) :
    Calls Tryd.prog 3 #[.string s] w fun e w' => e = .returned (.bool true) ∧ Below w.heap.size w w' := by
  by_cases hbig : 1048576 < s.size
  · clear CI
    go_enter Tryd.func3, Tryd.ntmps3
    go_wp2
    go_ret
    exact ⟨rfl, Below.refl _ _⟩
  have hs : s.size ≤ 1048576 := by omega
  have hl := sc_len s hs
  obtain ⟨wks, hwks⟩ : ∃ wks, wks = (scOf s).1.wks := ⟨_, rfl⟩
  obtain ⟨cpy, hcpy⟩ : ∃ cpy, cpy = (scOf s).1.cpy := ⟨_, rfl⟩
  obtain ⟨cd, hcd⟩ : ∃ cd, cd = (scOf s).2 := ⟨_, rfl⟩
  obtain ⟨n, hn⟩ : ∃ n, n = (scOf s).1.evs.length := ⟨_, rfl⟩
  obtain ⟨E, hE⟩ : ∃ E : Nat → EV, E = fun i => (scOf s).1.evs.getD i evz := ⟨_, rfl⟩
  have conv : ∀ (W : World) (e : Ending) (w' : World), ScPost W (scOf s) e w' → ∃ ao g c, e = .returned (.tuple #[.agg #[.int .i64 wks, .int .i64 cpy, .slice ao n c], .int .i64 cd]) ∧ Hid (EvsIn w' ao g n E ∧ (0 < n → W.heap.size ≤ g ∧ g < w'.heap.size) ∧ Below W.heap.size W w') := fun W e w' ⟨v, he, ho, hb⟩ => by
    obtain ⟨ao, g, c, hv, h1, h2⟩ := evs_of ho hl
    refine ⟨ao, g, c, ?_, ?_⟩
    · rw [he, hv, hwks, hcpy, hcd, hn]
    · rw [hn, hE]; exact ⟨h1, h2, hb⟩
  have CIH : Hid (∀ W, Below w.heap.size w W → Calls Tryd.prog 5 #[.string s] W fun e w' => ∃ ao g c, e = .returned (.tuple #[.agg #[.int .i64 wks, .int .i64 cpy, .slice ao n c], .int .i64 cd]) ∧ Hid (EvsIn w' ao g n E ∧ (0 < n → W.heap.size ≤ g ∧ g < w'.heap.size) ∧ Below W.heap.size W w')) := fun W hb => (CI hs W hb).mono (fun e w' h => conv W e w' h)
  have CSH : Hid (∀ W, Calls Tryd.prog 4 #[.string s] W fun e w' => ∃ ao g c, e = .returned (.tuple #[.agg #[.int .i64 wks, .int .i64 cpy, .slice ao n c], .int .i64 cd]) ∧ Hid (EvsIn w' ao g n E ∧ (0 < n → W.heap.size ≤ g ∧ g < w'.heap.size) ∧ Below W.heap.size W w')) := fun W => (m_parse s W hs).mono (fun e w' h => conv W e w' h)
  have hn2 : n ≤ 1048576 := by rw [hn]; exact hl
  clear conv CI hl hwks hcpy hcd hn hE
  go_enter Tryd.func3, Tryd.ntmps3
  go_wp2_with fail
  refine (CSH.out _).mono ?_
  rintro e w1 ⟨ao, g, c, rfl, H1⟩
  obtain ⟨b3, hb3⟩ : ∃ b3, b3 = w1.heap.size := ⟨_, rfl⟩
  obtain ⟨Y, hY⟩ : ∃ Y, Y = (w1.alloc (.cells #[.int .i64 wks, .int .i64 cpy, .slice ao n c] 24)) := ⟨_, rfl⟩
  have R3 : Hid (Y.rowIs b3 24 3 (t3 (.int .i64 wks) (.int .i64 cpy) (.slice ao n c))) := by rw [hY, hb3]; exact rowt3 w1 _ _ _ _
  have HY : Hid (EvsIn Y ao g n E ∧ (0 < n → g < b3) ∧ Below w.heap.size w Y) := by
    rw [hY, hb3]; exact ⟨H1.out.1.below (bel1 _ _), fun h => (H1.out.2.1 h).2, H1.out.2.2.alloc H1.out.2.2.size _⟩
  clear H1
  go_upto_region 4 with fail
  rw [← hY, ← hb3]
  clear hY hb3
  go_wp2_with fail
  refine (CIH.out _ HY.out.2.2).mono ?_
  rintro e w2 ⟨ao2, g2, c2, rfl, H2⟩
  obtain ⟨b5, hb5⟩ : ∃ b5, b5 = w2.heap.size := ⟨_, rfl⟩
  obtain ⟨Z, hZ⟩ : ∃ Z, Z = (w2.alloc (.cells #[.int .i64 wks, .int .i64 cpy, .slice ao2 n c2] 24)) := ⟨_, rfl⟩
  have R5 : Hid (Z.rowIs b5 24 3 (t3 (.int .i64 wks) (.int .i64 cpy) (.slice ao2 n c2))) := by rw [hZ, hb5]; exact rowt3 w2 _ _ _ _
  have BYZ : Hid (Below Y.heap.size Y Z) := by rw [hZ]; exact H2.out.2.2.alloc H2.out.2.2.size _
  have R3Z : Hid (Z.rowIs b3 24 3 (t3 (.int .i64 wks) (.int .i64 cpy) (.slice ao n c))) := R3.out.of_block (BYZ.out.block _ R3.out.lt)
  have HZ2 : Hid (EvsIn Z ao2 g2 n E ∧ (0 < n → Y.heap.size ≤ g2 ∧ g2 < b5)) := by
    rw [hZ, hb5]; exact ⟨H2.out.1.below (bel1 _ _), H2.out.2.1⟩
  have HZ1 : Hid (EvsIn Z ao g n E ∧ Below w.heap.size w Z) := ⟨HY.out.1.below BYZ.out, HY.out.2.2.trans (BYZ.out.mono HY.out.2.2.size)⟩
  have hord : b3 < Y.heap.size ∧ Y.heap.size ≤ b5 := ⟨R3.out.lt, by rw [hb5]; exact H2.out.2.2.size⟩
  clear H2
  go_upto_region 5 with fail
  rw [← hZ, ← hb5]
  clear hZ hb5
  obtain ⟨p0, p1, p2⟩ : Z.cell? ⟨b3, 0, none⟩ = some (.int .i64 wks) ∧ Z.cell? ⟨b3, 1, none⟩ = some (.int .i64 cpy) ∧ Z.cell? ⟨b3, 2, none⟩ = some (.slice ao n c) := ⟨R3Z.out.cell (i := 0) (by omega), R3Z.out.cell (i := 1) (by omega), R3Z.out.cell (i := 2) (by omega)⟩
  obtain ⟨q0, q1, q2⟩ : Z.cell? ⟨b5, 0, none⟩ = some (.int .i64 wks) ∧ Z.cell? ⟨b5, 1, none⟩ = some (.int .i64 cpy) ∧ Z.cell? ⟨b5, 2, none⟩ = some (.slice ao2 n c2) := ⟨R5.out.cell (i := 0) (by omega), R5.out.cell (i := 1) (by omega), R5.out.cell (i := 2) (by omega)⟩
  go_wp2_with fail
  refine (l_eqScript ao2 ao g2 c2 g c n wks cpy E _ HZ2.out.1 HZ1.out.1).mono ?_
  rintro e w4 ⟨rfl, hb4⟩
  have R3W : Hid (w4.rowIs b3 24 3 (t3 (.int .i64 wks) (.int .i64 cpy) (.slice ao n c)) ∧ w4.rowIs b5 24 3 (t3 (.int .i64 wks) (.int .i64 cpy) (.slice ao2 n c2)) ∧ Below w.heap.size w w4 ∧ EvsIn w4 ao g n E) := ⟨R3Z.out.of_block (hb4.block _ R3Z.out.lt), R5.out.of_block (hb4.block _ R5.out.lt), HZ1.out.2.trans (hb4.mono HZ1.out.2.size), HZ1.out.1.below hb4⟩
  have HGM : Hid (∃ gm, EvsIn w4 ao2 gm n E ∧ gm ≠ b3 ∧ gm ≠ b5 ∧ (0 < n → g ≠ gm) ∧ w.heap.size ≤ gm) := by
    have h2 := HZ2.out.1.below hb4
    have hw4 := R3W.out.2.2.1.size
    by_cases h0 : n = 0
    · exact ⟨w4.heap.size, h2.any h0 _, by have := R3W.out.1.lt; omega, by have := R3W.out.2.1.lt; omega, fun h => absurd h (by omega), hw4⟩
    · have h3 := HZ2.out.2 (by omega)
      have h4 := HY.out.2.1 (by omega)
      have h5 := HY.out.2.2.size
      exact ⟨g2, h2, by omega, by omega, fun _ => by omega, by omega⟩
  obtain ⟨gm, hgm⟩ := HGM.out
  have HG : Hid (EvsIn w4 ao2 gm n E ∧ gm ≠ b3 ∧ gm ≠ b5 ∧ (0 < n → g ≠ gm) ∧ w.heap.size ≤ gm) := hgm
  clear hb4 hgm HGM p0 p1 p2 q0 q1 q2 R3Z R5 HZ1 HZ2 BYZ R3 HY
  obtain ⟨q0, q1, q2⟩ : w4.cell? ⟨b5, 0, none⟩ = some (.int .i64 wks) ∧ w4.cell? ⟨b5, 1, none⟩ = some (.int .i64 cpy) ∧ w4.cell? ⟨b5, 2, none⟩ = some (.slice ao2 n c2) := ⟨R3W.out.2.1.cell (i := 0) (by omega), R3W.out.2.1.cell (i := 1) (by omega), R3W.out.2.1.cell (i := 2) (by omega)⟩
  go_wp2_with fail
  refine (l_markScript ao2 gm c2 n wks cpy E 1 _ HG.out.1 (Nat.le_refl _) (by omega)).mono ?_
  rintro e w5 ⟨rfl, h5, s5⟩
  have R5W : Hid (w5.rowIs b3 24 3 (t3 (.int .i64 wks) (.int .i64 cpy) (.slice ao n c)) ∧ w5.rowIs b5 24 3 (t3 (.int .i64 wks) (.int .i64 cpy) (.slice ao2 n c2)) ∧ Below w.heap.size w w5 ∧ EvsIn w5 ao g n E ∧ EvsIn w5 ao2 gm n (mkE 1)) := ⟨R3W.out.1.of_block (s5.block _ R3W.out.1.lt (by have := HG.out.2.1; omega)), R3W.out.2.1.of_block (s5.block _ R3W.out.2.1.lt (by have := HG.out.2.2.1; omega)), s5.toBelow R3W.out.2.2.1 HG.out.2.2.2.2 R3W.out.2.2.1.size, R3W.out.2.2.2.span s5 HG.out.2.2.2.1, h5⟩
  clear h5 s5 q0 q1 q2 R3W HG
  obtain ⟨z, hz⟩ : ∃ z : Int, z = ((1 + 4 * n : Nat) : Int) := ⟨_, rfl⟩
  rw [← hz]
  have HZZ : Hid (z = ((1 + 4 * n : Nat) : Int)) := hz
  have hz0 : ¬ z < 0 := by omega
  clear hz
  obtain ⟨q0, q1, q2⟩ : w5.cell? ⟨b5, 0, none⟩ = some (.int .i64 wks) ∧ w5.cell? ⟨b5, 1, none⟩ = some (.int .i64 cpy) ∧ w5.cell? ⟨b5, 2, none⟩ = some (.slice ao2 n c2) := ⟨R5W.out.2.1.cell (i := 0) (by omega), R5W.out.2.1.cell (i := 1) (by omega), R5W.out.2.1.cell (i := 2) (by omega)⟩
  have CH : Hid (Calls Tryd.prog 8 #[.agg #[.int .i64 wks, .int .i64 cpy, .slice ao2 n c2], .int .i64 1] w5 fun e w' => e = .returned (.int .i64 z) ∧ Below w5.heap.size w5 w') := by
    rw [HZZ.out]; exact l_heldScript ao2 gm c2 n wks cpy 1 w5 R5W.out.2.2.2.2 (Nat.le_refl _) (by omega)
  go_wp2_with fail
  refine CH.out.mono ?_
  rintro e w6 ⟨rfl, hb6⟩
  have R6 : Hid (w6.rowIs b3 24 3 (t3 (.int .i64 wks) (.int .i64 cpy) (.slice ao n c)) ∧ Below w.heap.size w w6 ∧ EvsIn w6 ao g n E) := ⟨R5W.out.1.of_block (hb6.block _ R5W.out.1.lt), R5W.out.2.2.1.trans (hb6.mono R5W.out.2.2.1.size), R5W.out.2.2.2.1.below hb6⟩
  clear hb6 q0 q1 q2 R5W CH
  go_wp2_with fail
  refine (CIH.out _ R6.out.2.1).mono ?_
  rintro e w7 ⟨ao3, g3, c3, rfl, H7⟩
  obtain ⟨b9, hb9⟩ : ∃ b9, b9 = w7.heap.size := ⟨_, rfl⟩
  obtain ⟨V, hV⟩ : ∃ V, V = (w7.alloc (.cells #[.int .i64 wks, .int .i64 cpy, .slice ao3 n c3] 24)) := ⟨_, rfl⟩
  have R9 : Hid (V.rowIs b9 24 3 (t3 (.int .i64 wks) (.int .i64 cpy) (.slice ao3 n c3))) := by rw [hV, hb9]; exact rowt3 w7 _ _ _ _
  have B6V : Hid (Below w6.heap.size w6 V) := by rw [hV]; exact H7.out.2.2.alloc H7.out.2.2.size _
  have R3V : Hid (V.rowIs b3 24 3 (t3 (.int .i64 wks) (.int .i64 cpy) (.slice ao n c)) ∧ Below w.heap.size w V ∧ EvsIn V ao g n E) := ⟨R6.out.1.of_block (B6V.out.block _ R6.out.1.lt), R6.out.2.1.trans (B6V.out.mono R6.out.2.1.size), R6.out.2.2.below B6V.out⟩
  have H9 : Hid (EvsIn V ao3 g3 n E) := by rw [hV]; exact H7.out.1.below (bel1 _ _)
  clear H7 B6V R6
  go_upto_region 16 with fail
  rw [← hV, ← hb9]
  clear hV hb9
  obtain ⟨p0, p1, p2⟩ : V.cell? ⟨b3, 0, none⟩ = some (.int .i64 wks) ∧ V.cell? ⟨b3, 1, none⟩ = some (.int .i64 cpy) ∧ V.cell? ⟨b3, 2, none⟩ = some (.slice ao n c) := ⟨R3V.out.1.cell (i := 0) (by omega), R3V.out.1.cell (i := 1) (by omega), R3V.out.1.cell (i := 2) (by omega)⟩
  obtain ⟨q0, q1, q2⟩ : V.cell? ⟨b9, 0, none⟩ = some (.int .i64 wks) ∧ V.cell? ⟨b9, 1, none⟩ = some (.int .i64 cpy) ∧ V.cell? ⟨b9, 2, none⟩ = some (.slice ao3 n c3) := ⟨R9.out.cell (i := 0) (by omega), R9.out.cell (i := 1) (by omega), R9.out.cell (i := 2) (by omega)⟩
  go_wp2_with fail
  refine (l_eqScript ao3 ao g3 c3 g c n wks cpy E _ H9.out R3V.out.2.2).mono ?_
  rintro e w8 ⟨rfl, hb8⟩
  have HF : Hid (Below w.heap.size w w8) := R3V.out.2.1.trans (hb8.mono R3V.out.2.1.size)
  clear hb8 p0 p1 p2 q0 q1 q2
  go_wp2
  go_ret
  exact ⟨rfl, HF.out⟩

end Go.Proofs.YthmihmnagnibmaaDoor
