/-
  The atoms of expressions.
-/
import Derived.Test.YtdjkgilohhjfoaaGreatDoorPdD
namespace Go.Proofs.YtdjkgilohhjfoaaGreatDoor
open Go.RowKit

set_option maxRecDepth 100000 in
set_option maxHeartbeats 2000000 in
theorem atom_name {B P tb o : Nat} {ts : List TK} {eT : TypeId} {eV : Value} {f : Nat} (hP : P < B) (htb : tb < B) {i : Nat} {w : World} {v : Value} {xs : List (EI × EPl)} (hps : PsAt w P tb o i ts eT eV) (hot : OE B w v xs) (hxi : xs.length ≤ i) (hB : B ≤ w.heap.size) (hc : isC ts i 1 = true) :
    Calls Tryz.prog 91 #[.pointer (some ⟨P, 0, none⟩), v] w (ExR B P tb o ts eT eV w v xs (atomP true ts (exP true ts f) i)) := by
  have hi := isC_lt hc
  have HC : Hid (isC ts i 1 = true) := hc
  rw [isC_at hi] at hc
  have HP : Hid (PsAt w P tb o i ts eT eV) := hps
  obtain ⟨va, vc, rfl⟩ := own_form hot.own
  have HO : Hid (OE B w (.slice va xs.length vc) xs) := hot
  have hn := hps.tk.len
  have hl9 := hps.le
  have hgd := hps.tk.gd
  clear hps hot
  obtain ⟨W2, hW2⟩ : ∃ W2, W2 = (w.alloc (.cells #[.pointer (some ⟨P, 0, none⟩)] 98)).alloc (.cells #[.slice va xs.length vc] 56) := ⟨_, rfl⟩
  have HB2 : Hid (But [] w W2) := by show But [] w W2; rw [hW2]; exact ((But.refl _ _).alloc _).alloc _
  have RQ : W2.rowIs w.heap.size 98 1 (fun _ => .pointer (some ⟨P, 0, none⟩)) := by rw [hW2]; exact (row1 _ _ _).alloc _
  have RX : W2.rowIs (w.heap.size + 1) 56 1 (fun _ => .slice va xs.length vc) := by
    have := row1 (w.alloc (.cells #[.pointer (some ⟨P, 0, none⟩)] 98)) (.slice va xs.length vc) 56
    simp only [World.size_alloc] at this
    rw [hW2]; exact this
  obtain ⟨i0, hi0, hz0, hz1, hz2⟩ := info_parts Tryz.infoEI
  go_enter Tryz.func91, Tryz.ntmps91
  go_wp2_with fail
  rw [← hW2]
  clear hW2
  refine (p_next W2 (HP.out.but HB2.out (by simp) (by simp) (by simp)) hi).mono ?_
  rintro e w1 ⟨rfl, h1, b1⟩
  unfold tkV
  obtain ⟨k0, hk0⟩ : ∃ k, k = (tkA ts i).cls := ⟨_, rfl⟩
  obtain ⟨k1, hk1⟩ : ∃ k, k = (tkA ts i).txt := ⟨_, rfl⟩
  obtain ⟨k2, hk2⟩ : ∃ k, k = ((tkA ts i).loc : Int) := ⟨_, rfl⟩
  have HK1 : Hid (tx ts i = k1) := by show _ = _; rw [hk1, tx_at hi]
  have HGD : Hid (k0 = cls k1.toList) := by show _ = _; rw [hk0, hk1]; exact hgd i hi
  rw [← hk0] at hc
  rw [← hk0, ← hk1, ← hk2]
  clear hk0 hk1 hk2 hgd
  have HB3 : Hid (But [P] w (w1.alloc (.cells #[.int .i64 k0, .string k1, .int .i64 k2] 89))) := ((HB2.out.more (S' := [P]) (fun _ z => by simp at z)).then_ b1).alloc _
  have RQ3 := (RQ.of_block (b1.block _ RQ.lt (by simp; omega))).alloc (.cells #[.int .i64 k0, .string k1, .int .i64 k2] 89)
  have RX3 := (RX.of_block (b1.block _ RX.lt (by simp; omega))).alloc (.cells #[.int .i64 k0, .string k1, .int .i64 k2] 89)
  have HP3 : Hid (PsAt (w1.alloc (.cells #[.int .i64 k0, .string k1, .int .i64 k2] 89)) P tb o (i + 1) ts eT eV) := h1.but ((But.refl ([] : List Nat) w1).alloc _) (by simp) (by simp) (by simp)
  have HO3 : Hid (OE B (w1.alloc (.cells #[.int .i64 k0, .string k1, .int .i64 k2] 89)) (.slice va xs.length vc) xs) := HO.out.low HB3.out (fun b z => by rw [List.mem_singleton.1 z]; exact Or.inl hP)
  have cq := RQ3.cell (i := 0) (by omega)
  have cx := RX3.cell (i := 0) (by omega)
  have ce := HP3.out.ev
  have hs1 : w.heap.size ≤ w1.heap.size := Nat.le_trans HB2.out.size b1.size
  clear h1 b1 RQ RX HP HB2
  have qc : k0 = 1 := by simpa using hc
  subst qc
  clear hc HGD
  go_wp2_with fail
  obtain ⟨W3, hW3⟩ : ∃ W3, W3 = w1.alloc (.cells #[.int .i64 1, .string k1, .int .i64 k2] 89) := ⟨_, rfl⟩
  rw [← hW3] at HB3 RQ3 RX3 HP3 HO3 cq cx ce ⊢
  clear hW3
  have CP := p_path (i := i) W3 HP3.out
  rw [HK1.out] at CP
  refine CP.mono ?_
  clear CP
  cases hp : pathP true ts i with
  | none =>
    have HR : Hid (atomP true ts (exP true ts f) i = none) := by show _ = _; unfold atomP; rw [if_pos HC.out, hp]
    rintro e w4 ⟨b4, rfl⟩
    clear hp
    go_wp2
    exact ⟨rfl, by rw [HR.out]; exact ⟨(HB3.out.then_ b4).more (fun k z => by rw [List.mem_singleton.1 z]; simp), rfl⟩⟩
  | some r =>
    obtain ⟨m, nn, j⟩ := r
    have HR : Hid (atomP true ts (exP true ts f) i = some ([⟨3, 0, m, nn, [], []⟩], j)) := by show _ = _; unfold atomP; rw [if_pos HC.out, hp]
    rintro e w4 ⟨b4, rfl, h4⟩
    clear hp
    have RX4 := RX3.of_block (b4.block _ RX3.lt (by simp; omega))
    have cx4 := RX4.cell (i := 0) (by omega)
    have HO4 : Hid (OE B w4 (.slice va xs.length vc) xs) := HO3.out.low b4 (fun b z => by rw [List.mem_singleton.1 z]; exact Or.inl hP)
    have HB4 : Hid (But (P :: (Value.slice va xs.length vc).ownBlock.toList) w w4) := (HB3.out.then_ b4).more (fun k z => by rw [List.mem_singleton.1 z]; simp)
    have HP4 : Hid (PsAt w4 P tb o j ts eT eV) := h4
    have hs4 := HB4.out.size
    clear b4 h4 RX4 RX3 RQ3 cq cx ce
    go_wp2_with (first | (at_builtin; refine wpList_append_lies _ rfl _ _ 56 rfl B 123 i0 _ 6 96 Tryz.underlying56 hi0 hz0 hz1 hz2 rfl (by omega) (.slice va xs.length vc) (xs.length) (eisC xs) rfl (HO4.out.own.alloc _) ⟨w4.heap.size, 0, none⟩ 1 1 [.int .i64 3, .int .i64 0, .string m, .string nn, .slice none 0 0, .slice none 0 0] rfl rfl (World.news_of_block (cs := #[.int .i64 3, .int .i64 0, .string m, .string nn, .slice none 0 0, .slice none 0 0]) (t := 123) (fr := (0, 0)) (heap_alloc_new w4 _)) (by simp [Value.oneCell']) (by omega) (by unfold maxLen; omega) (by omega) (by simp; omega) (w4.heap.size + 1) (by simp) ?_; intro gg cap3 w5 hown3 hg3 hat3 hlt3))
    have FIN : Hid (ExR B P tb o ts eT eV w (.slice va xs.length vc) xs (some ([⟨3, 0, m, nn, [], []⟩], j)) (.returned (.slice (some ⟨gg, 0, none⟩) (xs.length + 1) cap3)) w5) := by
      have nb := ei_bare B w4 (x := ⟨3, 0, m, nn, [], []⟩) rfl rfl
      have z := ex_end (ys := []) (x := (⟨3, 0, m, nn, [], []⟩, ep0)) hP htb (v := .slice va xs.length vc) (by rw [List.append_nil]; exact HO4.out) HP4.out HB4.out (fun b e => Or.inl e) (by rw [List.append_nil]; exact hown3) hg3 hat3 nb.1 (fun b hb => by rw [nb.2] at hb; cases hb) (by rw [nb.2]; exact List.nodup_nil) (fun b hb => by cases hb) (fun b hb => by rw [nb.2] at hb; cases hb)
      rw [List.append_nil] at z
      exact z
    clear hown3 hg3 hat3
    go_wp2
    go_ret
    rw [HR.out]
    exact FIN.out

set_option maxRecDepth 100000 in
set_option maxHeartbeats 2000000 in
theorem atom_true {B P tb o : Nat} {ts : List TK} {eT : TypeId} {eV : Value} {f : Nat} (hP : P < B) (htb : tb < B) {i : Nat} {w : World} {v : Value} {xs : List (EI × EPl)} (hps : PsAt w P tb o i ts eT eV) (hot : OE B w v xs) (hxi : xs.length ≤ i) (hB : B ≤ w.heap.size) (hc : isC ts i 1 = false) (h3 : isC ts i 3 = false) (hs : isT ts i sTrue = true) :
    Calls Tryz.prog 91 #[.pointer (some ⟨P, 0, none⟩), v] w (ExR B P tb o ts eT eV w v xs (atomP true ts (exP true ts f) i)) := by
  have hi := isT_lt hs
  have HR : Hid (atomP true ts (exP true ts f) i = some ([⟨2, 1, e0, e0, [], []⟩], i + 1)) := by
    show _ = _
    unfold atomP
    rw [hc, if_neg (by decide), h3, if_neg (by decide)]
    rw [if_pos hs]
  have q0 : ((tkA ts i).txt.toList == [116, 114, 117, 101]) = true := text_yes hs
  rw [isC_at hi] at hc h3
  clear hs
  have HP : Hid (PsAt w P tb o i ts eT eV) := hps
  obtain ⟨va, vc, rfl⟩ := own_form hot.own
  have HO : Hid (OE B w (.slice va xs.length vc) xs) := hot
  have hn := hps.tk.len
  have hl9 := hps.le
  have hgd := hps.tk.gd
  clear hps hot
  obtain ⟨W2, hW2⟩ : ∃ W2, W2 = (w.alloc (.cells #[.pointer (some ⟨P, 0, none⟩)] 98)).alloc (.cells #[.slice va xs.length vc] 56) := ⟨_, rfl⟩
  have HB2 : Hid (But [] w W2) := by show But [] w W2; rw [hW2]; exact ((But.refl _ _).alloc _).alloc _
  have RQ : W2.rowIs w.heap.size 98 1 (fun _ => .pointer (some ⟨P, 0, none⟩)) := by rw [hW2]; exact (row1 _ _ _).alloc _
  have RX : W2.rowIs (w.heap.size + 1) 56 1 (fun _ => .slice va xs.length vc) := by
    have := row1 (w.alloc (.cells #[.pointer (some ⟨P, 0, none⟩)] 98)) (.slice va xs.length vc) 56
    simp only [World.size_alloc] at this
    rw [hW2]; exact this
  obtain ⟨i0, hi0, hz0, hz1, hz2⟩ := info_parts Tryz.infoEI
  go_enter Tryz.func91, Tryz.ntmps91
  go_wp2_with fail
  rw [← hW2]
  clear hW2
  refine (p_next W2 (HP.out.but HB2.out (by simp) (by simp) (by simp)) hi).mono ?_
  rintro e w1 ⟨rfl, h1, b1⟩
  unfold tkV
  obtain ⟨k0, hk0⟩ : ∃ k, k = (tkA ts i).cls := ⟨_, rfl⟩
  obtain ⟨k1, hk1⟩ : ∃ k, k = (tkA ts i).txt := ⟨_, rfl⟩
  obtain ⟨k2, hk2⟩ : ∃ k, k = ((tkA ts i).loc : Int) := ⟨_, rfl⟩
  have HK1 : Hid (tx ts i = k1) := by show _ = _; rw [hk1, tx_at hi]
  have HGD : Hid (k0 = cls k1.toList) := by show _ = _; rw [hk0, hk1]; exact hgd i hi
  rw [← hk0] at hc h3
  rw [← hk1] at q0
  rw [← hk0, ← hk1, ← hk2]
  clear hk0 hk1 hk2 hgd
  have HB3 : Hid (But [P] w (w1.alloc (.cells #[.int .i64 k0, .string k1, .int .i64 k2] 89))) := ((HB2.out.more (S' := [P]) (fun _ z => by simp at z)).then_ b1).alloc _
  have RQ3 := (RQ.of_block (b1.block _ RQ.lt (by simp; omega))).alloc (.cells #[.int .i64 k0, .string k1, .int .i64 k2] 89)
  have RX3 := (RX.of_block (b1.block _ RX.lt (by simp; omega))).alloc (.cells #[.int .i64 k0, .string k1, .int .i64 k2] 89)
  have HP3 : Hid (PsAt (w1.alloc (.cells #[.int .i64 k0, .string k1, .int .i64 k2] 89)) P tb o (i + 1) ts eT eV) := h1.but ((But.refl ([] : List Nat) w1).alloc _) (by simp) (by simp) (by simp)
  have HO3 : Hid (OE B (w1.alloc (.cells #[.int .i64 k0, .string k1, .int .i64 k2] 89)) (.slice va xs.length vc) xs) := HO.out.low HB3.out (fun b z => by rw [List.mem_singleton.1 z]; exact Or.inl hP)
  have cq := RQ3.cell (i := 0) (by omega)
  have cx := RX3.cell (i := 0) (by omega)
  have ce := HP3.out.ev
  have hs1 : w.heap.size ≤ w1.heap.size := Nat.le_trans HB2.out.size b1.size
  clear h1 b1 RQ RX HP HB2
  clear HGD
  go_wp2_with (first | (at_builtin; refine wpList_append_lies _ rfl _ _ 56 rfl B 123 i0 _ 6 96 Tryz.underlying56 hi0 hz0 hz1 hz2 rfl (by omega) (.slice va xs.length vc) (xs.length) (eisC xs) rfl (HO3.out.own.alloc _) ⟨w1.heap.size + 1, 0, none⟩ 1 1 [.int .i64 2, .int .i64 1, .string ⟨#[]⟩, .string ⟨#[]⟩, .slice none 0 0, .slice none 0 0] rfl rfl (World.news_of_block (cs := #[.int .i64 2, .int .i64 1, .string ⟨#[]⟩, .string ⟨#[]⟩, .slice none 0 0, .slice none 0 0]) (t := 123) (fr := (0, 0)) (by have := heap_alloc_new (w1.alloc (.cells #[.int .i64 k0, .string k1, .int .i64 k2] 89)) (.cells #[.int .i64 2, .int .i64 1, .string ⟨#[]⟩, .string ⟨#[]⟩, .slice none 0 0, .slice none 0 0] 123); simpa using this)) (by simp [Value.oneCell']) (by omega) (by unfold maxLen; omega) (by omega) (by simp; omega) (w1.heap.size + 1 + 1) (by simp) ?_; intro gg cap3 w5 hown3 hg3 hat3 hlt3))
  have FIN : Hid (ExR B P tb o ts eT eV w (.slice va xs.length vc) xs (some ([⟨2, 1, e0, e0, [], []⟩], i + 1)) (.returned (.slice (some ⟨gg, 0, none⟩) (xs.length + 1) cap3)) w5) := by
    have nb := ei_bare B (w1.alloc (.cells #[.int .i64 k0, .string k1, .int .i64 k2] 89)) (x := ⟨2, 1, e0, e0, [], []⟩) rfl rfl
    have z := ex_end (ys := []) (x := (⟨2, 1, e0, e0, [], []⟩, ep0)) hP htb (v := .slice va xs.length vc) (by rw [List.append_nil]; exact HO3.out) HP3.out (HB3.out.more (fun k z => by rw [List.mem_singleton.1 z]; simp)) (fun b e => Or.inl e) (by rw [List.append_nil]; exact hown3) hg3 (by simpa using hat3) nb.1 (fun b hb => by rw [nb.2] at hb; cases hb) (by rw [nb.2]; exact List.nodup_nil) (fun b hb => by cases hb) (fun b hb => by rw [nb.2] at hb; cases hb)
    rw [List.append_nil] at z
    exact z
  clear hown3 hg3 hat3
  go_wp2
  go_ret
  rw [HR.out]
  exact FIN.out

set_option maxRecDepth 100000 in
set_option maxHeartbeats 2000000 in
theorem atom_false {B P tb o : Nat} {ts : List TK} {eT : TypeId} {eV : Value} {f : Nat} (hP : P < B) (htb : tb < B) {i : Nat} {w : World} {v : Value} {xs : List (EI × EPl)} (hps : PsAt w P tb o i ts eT eV) (hot : OE B w v xs) (hxi : xs.length ≤ i) (hB : B ≤ w.heap.size) (hc : isC ts i 1 = false) (h3 : isC ts i 3 = false) (hs : isT ts i sFalse = true) :
    Calls Tryz.prog 91 #[.pointer (some ⟨P, 0, none⟩), v] w (ExR B P tb o ts eT eV w v xs (atomP true ts (exP true ts f) i)) := by
  have hi := isT_lt hs
  have HR : Hid (atomP true ts (exP true ts f) i = some ([exO 2], i + 1)) := by
    show _ = _
    unfold atomP
    rw [hc, if_neg (by decide), h3, if_neg (by decide)]
    rw [isT_one hs (s' := sTrue) (by decide), if_neg (by decide)]
    rw [if_pos hs]
  have q0 : ((tkA ts i).txt.toList == [116, 114, 117, 101]) = false := text_not hs _ (by decide)
  have q1 : ((tkA ts i).txt.toList == [102, 97, 108, 115, 101]) = true := text_yes hs
  rw [isC_at hi] at hc h3
  clear hs
  have HP : Hid (PsAt w P tb o i ts eT eV) := hps
  obtain ⟨va, vc, rfl⟩ := own_form hot.own
  have HO : Hid (OE B w (.slice va xs.length vc) xs) := hot
  have hn := hps.tk.len
  have hl9 := hps.le
  have hgd := hps.tk.gd
  clear hps hot
  obtain ⟨W2, hW2⟩ : ∃ W2, W2 = (w.alloc (.cells #[.pointer (some ⟨P, 0, none⟩)] 98)).alloc (.cells #[.slice va xs.length vc] 56) := ⟨_, rfl⟩
  have HB2 : Hid (But [] w W2) := by show But [] w W2; rw [hW2]; exact ((But.refl _ _).alloc _).alloc _
  have RQ : W2.rowIs w.heap.size 98 1 (fun _ => .pointer (some ⟨P, 0, none⟩)) := by rw [hW2]; exact (row1 _ _ _).alloc _
  have RX : W2.rowIs (w.heap.size + 1) 56 1 (fun _ => .slice va xs.length vc) := by
    have := row1 (w.alloc (.cells #[.pointer (some ⟨P, 0, none⟩)] 98)) (.slice va xs.length vc) 56
    simp only [World.size_alloc] at this
    rw [hW2]; exact this
  obtain ⟨i0, hi0, hz0, hz1, hz2⟩ := info_parts Tryz.infoEI
  go_enter Tryz.func91, Tryz.ntmps91
  go_wp2_with fail
  rw [← hW2]
  clear hW2
  refine (p_next W2 (HP.out.but HB2.out (by simp) (by simp) (by simp)) hi).mono ?_
  rintro e w1 ⟨rfl, h1, b1⟩
  unfold tkV
  obtain ⟨k0, hk0⟩ : ∃ k, k = (tkA ts i).cls := ⟨_, rfl⟩
  obtain ⟨k1, hk1⟩ : ∃ k, k = (tkA ts i).txt := ⟨_, rfl⟩
  obtain ⟨k2, hk2⟩ : ∃ k, k = ((tkA ts i).loc : Int) := ⟨_, rfl⟩
  have HK1 : Hid (tx ts i = k1) := by show _ = _; rw [hk1, tx_at hi]
  have HGD : Hid (k0 = cls k1.toList) := by show _ = _; rw [hk0, hk1]; exact hgd i hi
  rw [← hk0] at hc h3
  rw [← hk1] at q0 q1
  rw [← hk0, ← hk1, ← hk2]
  clear hk0 hk1 hk2 hgd
  have HB3 : Hid (But [P] w (w1.alloc (.cells #[.int .i64 k0, .string k1, .int .i64 k2] 89))) := ((HB2.out.more (S' := [P]) (fun _ z => by simp at z)).then_ b1).alloc _
  have RQ3 := (RQ.of_block (b1.block _ RQ.lt (by simp; omega))).alloc (.cells #[.int .i64 k0, .string k1, .int .i64 k2] 89)
  have RX3 := (RX.of_block (b1.block _ RX.lt (by simp; omega))).alloc (.cells #[.int .i64 k0, .string k1, .int .i64 k2] 89)
  have HP3 : Hid (PsAt (w1.alloc (.cells #[.int .i64 k0, .string k1, .int .i64 k2] 89)) P tb o (i + 1) ts eT eV) := h1.but ((But.refl ([] : List Nat) w1).alloc _) (by simp) (by simp) (by simp)
  have HO3 : Hid (OE B (w1.alloc (.cells #[.int .i64 k0, .string k1, .int .i64 k2] 89)) (.slice va xs.length vc) xs) := HO.out.low HB3.out (fun b z => by rw [List.mem_singleton.1 z]; exact Or.inl hP)
  have cq := RQ3.cell (i := 0) (by omega)
  have cx := RX3.cell (i := 0) (by omega)
  have ce := HP3.out.ev
  have hs1 : w.heap.size ≤ w1.heap.size := Nat.le_trans HB2.out.size b1.size
  clear h1 b1 RQ RX HP HB2
  clear HGD
  go_wp2_with (first | (at_builtin; refine wpList_append_lies _ rfl _ _ 56 rfl B 123 i0 _ 6 96 Tryz.underlying56 hi0 hz0 hz1 hz2 rfl (by omega) (.slice va xs.length vc) (xs.length) (eisC xs) rfl (HO3.out.own.alloc _) ⟨w1.heap.size + 1, 0, none⟩ 1 1 [.int .i64 2, .int .i64 0, .string ⟨#[]⟩, .string ⟨#[]⟩, .slice none 0 0, .slice none 0 0] rfl rfl (World.news_of_block (cs := #[.int .i64 2, .int .i64 0, .string ⟨#[]⟩, .string ⟨#[]⟩, .slice none 0 0, .slice none 0 0]) (t := 123) (fr := (0, 0)) (by have := heap_alloc_new (w1.alloc (.cells #[.int .i64 k0, .string k1, .int .i64 k2] 89)) (.cells #[.int .i64 2, .int .i64 0, .string ⟨#[]⟩, .string ⟨#[]⟩, .slice none 0 0, .slice none 0 0] 123); simpa using this)) (by simp [Value.oneCell']) (by omega) (by unfold maxLen; omega) (by omega) (by simp; omega) (w1.heap.size + 1 + 1) (by simp) ?_; intro gg cap3 w5 hown3 hg3 hat3 hlt3))
  have FIN : Hid (ExR B P tb o ts eT eV w (.slice va xs.length vc) xs (some ([exO 2], i + 1)) (.returned (.slice (some ⟨gg, 0, none⟩) (xs.length + 1) cap3)) w5) := by
    have nb := ei_bare B (w1.alloc (.cells #[.int .i64 k0, .string k1, .int .i64 k2] 89)) (x := exO 2) rfl rfl
    have z := ex_end (ys := []) (x := (exO 2, ep0)) hP htb (v := .slice va xs.length vc) (by rw [List.append_nil]; exact HO3.out) HP3.out (HB3.out.more (fun k z => by rw [List.mem_singleton.1 z]; simp)) (fun b e => Or.inl e) (by rw [List.append_nil]; exact hown3) hg3 (by simpa using hat3) nb.1 (fun b hb => by rw [nb.2] at hb; cases hb) (by rw [nb.2]; exact List.nodup_nil) (fun b hb => by cases hb) (fun b hb => by rw [nb.2] at hb; cases hb)
    rw [List.append_nil] at z
    exact z
  clear hown3 hg3 hat3
  go_wp2
  go_ret
  rw [HR.out]
  exact FIN.out

set_option maxRecDepth 100000 in
set_option maxHeartbeats 2000000 in
theorem atom_none {B P tb o : Nat} {ts : List TK} {eT : TypeId} {eV : Value} {f : Nat} (hP : P < B) (_htb : tb < B) {i : Nat} {w : World} {v : Value} {xs : List (EI × EPl)} (hps : PsAt w P tb o i ts eT eV) (hot : OE B w v xs) (_hxi : xs.length ≤ i) (hB : B ≤ w.heap.size) (hc : isC ts i 1 = false) (h3 : isC ts i 3 = false) (n0 : isT ts i sTrue = false) (n1 : isT ts i sFalse = false) (n2 : isT ts i sOpen = false) (n3 : isT ts i sLeft = false) :
    Calls Tryz.prog 91 #[.pointer (some ⟨P, 0, none⟩), v] w (ExR B P tb o ts eT eV w v xs (atomP true ts (exP true ts f) i)) := by
  have HR : Hid (atomP true ts (exP true ts f) i = none) := by
    show _ = _
    unfold atomP
    rw [hc, h3, n0, n1, n2, n3]
    rfl
  by_cases hi : i < ts.length
  case neg =>
    have HP : Hid (PsAt w P tb o i ts eT eV) := hps
    obtain ⟨va, vc, rfl⟩ := own_form hot.own
    have HO : Hid (OE B w (.slice va xs.length vc) xs) := hot
    have hn := hps.tk.len
    have hl9 := hps.le
    have hgd := hps.tk.gd
    clear hps hot
    obtain ⟨W2, hW2⟩ : ∃ W2, W2 = (w.alloc (.cells #[.pointer (some ⟨P, 0, none⟩)] 98)).alloc (.cells #[.slice va xs.length vc] 56) := ⟨_, rfl⟩
    have HB2 : Hid (But [] w W2) := by show But [] w W2; rw [hW2]; exact ((But.refl _ _).alloc _).alloc _
    have RQ : W2.rowIs w.heap.size 98 1 (fun _ => .pointer (some ⟨P, 0, none⟩)) := by rw [hW2]; exact (row1 _ _ _).alloc _
    have RX : W2.rowIs (w.heap.size + 1) 56 1 (fun _ => .slice va xs.length vc) := by
      have := row1 (w.alloc (.cells #[.pointer (some ⟨P, 0, none⟩)] 98)) (.slice va xs.length vc) 56
      simp only [World.size_alloc] at this
      rw [hW2]; exact this
    obtain ⟨i0, hi0, hz0, hz1, hz2⟩ := info_parts Tryz.infoEI
    go_enter Tryz.func91, Tryz.ntmps91
    go_wp2_with fail
    rw [← hW2]
    clear hW2
    refine (p_next_no W2 (HP.out.but HB2.out (by simp) (by simp) (by simp)) hi).mono ?_
    rintro e w1 ⟨rfl, b1⟩
    have HBB : Hid (But (P :: (Value.slice va xs.length vc).ownBlock.toList) w w1) := ((HB2.out.more (S' := [P]) (fun _ z => by simp at z)).then_ b1).more (fun k z => by rw [List.mem_singleton.1 z]; simp)
    clear b1
    go_wp2
    exact ⟨rfl, by rw [HR.out]; exact ⟨HBB.out, rfl⟩⟩
  have q0 : ((tkA ts i).txt.toList == [116, 114, 117, 101]) = false := text_no hi n0
  have q1 : ((tkA ts i).txt.toList == [102, 97, 108, 115, 101]) = false := text_no hi n1
  have q2 : ((tkA ts i).txt.toList == [123]) = false := text_no hi n2
  have q3 : ((tkA ts i).txt.toList == [40]) = false := text_no hi n3
  rw [isC_at hi] at hc h3
  clear n0 n1 n2 n3
  have HP : Hid (PsAt w P tb o i ts eT eV) := hps
  obtain ⟨va, vc, rfl⟩ := own_form hot.own
  have HO : Hid (OE B w (.slice va xs.length vc) xs) := hot
  have hn := hps.tk.len
  have hl9 := hps.le
  have hgd := hps.tk.gd
  clear hps hot
  obtain ⟨W2, hW2⟩ : ∃ W2, W2 = (w.alloc (.cells #[.pointer (some ⟨P, 0, none⟩)] 98)).alloc (.cells #[.slice va xs.length vc] 56) := ⟨_, rfl⟩
  have HB2 : Hid (But [] w W2) := by show But [] w W2; rw [hW2]; exact ((But.refl _ _).alloc _).alloc _
  have RQ : W2.rowIs w.heap.size 98 1 (fun _ => .pointer (some ⟨P, 0, none⟩)) := by rw [hW2]; exact (row1 _ _ _).alloc _
  have RX : W2.rowIs (w.heap.size + 1) 56 1 (fun _ => .slice va xs.length vc) := by
    have := row1 (w.alloc (.cells #[.pointer (some ⟨P, 0, none⟩)] 98)) (.slice va xs.length vc) 56
    simp only [World.size_alloc] at this
    rw [hW2]; exact this
  obtain ⟨i0, hi0, hz0, hz1, hz2⟩ := info_parts Tryz.infoEI
  go_enter Tryz.func91, Tryz.ntmps91
  go_wp2_with fail
  rw [← hW2]
  clear hW2
  refine (p_next W2 (HP.out.but HB2.out (by simp) (by simp) (by simp)) hi).mono ?_
  rintro e w1 ⟨rfl, h1, b1⟩
  unfold tkV
  obtain ⟨k0, hk0⟩ : ∃ k, k = (tkA ts i).cls := ⟨_, rfl⟩
  obtain ⟨k1, hk1⟩ : ∃ k, k = (tkA ts i).txt := ⟨_, rfl⟩
  obtain ⟨k2, hk2⟩ : ∃ k, k = ((tkA ts i).loc : Int) := ⟨_, rfl⟩
  have HK1 : Hid (tx ts i = k1) := by show _ = _; rw [hk1, tx_at hi]
  have HGD : Hid (k0 = cls k1.toList) := by show _ = _; rw [hk0, hk1]; exact hgd i hi
  rw [← hk0] at hc h3
  rw [← hk1] at q0 q1 q2 q3
  rw [← hk0, ← hk1, ← hk2]
  clear hk0 hk1 hk2 hgd
  have HB3 : Hid (But [P] w (w1.alloc (.cells #[.int .i64 k0, .string k1, .int .i64 k2] 89))) := ((HB2.out.more (S' := [P]) (fun _ z => by simp at z)).then_ b1).alloc _
  have RQ3 := (RQ.of_block (b1.block _ RQ.lt (by simp; omega))).alloc (.cells #[.int .i64 k0, .string k1, .int .i64 k2] 89)
  have RX3 := (RX.of_block (b1.block _ RX.lt (by simp; omega))).alloc (.cells #[.int .i64 k0, .string k1, .int .i64 k2] 89)
  have HP3 : Hid (PsAt (w1.alloc (.cells #[.int .i64 k0, .string k1, .int .i64 k2] 89)) P tb o (i + 1) ts eT eV) := h1.but ((But.refl ([] : List Nat) w1).alloc _) (by simp) (by simp) (by simp)
  have HO3 : Hid (OE B (w1.alloc (.cells #[.int .i64 k0, .string k1, .int .i64 k2] 89)) (.slice va xs.length vc) xs) := HO.out.low HB3.out (fun b z => by rw [List.mem_singleton.1 z]; exact Or.inl hP)
  have cq := RQ3.cell (i := 0) (by omega)
  have cx := RX3.cell (i := 0) (by omega)
  have ce := HP3.out.ev
  have hs1 : w.heap.size ≤ w1.heap.size := Nat.le_trans HB2.out.size b1.size
  clear h1 b1 RQ RX HP HB2
  clear HGD
  go_wp2
  exact ⟨rfl, by rw [HR.out]; exact ⟨HB3.out.more (fun k z => by rw [List.mem_singleton.1 z]; simp), rfl⟩⟩

end Go.Proofs.YtdjkgilohhjfoaaGreatDoor
