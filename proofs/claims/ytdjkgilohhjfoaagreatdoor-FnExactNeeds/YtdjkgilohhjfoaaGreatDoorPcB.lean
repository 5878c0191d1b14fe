/-
  A type without an arrow of its own.
-/
import Derived.Test.YtdjkgilohhjfoaaGreatDoorM05
namespace Go.Proofs.YtdjkgilohhjfoaaGreatDoor
open Go.RowKit

theorem row1 (w : World) (a : Value) (t : TypeId) : (w.alloc (.cells #[a] t)).rowIs w.heap.size t 1 (fun _ => a) :=
  World.rowIs_alloc w #[a] t _ (fun i hi => by
    match i, hi with
    | 0, _ => rfl)

/-- The end of a reader: one more item. -/
theorem ty_end {B P tb o : Nat} {ts : List TK} {eT : TypeId} {eV : Value} (hP : P < B) (htb : tb < B) {j : Nat} {w w4 w5 : World} {v v1 : Value} {xs ys : List (TI × NPl)} {x : TI × NPl} {gg cap3 : Nat} {ob : Obj}
    (hot : OT B w4 v1 (xs ++ ys)) (hps : PsAt w4 P tb o j ts eT eV) (hbt : But (P :: v.ownBlock.toList) w w4) (hgr : ∀ b, v1.ownBlock = some b → v.ownBlock = some b ∨ w.heap.size ≤ b)
    (hown : w5.ownsRow B 120 4 (.slice (some ⟨gg, 0, none⟩) ((xs ++ ys).length + 1) cap3) ((xs ++ ys).length + 1) (tisC (xs ++ ys) ++ tiC x)) (hg : (w4.alloc ob).grownBy w5 v1.ownBlock) (hat : v1.ownBlock = some gg ∨ gg = w4.heap.size + 1)
    (hx : NmOK B w4 x.1.ns x.2) (hn : x.1.ns ≠ [] → x.2.b ∉ tisB (xs ++ ys)) (hnew : ∀ b, b ∈ tisB ys → w.heap.size ≤ b) (hxn : x.1.ns ≠ [] → w.heap.size ≤ x.2.b) :
    TyR B P tb o ts eT eV w v xs (some (ys.map Prod.fst ++ [x.1], j)) (.returned (.slice (some ⟨gg, 0, none⟩) ((xs ++ ys).length + 1) cap3)) w5 := by
  have b5 := grown_but hg
  have low : ∀ k, k < B → k ∉ v1.ownBlock.toList := fun k hk z => by
    have := hot.own.lt k (by simpa using z)
    omega
  have p0 := hps.pos
  refine ⟨hbt.trans b5 (fun k z hk => ?_), _, ys ++ [x], rfl, ?_, by simp, hps.but b5 (low P hP) (low tb htb) (low 0 (by omega)), fun b e => ?_, fun b hb => ?_⟩
  · rcases hgr k (by simpa using z) with q | q
    · simp [q]
    · omega
  · rw [← List.append_assoc]
    exact hot.push hown hg hx hn
  · have eb : gg = b := by simpa [Value.ownBlock] using e
    subst eb
    rcases hat with q | q
    · exact hgr gg q
    · have := hbt.size
      exact Or.inr (by omega)
  · rw [tisB_append] at hb
    rcases List.mem_append.1 hb with z | z
    · exact hnew b z
    · obtain ⟨y, hy, hyn, rfl⟩ := mem_tisB z
      rw [List.mem_singleton.1 hy] at hyn ⊢
      exact hxn hyn

set_option maxRecDepth 100000 in
set_option maxHeartbeats 2000000 in
theorem base_name {B P tb o : Nat} {ts : List TK} {eT : TypeId} {eV : Value} {f : Nat} (hP : P < B) (htb : tb < B) {i : Nat} {w : World} {v : Value} {xs : List (TI × NPl)} (hps : PsAt w P tb o i ts eT eV) (hot : OT B w v xs) (hxi : xs.length ≤ i) (hB : B ≤ w.heap.size) (hc : isC ts i 1 = true) :
    Calls Tryz.prog 79 #[.pointer (some ⟨P, 0, none⟩), v] w (TyR B P tb o ts eT eV w v xs (baseP true ts (tyP true ts f) i)) := by
  have hi := isC_lt hc
  have HC : Hid (isC ts i 1 = true) := hc
  rw [isC_at hi] at hc
  have HP : Hid (PsAt w P tb o i ts eT eV) := hps
  obtain ⟨va, vc, rfl⟩ := own_form hot.own
  have HO : Hid (OT B w (.slice va xs.length vc) xs) := hot
  have hn := hps.tk.len
  have hl9 := hps.le
  clear hps hot
  obtain ⟨W2, hW2⟩ : ∃ W2, W2 = (w.alloc (.cells #[.pointer (some ⟨P, 0, none⟩)] 98)).alloc (.cells #[.slice va xs.length vc] 55) := ⟨_, rfl⟩
  have HB2 : Hid (But [] w W2) := by show But [] w W2; rw [hW2]; exact ((But.refl _ _).alloc _).alloc _
  have RQ : W2.rowIs w.heap.size 98 1 (fun _ => .pointer (some ⟨P, 0, none⟩)) := by rw [hW2]; exact (row1 _ _ _).alloc _
  have RX : W2.rowIs (w.heap.size + 1) 55 1 (fun _ => .slice va xs.length vc) := by
    have := row1 (w.alloc (.cells #[.pointer (some ⟨P, 0, none⟩)] 98)) (.slice va xs.length vc) 55
    simp only [World.size_alloc] at this
    rw [hW2]; exact this
  obtain ⟨i0, hi0, hz0, hz1, hz2⟩ := info_parts Tryz.infoTI
  go_enter Tryz.func79, Tryz.ntmps79
  go_wp2_with fail
  rw [← hW2]
  clear hW2
  refine (p_next W2 (HP.out.but HB2.out (by simp) (by simp) (by simp)) hi).mono ?_
  rintro e w1 ⟨rfl, h1, b1⟩
  unfold tkV
  obtain ⟨k0, hk0⟩ : ∃ k, k = (tkA ts i).cls := ⟨_, rfl⟩
  obtain ⟨k1, hk1⟩ : ∃ k, k = (tkA ts i).txt := ⟨_, rfl⟩
  obtain ⟨k2, hk2⟩ : ∃ k, k = ((tkA ts i).loc : Int) := ⟨_, rfl⟩
  have HK1 : Hid (tx ts i = k1) := by show _ = _; rw [hk1, tx_at hi]
  rw [← hk0] at hc
  rw [← hk0, ← hk1, ← hk2]
  clear hk0 hk1 hk2
  have HB3 : Hid (But [P] w (w1.alloc (.cells #[.int .i64 k0, .string k1, .int .i64 k2] 89))) := ((HB2.out.more (S' := [P]) (fun _ z => by simp at z)).then_ b1).alloc _
  have RQ3 := (RQ.of_block (b1.block _ RQ.lt (by simp; omega))).alloc (.cells #[.int .i64 k0, .string k1, .int .i64 k2] 89)
  have RX3 := (RX.of_block (b1.block _ RX.lt (by simp; omega))).alloc (.cells #[.int .i64 k0, .string k1, .int .i64 k2] 89)
  have HP3 : Hid (PsAt (w1.alloc (.cells #[.int .i64 k0, .string k1, .int .i64 k2] 89)) P tb o (i + 1) ts eT eV) := h1.but ((But.refl ([] : List Nat) w1).alloc _) (by simp) (by simp) (by simp)
  have HO3 : Hid (OT B (w1.alloc (.cells #[.int .i64 k0, .string k1, .int .i64 k2] 89)) (.slice va xs.length vc) xs) := HO.out.low HB3.out (fun b z => by rw [List.mem_singleton.1 z]; exact Or.inl hP)
  have cq := RQ3.cell (i := 0) (by omega)
  have cx := RX3.cell (i := 0) (by omega)
  have ce := HP3.out.ev
  have hs1 : w.heap.size ≤ w1.heap.size := Nat.le_trans HB2.out.size b1.size
  clear h1 b1 RQ RX HP HB2
  have qc : k0 = 1 := by simpa using hc
  subst qc
  clear hc
  go_wp2_with fail
  obtain ⟨W3, hW3⟩ : ∃ W3, W3 = w1.alloc (.cells #[.int .i64 1, .string k1, .int .i64 k2] 89) := ⟨_, rfl⟩
  rw [← hW3] at HB3 RQ3 RX3 HP3 HO3 cq cx ce ⊢
  clear hW3
  have CP := p_path (i := i) W3 HP3.out
  rw [HK1.out] at CP
  refine CP.mono ?_
  clear CP
  cases hp : pathP true ts i with
  | none =>
    have HR : Hid (baseP true ts (tyP true ts f) i = none) := by show _ = _; unfold baseP; rw [if_pos HC.out, hp]
    rintro e w4 ⟨b4, rfl⟩
    clear hp
    go_wp2
    exact ⟨rfl, by rw [HR.out]; exact ⟨(HB3.out.then_ b4).more (fun k z => by rw [List.mem_singleton.1 z]; simp), rfl⟩⟩
  | some r =>
    obtain ⟨m, nn, j⟩ := r
    have HR : Hid (baseP true ts (tyP true ts f) i = some ([⟨4, m, nn, []⟩], j)) := by show _ = _; unfold baseP; rw [if_pos HC.out, hp]
    rintro e w4 ⟨b4, rfl, h4⟩
    clear hp
    have RX4 := RX3.of_block (b4.block _ RX3.lt (by simp; omega))
    have cx4 := RX4.cell (i := 0) (by omega)
    have HO4 : Hid (OT B w4 (.slice va xs.length vc) xs) := HO3.out.low b4 (fun b z => by rw [List.mem_singleton.1 z]; exact Or.inl hP)
    have HB4 : Hid (But (P :: (Value.slice va xs.length vc).ownBlock.toList) w w4) := (HB3.out.then_ b4).more (fun k z => by rw [List.mem_singleton.1 z]; simp)
    have HP4 : Hid (PsAt w4 P tb o j ts eT eV) := h4
    have hs4 := HB4.out.size
    clear b4 h4 RX4 RX3 RQ3 cq cx ce
    go_wp2_with (first | (at_builtin; refine wpList_append_lies _ rfl _ _ 55 rfl B 120 i0 _ 4 64 Tryz.underlying55 hi0 hz0 hz1 hz2 rfl (by omega) (.slice va xs.length vc) (xs.length) (tisC xs) rfl (HO4.out.own.alloc _) ⟨w4.heap.size, 0, none⟩ 1 1 [.int .i64 4, .string m, .string nn, .slice none 0 0] rfl rfl (World.news_of_block (cs := #[.int .i64 4, .string m, .string nn, .slice none 0 0]) (t := 120) (fr := (0, 0)) (heap_alloc_new w4 _)) (by simp [Value.oneCell']) (by omega) (by unfold maxLen; omega) (by omega) (by simp; omega) (w4.heap.size + 1) (by simp) ?_; intro gg cap3 w5 hown3 hg3 hat3 hlt3))
    have FIN : Hid (TyR B P tb o ts eT eV w (.slice va xs.length vc) xs (some ([⟨4, m, nn, []⟩], j)) (.returned (.slice (some ⟨gg, 0, none⟩) (xs.length + 1) cap3)) w5) := by
      have z := ty_end (ys := []) (x := (⟨4, m, nn, []⟩, ⟨none, 0, 0⟩)) hP htb (v := .slice va xs.length vc) (by rw [List.append_nil]; exact HO4.out) HP4.out HB4.out (fun b e => Or.inl e) (by rw [List.append_nil]; exact hown3) hg3 hat3 (NmOK.nil _ _ _) (fun h => absurd rfl h) (fun b hb => by cases hb) (fun h => absurd rfl h)
      rw [List.append_nil] at z
      exact z
    clear hown3 hg3 hat3
    go_wp2
    go_ret
    rw [HR.out]
    exact FIN.out

/-- The text of a token as the walk has it. -/
theorem text_is {ts : List TK} {i : Nat} {s s' : List UInt8} (h : isT ts i s = true) : (((tkA ts i).txt.toList == s') = true ↔ s = s') := by
  have hi := isT_lt h
  rw [isT_at hi] at h
  rw [ByteArray.toList_eq]
  have e : (tkA ts i).txt.data.toList = s := by simpa using h
  rw [e]
  simp
theorem text_no {ts : List TK} {i : Nat} (hi : i < ts.length) {s : List UInt8} (h : isT ts i s = false) : ((tkA ts i).txt.toList == s) = false := by
  rw [isT_at hi] at h
  rw [ByteArray.toList_eq]
  exact h
theorem text_yes {ts : List TK} {i : Nat} {s : List UInt8} (h : isT ts i s = true) : ((tkA ts i).txt.toList == s) = true := (text_is h).2 rfl
theorem text_not {ts : List TK} {i : Nat} {s : List UInt8} (h : isT ts i s = true) (s' : List UInt8) (hne : s ≠ s') : ((tkA ts i).txt.toList == s') = false := by
  cases e : ((tkA ts i).txt.toList == s') with
  | false => rfl
  | true => exact absurd ((text_is h).1 e) hne

set_option maxRecDepth 100000 in
set_option maxHeartbeats 2000000 in
theorem base_int {B P tb o : Nat} {ts : List TK} {eT : TypeId} {eV : Value} {f : Nat} (hP : P < B) (htb : tb < B) {i : Nat} {w : World} {v : Value} {xs : List (TI × NPl)} (hps : PsAt w P tb o i ts eT eV) (hot : OT B w v xs) (hxi : xs.length ≤ i) (hB : B ≤ w.heap.size) (hc : isC ts i 1 = false) (hs : isT ts i sInt = true) :
    Calls Tryz.prog 79 #[.pointer (some ⟨P, 0, none⟩), v] w (TyR B P tb o ts eT eV w v xs (baseP true ts (tyP true ts f) i)) := by
  have hi := isT_lt hs
  have HR : Hid (baseP true ts (tyP true ts f) i = some ([tyO 1], i + 1)) := by
    show _ = _
    unfold baseP
    rw [hc, if_neg (by decide)]
    rw [if_pos hs]
  have q0 : ((tkA ts i).txt.toList == [105, 110, 116]) = true := text_yes hs
  rw [isC_at hi] at hc
  clear hs
  have HP : Hid (PsAt w P tb o i ts eT eV) := hps
  obtain ⟨va, vc, rfl⟩ := own_form hot.own
  have HO : Hid (OT B w (.slice va xs.length vc) xs) := hot
  have hn := hps.tk.len
  have hl9 := hps.le
  clear hps hot
  obtain ⟨W2, hW2⟩ : ∃ W2, W2 = (w.alloc (.cells #[.pointer (some ⟨P, 0, none⟩)] 98)).alloc (.cells #[.slice va xs.length vc] 55) := ⟨_, rfl⟩
  have HB2 : Hid (But [] w W2) := by show But [] w W2; rw [hW2]; exact ((But.refl _ _).alloc _).alloc _
  have RQ : W2.rowIs w.heap.size 98 1 (fun _ => .pointer (some ⟨P, 0, none⟩)) := by rw [hW2]; exact (row1 _ _ _).alloc _
  have RX : W2.rowIs (w.heap.size + 1) 55 1 (fun _ => .slice va xs.length vc) := by
    have := row1 (w.alloc (.cells #[.pointer (some ⟨P, 0, none⟩)] 98)) (.slice va xs.length vc) 55
    simp only [World.size_alloc] at this
    rw [hW2]; exact this
  obtain ⟨i0, hi0, hz0, hz1, hz2⟩ := info_parts Tryz.infoTI
  go_enter Tryz.func79, Tryz.ntmps79
  go_wp2_with fail
  rw [← hW2]
  clear hW2
  refine (p_next W2 (HP.out.but HB2.out (by simp) (by simp) (by simp)) hi).mono ?_
  rintro e w1 ⟨rfl, h1, b1⟩
  unfold tkV
  obtain ⟨k0, hk0⟩ : ∃ k, k = (tkA ts i).cls := ⟨_, rfl⟩
  obtain ⟨k1, hk1⟩ : ∃ k, k = (tkA ts i).txt := ⟨_, rfl⟩
  obtain ⟨k2, hk2⟩ : ∃ k, k = ((tkA ts i).loc : Int) := ⟨_, rfl⟩
  have HK1 : Hid (tx ts i = k1) := by show _ = _; rw [hk1, tx_at hi]
  rw [← hk0] at hc
  rw [← hk1] at q0
  rw [← hk0, ← hk1, ← hk2]
  clear hk0 hk1 hk2
  have HB3 : Hid (But [P] w (w1.alloc (.cells #[.int .i64 k0, .string k1, .int .i64 k2] 89))) := ((HB2.out.more (S' := [P]) (fun _ z => by simp at z)).then_ b1).alloc _
  have RQ3 := (RQ.of_block (b1.block _ RQ.lt (by simp; omega))).alloc (.cells #[.int .i64 k0, .string k1, .int .i64 k2] 89)
  have RX3 := (RX.of_block (b1.block _ RX.lt (by simp; omega))).alloc (.cells #[.int .i64 k0, .string k1, .int .i64 k2] 89)
  have HP3 : Hid (PsAt (w1.alloc (.cells #[.int .i64 k0, .string k1, .int .i64 k2] 89)) P tb o (i + 1) ts eT eV) := h1.but ((But.refl ([] : List Nat) w1).alloc _) (by simp) (by simp) (by simp)
  have HO3 : Hid (OT B (w1.alloc (.cells #[.int .i64 k0, .string k1, .int .i64 k2] 89)) (.slice va xs.length vc) xs) := HO.out.low HB3.out (fun b z => by rw [List.mem_singleton.1 z]; exact Or.inl hP)
  have cq := RQ3.cell (i := 0) (by omega)
  have cx := RX3.cell (i := 0) (by omega)
  have ce := HP3.out.ev
  have hs1 : w.heap.size ≤ w1.heap.size := Nat.le_trans HB2.out.size b1.size
  clear h1 b1 RQ RX HP HB2
  have hs4 := HB3.out.size
  go_wp2_with (first | (at_builtin; go_loud (refine wpList_append_lies _ rfl _ _ 55 rfl B 120 i0 _ 4 64 Tryz.underlying55 hi0 hz0 hz1 hz2 rfl (by omega) (.slice va xs.length vc) (xs.length) (tisC xs) rfl (HO3.out.own.alloc _) ⟨w1.heap.size + 1, 0, none⟩ 1 1 [.int .i64 1, .string ⟨#[]⟩, .string ⟨#[]⟩, .slice none 0 0] rfl rfl (World.news_of_block (cs := #[.int .i64 1, .string ⟨#[]⟩, .string ⟨#[]⟩, .slice none 0 0]) (t := 120) (fr := (0, 0)) (by have := heap_alloc_new (w1.alloc (.cells #[.int .i64 k0, .string k1, .int .i64 k2] 89)) (.cells #[.int .i64 1, .string ⟨#[]⟩, .string ⟨#[]⟩, .slice none 0 0] 120); simpa using this)) (by simp [Value.oneCell']) (by omega) (by unfold maxLen; omega) (by omega) (by simp; omega) (w1.heap.size + 1 + 1) (by simp) ?_); intro gg cap3 w5 hown3 hg3 hat3 hlt3))
  have FIN : Hid (TyR B P tb o ts eT eV w (.slice va xs.length vc) xs (some ([tyO 1], i + 1)) (.returned (.slice (some ⟨gg, 0, none⟩) (xs.length + 1) cap3)) w5) := by
    have z := ty_end (ys := []) (x := (tyO 1, ⟨none, 0, 0⟩)) hP htb (v := .slice va xs.length vc) (by rw [List.append_nil]; exact HO3.out) HP3.out (HB3.out.more (fun k z => by rw [List.mem_singleton.1 z]; simp)) (fun b e => Or.inl e) (by rw [List.append_nil]; exact hown3) hg3 (by simpa using hat3) (NmOK.nil _ _ _) (fun h => absurd rfl h) (fun b hb => by cases hb) (fun h => absurd rfl h)
    rw [List.append_nil] at z
    exact z
  clear hown3 hg3 hat3
  go_wp2
  go_ret
  rw [HR.out]
  exact FIN.out

set_option maxRecDepth 100000 in
set_option maxHeartbeats 2000000 in
theorem base_bool {B P tb o : Nat} {ts : List TK} {eT : TypeId} {eV : Value} {f : Nat} (hP : P < B) (htb : tb < B) {i : Nat} {w : World} {v : Value} {xs : List (TI × NPl)} (hps : PsAt w P tb o i ts eT eV) (hot : OT B w v xs) (hxi : xs.length ≤ i) (hB : B ≤ w.heap.size) (hc : isC ts i 1 = false) (hs : isT ts i sBool = true) :
    Calls Tryz.prog 79 #[.pointer (some ⟨P, 0, none⟩), v] w (TyR B P tb o ts eT eV w v xs (baseP true ts (tyP true ts f) i)) := by
  have hi := isT_lt hs
  have HR : Hid (baseP true ts (tyP true ts f) i = some ([tyO 2], i + 1)) := by
    show _ = _
    unfold baseP
    rw [hc, if_neg (by decide)]
    rw [isT_one hs (s' := sInt) (by decide), if_neg (by decide)]
    rw [if_pos hs]
  have q0 : ((tkA ts i).txt.toList == [105, 110, 116]) = false := text_not hs _ (by decide)
  have q1 : ((tkA ts i).txt.toList == [98, 111, 111, 108]) = true := text_yes hs
  rw [isC_at hi] at hc
  clear hs
  have HP : Hid (PsAt w P tb o i ts eT eV) := hps
  obtain ⟨va, vc, rfl⟩ := own_form hot.own
  have HO : Hid (OT B w (.slice va xs.length vc) xs) := hot
  have hn := hps.tk.len
  have hl9 := hps.le
  clear hps hot
  obtain ⟨W2, hW2⟩ : ∃ W2, W2 = (w.alloc (.cells #[.pointer (some ⟨P, 0, none⟩)] 98)).alloc (.cells #[.slice va xs.length vc] 55) := ⟨_, rfl⟩
  have HB2 : Hid (But [] w W2) := by show But [] w W2; rw [hW2]; exact ((But.refl _ _).alloc _).alloc _
  have RQ : W2.rowIs w.heap.size 98 1 (fun _ => .pointer (some ⟨P, 0, none⟩)) := by rw [hW2]; exact (row1 _ _ _).alloc _
  have RX : W2.rowIs (w.heap.size + 1) 55 1 (fun _ => .slice va xs.length vc) := by
    have := row1 (w.alloc (.cells #[.pointer (some ⟨P, 0, none⟩)] 98)) (.slice va xs.length vc) 55
    simp only [World.size_alloc] at this
    rw [hW2]; exact this
  obtain ⟨i0, hi0, hz0, hz1, hz2⟩ := info_parts Tryz.infoTI
  go_enter Tryz.func79, Tryz.ntmps79
  go_wp2_with fail
  rw [← hW2]
  clear hW2
  refine (p_next W2 (HP.out.but HB2.out (by simp) (by simp) (by simp)) hi).mono ?_
  rintro e w1 ⟨rfl, h1, b1⟩
  unfold tkV
  obtain ⟨k0, hk0⟩ : ∃ k, k = (tkA ts i).cls := ⟨_, rfl⟩
  obtain ⟨k1, hk1⟩ : ∃ k, k = (tkA ts i).txt := ⟨_, rfl⟩
  obtain ⟨k2, hk2⟩ : ∃ k, k = ((tkA ts i).loc : Int) := ⟨_, rfl⟩
  have HK1 : Hid (tx ts i = k1) := by show _ = _; rw [hk1, tx_at hi]
  rw [← hk0] at hc
  rw [← hk1] at q0 q1
  rw [← hk0, ← hk1, ← hk2]
  clear hk0 hk1 hk2
  have HB3 : Hid (But [P] w (w1.alloc (.cells #[.int .i64 k0, .string k1, .int .i64 k2] 89))) := ((HB2.out.more (S' := [P]) (fun _ z => by simp at z)).then_ b1).alloc _
  have RQ3 := (RQ.of_block (b1.block _ RQ.lt (by simp; omega))).alloc (.cells #[.int .i64 k0, .string k1, .int .i64 k2] 89)
  have RX3 := (RX.of_block (b1.block _ RX.lt (by simp; omega))).alloc (.cells #[.int .i64 k0, .string k1, .int .i64 k2] 89)
  have HP3 : Hid (PsAt (w1.alloc (.cells #[.int .i64 k0, .string k1, .int .i64 k2] 89)) P tb o (i + 1) ts eT eV) := h1.but ((But.refl ([] : List Nat) w1).alloc _) (by simp) (by simp) (by simp)
  have HO3 : Hid (OT B (w1.alloc (.cells #[.int .i64 k0, .string k1, .int .i64 k2] 89)) (.slice va xs.length vc) xs) := HO.out.low HB3.out (fun b z => by rw [List.mem_singleton.1 z]; exact Or.inl hP)
  have cq := RQ3.cell (i := 0) (by omega)
  have cx := RX3.cell (i := 0) (by omega)
  have ce := HP3.out.ev
  have hs1 : w.heap.size ≤ w1.heap.size := Nat.le_trans HB2.out.size b1.size
  clear h1 b1 RQ RX HP HB2
  have hs4 := HB3.out.size
  go_wp2_with (first | (at_builtin; go_loud (refine wpList_append_lies _ rfl _ _ 55 rfl B 120 i0 _ 4 64 Tryz.underlying55 hi0 hz0 hz1 hz2 rfl (by omega) (.slice va xs.length vc) (xs.length) (tisC xs) rfl (HO3.out.own.alloc _) ⟨w1.heap.size + 1, 0, none⟩ 1 1 [.int .i64 2, .string ⟨#[]⟩, .string ⟨#[]⟩, .slice none 0 0] rfl rfl (World.news_of_block (cs := #[.int .i64 2, .string ⟨#[]⟩, .string ⟨#[]⟩, .slice none 0 0]) (t := 120) (fr := (0, 0)) (by have := heap_alloc_new (w1.alloc (.cells #[.int .i64 k0, .string k1, .int .i64 k2] 89)) (.cells #[.int .i64 2, .string ⟨#[]⟩, .string ⟨#[]⟩, .slice none 0 0] 120); simpa using this)) (by simp [Value.oneCell']) (by omega) (by unfold maxLen; omega) (by omega) (by simp; omega) (w1.heap.size + 1 + 1) (by simp) ?_); intro gg cap3 w5 hown3 hg3 hat3 hlt3))
  have FIN : Hid (TyR B P tb o ts eT eV w (.slice va xs.length vc) xs (some ([tyO 2], i + 1)) (.returned (.slice (some ⟨gg, 0, none⟩) (xs.length + 1) cap3)) w5) := by
    have z := ty_end (ys := []) (x := (tyO 2, ⟨none, 0, 0⟩)) hP htb (v := .slice va xs.length vc) (by rw [List.append_nil]; exact HO3.out) HP3.out (HB3.out.more (fun k z => by rw [List.mem_singleton.1 z]; simp)) (fun b e => Or.inl e) (by rw [List.append_nil]; exact hown3) hg3 (by simpa using hat3) (NmOK.nil _ _ _) (fun h => absurd rfl h) (fun b hb => by cases hb) (fun h => absurd rfl h)
    rw [List.append_nil] at z
    exact z
  clear hown3 hg3 hat3
  go_wp2
  go_ret
  rw [HR.out]
  exact FIN.out

set_option maxRecDepth 100000 in
set_option maxHeartbeats 2000000 in
theorem base_any {B P tb o : Nat} {ts : List TK} {eT : TypeId} {eV : Value} {f : Nat} (hP : P < B) (htb : tb < B) {i : Nat} {w : World} {v : Value} {xs : List (TI × NPl)} (hps : PsAt w P tb o i ts eT eV) (hot : OT B w v xs) (hxi : xs.length ≤ i) (hB : B ≤ w.heap.size) (hc : isC ts i 1 = false) (hs : isT ts i sAny = true) :
    Calls Tryz.prog 79 #[.pointer (some ⟨P, 0, none⟩), v] w (TyR B P tb o ts eT eV w v xs (baseP true ts (tyP true ts f) i)) := by
  have hi := isT_lt hs
  have HR : Hid (baseP true ts (tyP true ts f) i = some ([tyO 3], i + 1)) := by
    show _ = _
    unfold baseP
    rw [hc, if_neg (by decide)]
    rw [isT_one hs (s' := sInt) (by decide), if_neg (by decide)]
    rw [isT_one hs (s' := sBool) (by decide), if_neg (by decide)]
    rw [if_pos hs]
  have q0 : ((tkA ts i).txt.toList == [105, 110, 116]) = false := text_not hs _ (by decide)
  have q1 : ((tkA ts i).txt.toList == [98, 111, 111, 108]) = false := text_not hs _ (by decide)
  have q2 : ((tkA ts i).txt.toList == [63]) = true := text_yes hs
  rw [isC_at hi] at hc
  clear hs
  have HP : Hid (PsAt w P tb o i ts eT eV) := hps
  obtain ⟨va, vc, rfl⟩ := own_form hot.own
  have HO : Hid (OT B w (.slice va xs.length vc) xs) := hot
  have hn := hps.tk.len
  have hl9 := hps.le
  clear hps hot
  obtain ⟨W2, hW2⟩ : ∃ W2, W2 = (w.alloc (.cells #[.pointer (some ⟨P, 0, none⟩)] 98)).alloc (.cells #[.slice va xs.length vc] 55) := ⟨_, rfl⟩
  have HB2 : Hid (But [] w W2) := by show But [] w W2; rw [hW2]; exact ((But.refl _ _).alloc _).alloc _
  have RQ : W2.rowIs w.heap.size 98 1 (fun _ => .pointer (some ⟨P, 0, none⟩)) := by rw [hW2]; exact (row1 _ _ _).alloc _
  have RX : W2.rowIs (w.heap.size + 1) 55 1 (fun _ => .slice va xs.length vc) := by
    have := row1 (w.alloc (.cells #[.pointer (some ⟨P, 0, none⟩)] 98)) (.slice va xs.length vc) 55
    simp only [World.size_alloc] at this
    rw [hW2]; exact this
  obtain ⟨i0, hi0, hz0, hz1, hz2⟩ := info_parts Tryz.infoTI
  go_enter Tryz.func79, Tryz.ntmps79
  go_wp2_with fail
  rw [← hW2]
  clear hW2
  refine (p_next W2 (HP.out.but HB2.out (by simp) (by simp) (by simp)) hi).mono ?_
  rintro e w1 ⟨rfl, h1, b1⟩
  unfold tkV
  obtain ⟨k0, hk0⟩ : ∃ k, k = (tkA ts i).cls := ⟨_, rfl⟩
  obtain ⟨k1, hk1⟩ : ∃ k, k = (tkA ts i).txt := ⟨_, rfl⟩
  obtain ⟨k2, hk2⟩ : ∃ k, k = ((tkA ts i).loc : Int) := ⟨_, rfl⟩
  have HK1 : Hid (tx ts i = k1) := by show _ = _; rw [hk1, tx_at hi]
  rw [← hk0] at hc
  rw [← hk1] at q0 q1 q2
  rw [← hk0, ← hk1, ← hk2]
  clear hk0 hk1 hk2
  have HB3 : Hid (But [P] w (w1.alloc (.cells #[.int .i64 k0, .string k1, .int .i64 k2] 89))) := ((HB2.out.more (S' := [P]) (fun _ z => by simp at z)).then_ b1).alloc _
  have RQ3 := (RQ.of_block (b1.block _ RQ.lt (by simp; omega))).alloc (.cells #[.int .i64 k0, .string k1, .int .i64 k2] 89)
  have RX3 := (RX.of_block (b1.block _ RX.lt (by simp; omega))).alloc (.cells #[.int .i64 k0, .string k1, .int .i64 k2] 89)
  have HP3 : Hid (PsAt (w1.alloc (.cells #[.int .i64 k0, .string k1, .int .i64 k2] 89)) P tb o (i + 1) ts eT eV) := h1.but ((But.refl ([] : List Nat) w1).alloc _) (by simp) (by simp) (by simp)
  have HO3 : Hid (OT B (w1.alloc (.cells #[.int .i64 k0, .string k1, .int .i64 k2] 89)) (.slice va xs.length vc) xs) := HO.out.low HB3.out (fun b z => by rw [List.mem_singleton.1 z]; exact Or.inl hP)
  have cq := RQ3.cell (i := 0) (by omega)
  have cx := RX3.cell (i := 0) (by omega)
  have ce := HP3.out.ev
  have hs1 : w.heap.size ≤ w1.heap.size := Nat.le_trans HB2.out.size b1.size
  clear h1 b1 RQ RX HP HB2
  have hs4 := HB3.out.size
  go_wp2_with (first | (at_builtin; go_loud (refine wpList_append_lies _ rfl _ _ 55 rfl B 120 i0 _ 4 64 Tryz.underlying55 hi0 hz0 hz1 hz2 rfl (by omega) (.slice va xs.length vc) (xs.length) (tisC xs) rfl (HO3.out.own.alloc _) ⟨w1.heap.size + 1, 0, none⟩ 1 1 [.int .i64 3, .string ⟨#[]⟩, .string ⟨#[]⟩, .slice none 0 0] rfl rfl (World.news_of_block (cs := #[.int .i64 3, .string ⟨#[]⟩, .string ⟨#[]⟩, .slice none 0 0]) (t := 120) (fr := (0, 0)) (by have := heap_alloc_new (w1.alloc (.cells #[.int .i64 k0, .string k1, .int .i64 k2] 89)) (.cells #[.int .i64 3, .string ⟨#[]⟩, .string ⟨#[]⟩, .slice none 0 0] 120); simpa using this)) (by simp [Value.oneCell']) (by omega) (by unfold maxLen; omega) (by omega) (by simp; omega) (w1.heap.size + 1 + 1) (by simp) ?_); intro gg cap3 w5 hown3 hg3 hat3 hlt3))
  have FIN : Hid (TyR B P tb o ts eT eV w (.slice va xs.length vc) xs (some ([tyO 3], i + 1)) (.returned (.slice (some ⟨gg, 0, none⟩) (xs.length + 1) cap3)) w5) := by
    have z := ty_end (ys := []) (x := (tyO 3, ⟨none, 0, 0⟩)) hP htb (v := .slice va xs.length vc) (by rw [List.append_nil]; exact HO3.out) HP3.out (HB3.out.more (fun k z => by rw [List.mem_singleton.1 z]; simp)) (fun b e => Or.inl e) (by rw [List.append_nil]; exact hown3) hg3 (by simpa using hat3) (NmOK.nil _ _ _) (fun h => absurd rfl h) (fun b hb => by cases hb) (fun h => absurd rfl h)
    rw [List.append_nil] at z
    exact z
  clear hown3 hg3 hat3
  go_wp2
  go_ret
  rw [HR.out]
  exact FIN.out

set_option maxRecDepth 100000 in
set_option maxHeartbeats 2000000 in
theorem base_none {B P tb o : Nat} {ts : List TK} {eT : TypeId} {eV : Value} {f : Nat} (hP : P < B) (_htb : tb < B) {i : Nat} {w : World} {v : Value} {xs : List (TI × NPl)} (hps : PsAt w P tb o i ts eT eV) (hot : OT B w v xs) (_hxi : xs.length ≤ i) (hB : B ≤ w.heap.size) (hc : isC ts i 1 = false) (h0 : isT ts i sInt = false) (h1 : isT ts i sBool = false) (h2 : isT ts i sAny = false) (h3 : isT ts i sOpen = false) (h4 : isT ts i sLeft = false) :
    Calls Tryz.prog 79 #[.pointer (some ⟨P, 0, none⟩), v] w (TyR B P tb o ts eT eV w v xs (baseP true ts (tyP true ts f) i)) := by
  have HR : Hid (baseP true ts (tyP true ts f) i = none) := by
    show _ = _
    unfold baseP
    rw [hc, h0, h1, h2, h3, h4]
    rfl
  by_cases hi : i < ts.length
  case neg =>
    have HP : Hid (PsAt w P tb o i ts eT eV) := hps
    obtain ⟨va, vc, rfl⟩ := own_form hot.own
    have HO : Hid (OT B w (.slice va xs.length vc) xs) := hot
    have hn := hps.tk.len
    have hl9 := hps.le
    clear hps hot
    obtain ⟨W2, hW2⟩ : ∃ W2, W2 = (w.alloc (.cells #[.pointer (some ⟨P, 0, none⟩)] 98)).alloc (.cells #[.slice va xs.length vc] 55) := ⟨_, rfl⟩
    have HB2 : Hid (But [] w W2) := by show But [] w W2; rw [hW2]; exact ((But.refl _ _).alloc _).alloc _
    have RQ : W2.rowIs w.heap.size 98 1 (fun _ => .pointer (some ⟨P, 0, none⟩)) := by rw [hW2]; exact (row1 _ _ _).alloc _
    have RX : W2.rowIs (w.heap.size + 1) 55 1 (fun _ => .slice va xs.length vc) := by
      have := row1 (w.alloc (.cells #[.pointer (some ⟨P, 0, none⟩)] 98)) (.slice va xs.length vc) 55
      simp only [World.size_alloc] at this
      rw [hW2]; exact this
    obtain ⟨i0, hi0, hz0, hz1, hz2⟩ := info_parts Tryz.infoTI
    go_enter Tryz.func79, Tryz.ntmps79
    go_wp2_with fail
    rw [← hW2]
    clear hW2
    refine (p_next_no W2 (HP.out.but HB2.out (by simp) (by simp) (by simp)) hi).mono ?_
    rintro e w1 ⟨rfl, b1⟩
    have HBB : Hid (But (P :: (Value.slice va xs.length vc).ownBlock.toList) w w1) := ((HB2.out.more (S' := [P]) (fun _ z => by simp at z)).then_ b1).more (fun k z => by rw [List.mem_singleton.1 z]; simp)
    clear b1
    go_wp2
    exact ⟨rfl, by rw [HR.out]; exact ⟨HBB.out, rfl⟩⟩
  have q0 : ((tkA ts i).txt.toList == [105, 110, 116]) = false := text_no hi h0
  have q1 : ((tkA ts i).txt.toList == [98, 111, 111, 108]) = false := text_no hi h1
  have q2 : ((tkA ts i).txt.toList == [63]) = false := text_no hi h2
  have q3 : ((tkA ts i).txt.toList == [123]) = false := text_no hi h3
  have q4 : ((tkA ts i).txt.toList == [40]) = false := text_no hi h4
  rw [isC_at hi] at hc
  clear h0 h1 h2 h3 h4
  have HP : Hid (PsAt w P tb o i ts eT eV) := hps
  obtain ⟨va, vc, rfl⟩ := own_form hot.own
  have HO : Hid (OT B w (.slice va xs.length vc) xs) := hot
  have hn := hps.tk.len
  have hl9 := hps.le
  clear hps hot
  obtain ⟨W2, hW2⟩ : ∃ W2, W2 = (w.alloc (.cells #[.pointer (some ⟨P, 0, none⟩)] 98)).alloc (.cells #[.slice va xs.length vc] 55) := ⟨_, rfl⟩
  have HB2 : Hid (But [] w W2) := by show But [] w W2; rw [hW2]; exact ((But.refl _ _).alloc _).alloc _
  have RQ : W2.rowIs w.heap.size 98 1 (fun _ => .pointer (some ⟨P, 0, none⟩)) := by rw [hW2]; exact (row1 _ _ _).alloc _
  have RX : W2.rowIs (w.heap.size + 1) 55 1 (fun _ => .slice va xs.length vc) := by
    have := row1 (w.alloc (.cells #[.pointer (some ⟨P, 0, none⟩)] 98)) (.slice va xs.length vc) 55
    simp only [World.size_alloc] at this
    rw [hW2]; exact this
  obtain ⟨i0, hi0, hz0, hz1, hz2⟩ := info_parts Tryz.infoTI
  go_enter Tryz.func79, Tryz.ntmps79
  go_wp2_with fail
  rw [← hW2]
  clear hW2
  refine (p_next W2 (HP.out.but HB2.out (by simp) (by simp) (by simp)) hi).mono ?_
  rintro e w1 ⟨rfl, h1, b1⟩
  unfold tkV
  obtain ⟨k0, hk0⟩ : ∃ k, k = (tkA ts i).cls := ⟨_, rfl⟩
  obtain ⟨k1, hk1⟩ : ∃ k, k = (tkA ts i).txt := ⟨_, rfl⟩
  obtain ⟨k2, hk2⟩ : ∃ k, k = ((tkA ts i).loc : Int) := ⟨_, rfl⟩
  have HK1 : Hid (tx ts i = k1) := by show _ = _; rw [hk1, tx_at hi]
  rw [← hk0] at hc
  rw [← hk1] at q0 q1 q2 q3 q4
  rw [← hk0, ← hk1, ← hk2]
  clear hk0 hk1 hk2
  have HB3 : Hid (But [P] w (w1.alloc (.cells #[.int .i64 k0, .string k1, .int .i64 k2] 89))) := ((HB2.out.more (S' := [P]) (fun _ z => by simp at z)).then_ b1).alloc _
  have RQ3 := (RQ.of_block (b1.block _ RQ.lt (by simp; omega))).alloc (.cells #[.int .i64 k0, .string k1, .int .i64 k2] 89)
  have RX3 := (RX.of_block (b1.block _ RX.lt (by simp; omega))).alloc (.cells #[.int .i64 k0, .string k1, .int .i64 k2] 89)
  have HP3 : Hid (PsAt (w1.alloc (.cells #[.int .i64 k0, .string k1, .int .i64 k2] 89)) P tb o (i + 1) ts eT eV) := h1.but ((But.refl ([] : List Nat) w1).alloc _) (by simp) (by simp) (by simp)
  have HO3 : Hid (OT B (w1.alloc (.cells #[.int .i64 k0, .string k1, .int .i64 k2] 89)) (.slice va xs.length vc) xs) := HO.out.low HB3.out (fun b z => by rw [List.mem_singleton.1 z]; exact Or.inl hP)
  have cq := RQ3.cell (i := 0) (by omega)
  have cx := RX3.cell (i := 0) (by omega)
  have ce := HP3.out.ev
  have hs1 : w.heap.size ≤ w1.heap.size := Nat.le_trans HB2.out.size b1.size
  clear h1 b1 RQ RX HP HB2
  go_wp2
  exact ⟨rfl, by rw [HR.out]; exact ⟨HB3.out.more (fun k z => by rw [List.mem_singleton.1 z]; simp), rfl⟩⟩

set_option maxRecDepth 100000 in
set_option maxHeartbeats 2000000 in
theorem base_brk {B P tb o : Nat} {ts : List TK} {eT : TypeId} {eV : Value} {f : Nat} (IH : TyC B P tb o ts eT eV f) (hP : P < B) (htb : tb < B) {i : Nat} {w : World} {v : Value} {xs : List (TI × NPl)} (hps : PsAt w P tb o i ts eT eV) (hot : OT B w v xs) (hxi : xs.length ≤ i) (hB : B ≤ w.heap.size) (hf : ts.length - i < f + 1) (hc : isC ts i 1 = false) (hs : isT ts i sLeft = true) :
    Calls Tryz.prog 79 #[.pointer (some ⟨P, 0, none⟩), v] w (TyR B P tb o ts eT eV w v xs (baseP true ts (tyP true ts f) i)) := by
  have hi := isT_lt hs
  have HIH : Hid (TyC B P tb o ts eT eV f) := IH
  clear IH
  have HR : Hid (baseP true ts (tyP true ts f) i = brkP ts (tyP true ts f) (i + 1)) := by
    show _ = _
    unfold baseP
    rw [hc, if_neg (by decide)]
    rw [isT_one hs (s' := sInt) (by decide), if_neg (by decide)]
    rw [isT_one hs (s' := sBool) (by decide), if_neg (by decide)]
    rw [isT_one hs (s' := sAny) (by decide), if_neg (by decide)]
    rw [isT_one hs (s' := sOpen) (by decide), if_neg (by decide)]
    rw [if_pos hs]
  have q0 : ((tkA ts i).txt.toList == [105, 110, 116]) = false := text_not hs _ (by decide)
  have q1 : ((tkA ts i).txt.toList == [98, 111, 111, 108]) = false := text_not hs _ (by decide)
  have q2 : ((tkA ts i).txt.toList == [63]) = false := text_not hs _ (by decide)
  have q3 : ((tkA ts i).txt.toList == [123]) = false := text_not hs _ (by decide)
  have q4 : ((tkA ts i).txt.toList == [40]) = true := text_yes hs
  rw [isC_at hi] at hc
  clear hs
  have HP : Hid (PsAt w P tb o i ts eT eV) := hps
  obtain ⟨va, vc, rfl⟩ := own_form hot.own
  have HO : Hid (OT B w (.slice va xs.length vc) xs) := hot
  have hn := hps.tk.len
  have hl9 := hps.le
  clear hps hot
  obtain ⟨W2, hW2⟩ : ∃ W2, W2 = (w.alloc (.cells #[.pointer (some ⟨P, 0, none⟩)] 98)).alloc (.cells #[.slice va xs.length vc] 55) := ⟨_, rfl⟩
  have HB2 : Hid (But [] w W2) := by show But [] w W2; rw [hW2]; exact ((But.refl _ _).alloc _).alloc _
  have RQ : W2.rowIs w.heap.size 98 1 (fun _ => .pointer (some ⟨P, 0, none⟩)) := by rw [hW2]; exact (row1 _ _ _).alloc _
  have RX : W2.rowIs (w.heap.size + 1) 55 1 (fun _ => .slice va xs.length vc) := by
    have := row1 (w.alloc (.cells #[.pointer (some ⟨P, 0, none⟩)] 98)) (.slice va xs.length vc) 55
    simp only [World.size_alloc] at this
    rw [hW2]; exact this
  obtain ⟨i0, hi0, hz0, hz1, hz2⟩ := info_parts Tryz.infoTI
  go_enter Tryz.func79, Tryz.ntmps79
  go_wp2_with fail
  rw [← hW2]
  clear hW2
  refine (p_next W2 (HP.out.but HB2.out (by simp) (by simp) (by simp)) hi).mono ?_
  rintro e w1 ⟨rfl, h1, b1⟩
  unfold tkV
  obtain ⟨k0, hk0⟩ : ∃ k, k = (tkA ts i).cls := ⟨_, rfl⟩
  obtain ⟨k1, hk1⟩ : ∃ k, k = (tkA ts i).txt := ⟨_, rfl⟩
  obtain ⟨k2, hk2⟩ : ∃ k, k = ((tkA ts i).loc : Int) := ⟨_, rfl⟩
  have HK1 : Hid (tx ts i = k1) := by show _ = _; rw [hk1, tx_at hi]
  rw [← hk0] at hc
  rw [← hk1] at q0 q1 q2 q3 q4
  rw [← hk0, ← hk1, ← hk2]
  clear hk0 hk1 hk2
  have HB3 : Hid (But [P] w (w1.alloc (.cells #[.int .i64 k0, .string k1, .int .i64 k2] 89))) := ((HB2.out.more (S' := [P]) (fun _ z => by simp at z)).then_ b1).alloc _
  have RQ3 := (RQ.of_block (b1.block _ RQ.lt (by simp; omega))).alloc (.cells #[.int .i64 k0, .string k1, .int .i64 k2] 89)
  have RX3 := (RX.of_block (b1.block _ RX.lt (by simp; omega))).alloc (.cells #[.int .i64 k0, .string k1, .int .i64 k2] 89)
  have HP3 : Hid (PsAt (w1.alloc (.cells #[.int .i64 k0, .string k1, .int .i64 k2] 89)) P tb o (i + 1) ts eT eV) := h1.but ((But.refl ([] : List Nat) w1).alloc _) (by simp) (by simp) (by simp)
  have HO3 : Hid (OT B (w1.alloc (.cells #[.int .i64 k0, .string k1, .int .i64 k2] 89)) (.slice va xs.length vc) xs) := HO.out.low HB3.out (fun b z => by rw [List.mem_singleton.1 z]; exact Or.inl hP)
  have cq := RQ3.cell (i := 0) (by omega)
  have cx := RX3.cell (i := 0) (by omega)
  have ce := HP3.out.ev
  have hs1 : w.heap.size ≤ w1.heap.size := Nat.le_trans HB2.out.size b1.size
  clear h1 b1 RQ RX HP HB2
  go_wp2_with fail
  obtain ⟨W3, hW3⟩ : ∃ W3, W3 = w1.alloc (.cells #[.int .i64 k0, .string k1, .int .i64 k2] 89) := ⟨_, rfl⟩
  rw [← hW3] at HB3 RQ3 RX3 HP3 HO3 cq cx ce ⊢
  clear hW3
  have hs3 := HB3.out.size
  refine (HIH.out (i + 1) W3 (.slice va xs.length vc) xs HP3.out HO3.out (by omega) (by omega) (by omega)).mono ?_
  intro e w4 hT
  obtain ⟨b4, hT⟩ := hT
  have HB4 : Hid (But (P :: (Value.slice va xs.length vc).ownBlock.toList) w w4) := (HB3.out.more (S' := P :: (Value.slice va xs.length vc).ownBlock.toList) (fun k z => by rw [List.mem_singleton.1 z]; simp)).then_ b4
  cases ht : tyP true ts f (i + 1) with
  | none =>
    rw [ht] at hT
    have hT : e = .panicked [{ v := .iface eT eV, recovered := false }] := hT
    subst hT
    have HR2 : Hid (brkP ts (tyP true ts f) (i + 1) = none) := by show _ = _; unfold brkP; rw [ht]
    clear ht b4
    go_wp2
    exact ⟨rfl, by rw [HR.out, HR2.out]; exact ⟨HB4.out, rfl⟩⟩
  | some r =>
    obtain ⟨l, j⟩ := r
    rw [ht] at hT
    obtain ⟨v', ys, rfl, O4, hl, P4, gr, nw⟩ := hT
    have nX : w.heap.size + 1 ∉ P :: (Value.slice va xs.length vc).ownBlock.toList := fun z => by
      rcases List.mem_cons.1 z with q | q
      · omega
      · have := (HO.out.own.lt _ (by simpa using q)).2
        omega
    have nQ : w.heap.size ∉ P :: (Value.slice va xs.length vc).ownBlock.toList := fun z => by
      rcases List.mem_cons.1 z with q | q
      · omega
      · have := (HO.out.own.lt _ (by simpa using q)).2
        omega
    have RX4 := RX3.of_block (b4.block _ RX3.lt nX)
    have RQ4 := RQ3.of_block (b4.block _ RQ3.lt nQ)
    have HY : Hid (ys.map Prod.fst = l) := hl
    have HTY : Hid (tyP true ts f (i + 1) = some (l, j)) := ht
    have HGR : Hid (∀ b, v'.ownBlock = some b → (Value.slice va xs.length vc).ownBlock = some b ∨ w.heap.size ≤ b) := fun b e => by
      rcases gr b e with q | q
      · exact Or.inl q
      · exact Or.inr (by omega)
    obtain ⟨va', vc', hv'⟩ := own_form O4.own
    obtain ⟨n', hn'⟩ : ∃ n', n' = (xs ++ ys).length := ⟨_, rfl⟩
    rw [← hn'] at hv'
    subst hv'
    clear hn'
    have cx4 := RX4.cell (i := 0) (by omega)
    have cf4 := RX4.frozen 0
    have RX5 : (w4.setCell ⟨w.heap.size + 1, 0, none⟩ (.slice va' n' vc')).rowIs (w.heap.size + 1) 55 1 (fun _ => .slice va' n' vc') := (RX4.set 0 _).congr (fun k hk => by
      match k, hk with
      | 0, _ => rfl)
    have RQ5 := RQ4.setOther (a := ⟨w.heap.size + 1, 0, none⟩) (by show w.heap.size ≠ w.heap.size + 1; omega) (.slice va' n' vc')
    have cq5 := RQ5.cell (i := 0) (by omega)
    have cx5 := RX5.cell (i := 0) (by omega)
    have b45 : But [w.heap.size + 1] w4 (w4.setCell ⟨w.heap.size + 1, 0, none⟩ (.slice va' n' vc')) := (But.refl _ _).set (fun _ => by simp) 0 _
    have HB5 : Hid (But (P :: (Value.slice va xs.length vc).ownBlock.toList) w (w4.setCell ⟨w.heap.size + 1, 0, none⟩ (.slice va' n' vc'))) := HB4.out.trans b45 (fun k z h => by rw [List.mem_singleton.1 z] at h; omega)
    have HP5 : Hid (PsAt (w4.setCell ⟨w.heap.size + 1, 0, none⟩ (.slice va' n' vc')) P tb o j ts eT eV) := P4.but b45 (by simp; omega) (by simp; omega) (by simp)
    have HO5 : Hid (OT B (w4.setCell ⟨w.heap.size + 1, 0, none⟩ (.slice va' n' vc')) (.slice va' n' vc') (xs ++ ys)) := O4.box RX4 (by decide) (by decide) _ _
    have HNW : Hid (∀ b, b ∈ tisB ys → w.heap.size ≤ b) := fun b hb => by have := nw b hb; omega
    clear ht hl gr nw b4 O4 P4 RX4 RQ4 RQ3 RX3 cq cx b45 nX nQ
    go_wp2_with fail
    obtain ⟨W5, hW5⟩ : ∃ W5, W5 = w4.setCell ⟨w.heap.size + 1, 0, none⟩ (.slice va' n' vc') := ⟨_, rfl⟩
    rw [← hW5] at HB5 HP5 HO5 RX5 RQ5 cq5 cx5 ⊢
    clear hW5 cx4 cf4
    cases hr : isT ts j sRight
    case false =>
      have HR2 : Hid (brkP ts (tyP true ts f) (i + 1) = none) := by
        show _ = _
        unfold brkP
        rw [HTY.out]
        show (if isT ts j sRight = true then _ else none) = none
        rw [hr]; rfl
      refine (p_need_no ⟨#[41]⟩ W5 HP5.out hr).mono ?_
      rintro e w6 ⟨rfl, rfl⟩
      clear hr
      go_wp2
      exact ⟨rfl, by rw [HR.out, HR2.out]; exact ⟨HB5.out, rfl⟩⟩
    have HR2 : Hid (brkP ts (tyP true ts f) (i + 1) = some (l, j + 1)) := by
      show _ = _
      unfold brkP
      rw [HTY.out]
      show (if isT ts j sRight = true then _ else none) = _
      rw [hr]; rfl
    refine (p_need ⟨#[41]⟩ W5 HP5.out hr).mono ?_
    rintro e w6 ⟨rfl, h6, b6⟩
    have RX6 := RX5.of_block (b6.block _ RX5.lt (by simp; omega))
    have cx6 := RX6.cell (i := 0) (by omega)
    have HO6 : Hid (OT B w6 (.slice va' n' vc') (xs ++ ys)) := HO5.out.low b6 (fun b z => by rw [List.mem_singleton.1 z]; exact Or.inl hP)
    have HB6 : Hid (But (P :: (Value.slice va xs.length vc).ownBlock.toList) w w6) := HB5.out.then_ (b6.more (fun k z => by rw [List.mem_singleton.1 z]; simp))
    have HP6 : Hid (PsAt w6 P tb o (j + 1) ts eT eV) := h6
    clear hr b6 h6 RX5 RQ5 cq5 cx5 RX6
    go_wp2
    go_ret
    rw [HR.out, HR2.out]
    exact ⟨HB6.out, _, ys, rfl, HO6.out, HY.out, HP6.out, HGR.out, HNW.out⟩

end Go.Proofs.YtdjkgilohhjfoaaGreatDoor
