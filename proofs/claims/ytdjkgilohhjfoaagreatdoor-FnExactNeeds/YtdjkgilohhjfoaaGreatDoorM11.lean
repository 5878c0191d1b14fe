/-
  Merged for the claim: PeD PeE.
-/
import Derived.Test.YtdjkgilohhjfoaaGreatDoorM10
namespace Go.Proofs.YtdjkgilohhjfoaaGreatDoor
open Go.RowKit

theorem dc_typed {B : Nat} {w : World} {v : Value} {ys : List (TI × NPl)} (h : OT B w v ys) {l : List TI} (hm : ys.map Prod.fst = l) (k : Int) (nm : ByteArray) : DcOK B w ⟨k, nm, l, []⟩ ⟨v, ys, .slice none 0 0, []⟩ :=
  ⟨h, hm, OE.nil _ _, rfl, by
    show ((v.ownBlock.toList ++ tisB ys) ++ []).Nodup
    rw [List.append_nil]
    cases hv : v.ownBlock with
    | none => exact h.nd
    | some b => exact List.nodup_cons.2 ⟨fun hb => h.sep hb hv, h.nd⟩⟩
theorem dB_typed {v : Value} {ys : List (TI × NPl)} {b : Nat} (h : b ∈ dB ⟨v, ys, .slice none 0 0, []⟩) : v.ownBlock = some b ∨ b ∈ tisB ys := by
  have h' : b ∈ (v.ownBlock.toList ++ tisB ys) ++ [] := h
  rw [List.append_nil, List.mem_append] at h'
  exact h'.imp (fun z => by simpa using z) id

set_option maxRecDepth 100000 in
set_option maxHeartbeats 2000000 in
theorem decl_type {B P tb o : Nat} {ts : List TK} {eT : TypeId} {eV : Value} (hP : P < B) (htb : tb < B) {w : World} (hps : PsAt w P tb o 0 ts eT eV) (hB : B ≤ w.heap.size) (hs : isT ts 0 sType = true) :
    Calls Tryz.prog 58 #[.pointer (some ⟨P, 0, none⟩)] w (DcR B P tb o ts eT eV w (decR true ts)) := by
  have hi := isT_lt hs
  have q0 : ((tkA ts 0).txt.toList == [105, 109, 112, 111, 114, 116]) = false := text_not hs _ (by decide)
  have q1 : ((tkA ts 0).txt.toList == [116, 121, 112, 101]) = true := text_yes hs
  have HS : Hid (decR true ts = if isC ts 1 1 && isT ts 2 sEq then (match tyP true ts (ts.length + 1) 3 with | none => none | some (t, j) => some (⟨2, tx ts 1, t, []⟩, j)) else none) := by
    show _ = _
    have e0 : isT ts 0 sImport = false := by
      cases e : isT ts 0 sImport with
      | false => rfl
      | true => rw [show ((tkA ts 0).txt.toList == [105, 109, 112, 111, 114, 116]) = true from text_yes e] at q0; cases q0
    unfold decR
    rw [e0, hs]; rfl
  have HP : Hid (PsAt w P tb o 0 ts eT eV) := hps
  have h0 := hps.pos
  clear hps
  obtain ⟨W1, hW1⟩ : ∃ W1, W1 = w.alloc (.cells #[.int .i64 0, .string ⟨#[]⟩, .slice none 0 0, .slice none 0 0] 58) := ⟨_, rfl⟩
  have HB1 : Hid (But [] w W1) := by show But [] w W1; rw [hW1]; exact (But.refl _ _).alloc _
  have RR : W1.rowIs w.heap.size 58 4 (v4 (.int .i64 0) (.string ⟨#[]⟩) (.slice none 0 0) (.slice none 0 0)) := by rw [hW1]; exact row4 _ _ _ _ _ _
  go_enter Tryz.func58, Tryz.ntmps58
  go_wp2_with fail
  rw [← hW1]
  clear hW1
  refine (p_next W1 (HP.out.but HB1.out (by simp) (by simp) (by simp)) hi).mono ?_
  rintro e w2 ⟨rfl, p2, b2⟩
  unfold tkV
  obtain ⟨k0, hk0⟩ : ∃ k, k = (tkA ts 0).cls := ⟨_, rfl⟩
  obtain ⟨k1, hk1⟩ : ∃ k, k = (tkA ts 0).txt := ⟨_, rfl⟩
  obtain ⟨k2, hk2⟩ : ∃ k, k = ((tkA ts 0).loc : Int) := ⟨_, rfl⟩
  rw [← hk1] at q0 q1
  rw [← hk0, ← hk1, ← hk2]
  clear hk0 hk1 hk2 hs
  have HP2 : Hid (PsAt w2 P tb o 1 ts eT eV) := p2
  have HB2 : Hid (But [P] w w2) := (HB1.out.more (S' := [P]) (fun _ z => by simp at z)).then_ b2
  have R2 := RR.of_block (b2.block _ RR.lt (by simp; omega))
  clear p2 b2 RR
  go_wp2_with fail
  rw [tk_text]
  go_wp2_with fail
  cases hc : isC ts 1 1
  case false =>
    have HR : Hid (decR true ts = none) := by show _ = _; rw [HS.out, hc]; rfl
    refine (p_name_no w2 HP2.out hc).mono ?_
    rintro e w3 ⟨rfl, b3⟩
    have HB3 : Hid (But [P] w w3) := HB2.out.then_ b3
    clear hc b3
    go_wp2
    exact ⟨rfl, by rw [HR.out]; exact ⟨HB3.out, rfl⟩⟩
  refine (p_name w2 HP2.out hc).mono ?_
  rintro e w3 ⟨rfl, p3, b3⟩
  have HP3 : Hid (PsAt w3 P tb o 2 ts eT eV) := p3
  have HB3 : Hid (But [P] w w3) := HB2.out.then_ b3
  have R3 := R2.of_block (b3.block _ R2.lt (by simp; omega))
  have HC : Hid (isC ts 1 1 = true) := hc
  clear hc p3 b3 R2
  go_wp2_with fail
  obtain ⟨W4, hW4⟩ : ∃ W4, W4 = w3.alloc (.cells #[.int .i64 2, .string (tx ts 1), .slice none 0 0, .slice none 0 0] 58) := ⟨_, rfl⟩
  have HB4 : Hid (But [P] w W4) := by show But [P] w W4; rw [hW4]; exact HB3.out.alloc _
  have HP4 : Hid (PsAt W4 P tb o 2 ts eT eV) := by show PsAt W4 P tb o 2 ts eT eV; rw [hW4]; exact HP3.out.but ((But.refl ([] : List Nat) w3).alloc _) (by simp) (by simp) (by simp)
  have R4 : W4.rowIs w.heap.size 58 4 (v4 (.int .i64 0) (.string ⟨#[]⟩) (.slice none 0 0) (.slice none 0 0)) := by rw [hW4]; exact R3.alloc _
  have D4 : W4.rowIs w3.heap.size 58 4 (v4 (.int .i64 2) (.string (tx ts 1)) (.slice none 0 0) (.slice none 0 0)) := by rw [hW4]; exact row4 _ _ _ _ _ _
  rw [← hW4]
  have h43 : w.heap.size < w3.heap.size := R3.lt
  clear hW4 R3
  cases he : isT ts 2 sEq
  case false =>
    have HR : Hid (decR true ts = none) := by show _ = _; rw [HS.out, HC.out, he]; rfl
    refine (p_need_no ⟨#[61]⟩ W4 HP4.out he).mono ?_
    rintro e w5 ⟨rfl, rfl⟩
    clear he
    go_wp2
    exact ⟨rfl, by rw [HR.out]; exact ⟨HB4.out, rfl⟩⟩
  refine (p_need ⟨#[61]⟩ W4 HP4.out he).mono ?_
  rintro e w5 ⟨rfl, p5, b5⟩
  have HS5 : Hid (decR true ts = (match tyP true ts (ts.length + 1) 3 with | none => none | some (t, j) => some (⟨2, tx ts 1, t, []⟩, j))) := by show _ = _; rw [HS.out, HC.out, he]; rfl
  have HB5 : Hid (But [P] w w5) := HB4.out.then_ b5
  have HP5 : Hid (PsAt w5 P tb o 3 ts eT eV) := p5
  have R5 := R4.of_block (b5.block _ R4.lt (by simp; omega))
  have D5 := D4.of_block (b5.block _ D4.lt (by simp; omega))
  clear he p5 b5 R4 D4
  go_wp2_with fail
  refine (ty_all hP htb (ts.length + 1) 3 w5 (.slice none 0 0) [] HP5.out (OT.nil _ _) (Nat.zero_le _) (by omega) (Nat.le_trans hB HB5.out.size)).mono ?_
  cases ht : tyP true ts (ts.length + 1) 3 with
  | none =>
    have HR : Hid (decR true ts = none) := by show _ = _; rw [HS5.out, ht]
    rintro e w6 ⟨b6, rfl⟩
    have HB6 : Hid (But [P] w w6) := HB5.out.then_ b6
    clear ht b6
    go_wp2
    exact ⟨rfl, by rw [HR.out]; exact ⟨HB6.out, rfl⟩⟩
  | some r =>
    obtain ⟨l, j⟩ := r
    have HR : Hid (decR true ts = some (⟨2, tx ts 1, l, []⟩, j)) := by show _ = _; rw [HS5.out, ht]
    rintro e w6 ⟨b6, v', ys, rfl, o6, m6, p6, g6, n6⟩
    have HB6 : Hid (But [P] w w6) := HB5.out.then_ b6
    have HP6 : Hid (PsAt w6 P tb o j ts eT eV) := p6
    have o6' : OT B w6 v' ys := o6
    clear o6
    obtain ⟨va, vc, rfl⟩ := own_form o6'.own
    obtain ⟨n, hn⟩ : ∃ n, n = ys.length := ⟨_, rfl⟩
    rw [← hn] at o6' g6 ⊢
    clear hn
    have HO6 : Hid (OT B w6 (.slice va n vc) ys) := o6'
    have HM6 : Hid (ys.map Prod.fst = l) := m6
    have HG6 : Hid (∀ b, (Value.slice va n vc).ownBlock = some b → w5.heap.size ≤ b) := fun b z => (g6 b z).resolve_left (fun y => by cases y)
    have HN6 : Hid (∀ b, b ∈ tisB ys → w5.heap.size ≤ b) := n6
    have R6 := R5.of_block (b6.block _ R5.lt (by show _ ∉ [P]; simp; omega))
    have D6 := D5.of_block (b6.block _ D5.lt (by show _ ∉ [P]; simp; omega))
    have hx5 := D5.lt
    have cd0 : w6.cell? ⟨w3.heap.size, 0, none⟩ = some (.int .i64 2) := D6.cell (i := 0) (by omega)
    have cd1 : w6.cell? ⟨w3.heap.size, 1, none⟩ = some (.string (tx ts 1)) := D6.cell (i := 1) (by omega)
    have cd2 : w6.cell? ⟨w3.heap.size, 2, none⟩ = some (.slice none 0 0) := D6.cell (i := 2) (by omega)
    have cd3 : w6.cell? ⟨w3.heap.size, 3, none⟩ = some (.slice none 0 0) := D6.cell (i := 3) (by omega)
    have fd0 := D6.frozen 0
    have fd1 := D6.frozen 1
    have fd2 := D6.frozen 2
    have fd3 := D6.frozen 3
    have c0 : w6.cell? ⟨w.heap.size, 0, none⟩ = some (.int .i64 0) := R6.cell (i := 0) (by omega)
    have c1 : w6.cell? ⟨w.heap.size, 1, none⟩ = some (.string ⟨#[]⟩) := R6.cell (i := 1) (by omega)
    have c2 : w6.cell? ⟨w.heap.size, 2, none⟩ = some (.slice none 0 0) := R6.cell (i := 2) (by omega)
    have c3 : w6.cell? ⟨w.heap.size, 3, none⟩ = some (.slice none 0 0) := R6.cell (i := 3) (by omega)
    have z0 := R6.frozen 0
    have z1 := R6.frozen 1
    have z2 := R6.frozen 2
    have z3 := R6.frozen 3
    clear ht b6 o6' m6 p6 g6 n6 R5 D5
    go_wp2
    refine bodyPost_ret (dc_ret (R6.setOther (a := ⟨w3.heap.size, 2, none⟩) (by show w.heap.size ≠ w3.heap.size; omega) _) _ _ _ _ _ rfl) rfl ?_
    rw [HR.out]
    have QA : ∀ {W : World} (b n : Nat) (v : Value), b = w.heap.size ∨ b = w3.heap.size → But [w.heap.size, w3.heap.size] w6 W → But [w.heap.size, w3.heap.size] w6 (W.setCell ⟨b, n, none⟩ v) := fun b n v hb h => h.set (fun _ => by simp; exact hb) n v
    have QQ := QA w.heap.size 3 (.slice none 0 0) (Or.inl rfl) (QA w.heap.size 2 (.slice va n vc) (Or.inl rfl) (QA w.heap.size 1 (.string (tx ts 1)) (Or.inl rfl) (QA w.heap.size 0 (.int .i64 2) (Or.inl rfl) (QA w3.heap.size 2 (.slice va n vc) (Or.inr rfl) (But.refl _ _)))))
    have h5 := HB5.out.size
    refine ⟨HB6.out.trans QQ (fun k hk hl => by simp at hk; omega), ⟨.slice va n vc, ys, .slice none 0 0, []⟩, rfl, dc_typed (HO6.out.but QQ (fun b hb => ?_) (fun b hb => ?_)) HM6.out _ _, HP6.out.but QQ (by simp; omega) (by simp; omega) (by simp; omega), fun b hb => ?_⟩
    · have := HG6.out b hb; simp; omega
    · have := HN6.out b hb; simp; omega
    · rcases dB_typed hb with z | z
      · exact Nat.le_trans h5 (HG6.out b z)
      · exact Nat.le_trans h5 (HN6.out b z)

end Go.Proofs.YtdjkgilohhjfoaaGreatDoor

namespace Go.Proofs.YtdjkgilohhjfoaaGreatDoor
open Go.RowKit

theorem OE.sep {B : Nat} {w : World} {v : Value} {xs : List (EI × EPl)} (h : OE B w v xs) {b : Nat} (hb : b ∈ eisB xs) : v.ownBlock ≠ some b := by
  obtain ⟨x, hx, hb⟩ := mem_eisB hb
  exact own_ei h.own (by decide) (by decide) (h.ok x hx) hb

theorem mem_dB {v u : Value} {ys : List (TI × NPl)} {zs : List (EI × EPl)} {b : Nat} (h : b ∈ dB ⟨v, ys, u, zs⟩) : (v.ownBlock = some b ∨ b ∈ tisB ys) ∨ u.ownBlock = some b ∨ b ∈ eisB zs := by
  have h' : b ∈ (v.ownBlock.toList ++ tisB ys) ++ (u.ownBlock.toList ++ eisB zs) := h
  rw [List.mem_append, List.mem_append, List.mem_append] at h'
  exact h'.imp (fun z => z.imp (fun z => by simpa using z) id) (fun z => z.imp (fun z => by simpa using z) id)

theorem dc_full {B : Nat} {w : World} {v u : Value} {ys : List (TI × NPl)} {zs : List (EI × EPl)} (h : OT B w v ys) (g : OE B w u zs) {l : List TI} {m : List EI} (hl : ys.map Prod.fst = l) (hm : zs.map Prod.fst = m) (M : Nat)
    (h1 : ∀ b, v.ownBlock = some b → b < M) (h2 : ∀ b, b ∈ tisB ys → b < M) (g1 : ∀ b, u.ownBlock = some b → M ≤ b) (g2 : ∀ b, b ∈ eisB zs → M ≤ b) (k : Int) (nm : ByteArray) : DcOK B w ⟨k, nm, l, m⟩ ⟨v, ys, u, zs⟩ :=
  ⟨h, hl, g, hm, by
    show ((v.ownBlock.toList ++ tisB ys) ++ (u.ownBlock.toList ++ eisB zs)).Nodup
    refine List.nodup_append.2 ⟨?_, ?_, fun a ha b hb e => ?_⟩
    · cases hv : v.ownBlock with
      | none => exact h.nd
      | some b => exact List.nodup_cons.2 ⟨fun hb => h.sep hb hv, h.nd⟩
    · cases hv : u.ownBlock with
      | none => exact g.nd
      | some b => exact List.nodup_cons.2 ⟨fun hb => g.sep hb hv, g.nd⟩
    · have x1 : a < M := (List.mem_append.1 ha).elim (fun z => h1 a (by simpa using z)) (fun z => h2 a z)
      have x2 : M ≤ b := (List.mem_append.1 hb).elim (fun z => g1 b (by simpa using z)) (fun z => g2 b z)
      omega⟩

set_option maxRecDepth 100000 in
set_option maxHeartbeats 2000000 in
theorem decl_val {B P tb o : Nat} {ts : List TK} (HN : NumC ts) {eT : TypeId} {eV : Value} (hP : P < B) (htb : tb < B) {w : World} (hps : PsAt w P tb o 0 ts eT eV) (hB : B ≤ w.heap.size) (hs : isT ts 0 sVal = true) :
    Calls Tryz.prog 58 #[.pointer (some ⟨P, 0, none⟩)] w (DcR B P tb o ts eT eV w (decR true ts)) := by
  have hi := isT_lt hs
  have q0 : ((tkA ts 0).txt.toList == [105, 109, 112, 111, 114, 116]) = false := text_not hs _ (by decide)
  have q1 : ((tkA ts 0).txt.toList == [116, 121, 112, 101]) = false := text_not hs _ (by decide)
  have q2 : ((tkA ts 0).txt.toList == [118, 97, 108]) = true := text_yes hs
  have HS : Hid (decR true ts = if isC ts 1 1 && isT ts 2 sColon then (match tyP true ts (ts.length + 1) 3 with | none => none | some (t, j) => if isT ts j sEq then (match exP true ts (ts.length + 1) (j + 1) with | none => none | some (x, k) => some (⟨3, tx ts 1, t, x⟩, k)) else none) else none) := by
    show _ = _
    have e0 : isT ts 0 sImport = false := by
      cases e : isT ts 0 sImport with
      | false => rfl
      | true => rw [show ((tkA ts 0).txt.toList == [105, 109, 112, 111, 114, 116]) = true from text_yes e] at q0; cases q0
    have e1 : isT ts 0 sType = false := by
      cases e : isT ts 0 sType with
      | false => rfl
      | true => rw [show ((tkA ts 0).txt.toList == [116, 121, 112, 101]) = true from text_yes e] at q1; cases q1
    unfold decR
    rw [e0, e1, hs]; rfl
  have HP : Hid (PsAt w P tb o 0 ts eT eV) := hps
  have h0 := hps.pos
  clear hps
  obtain ⟨W1, hW1⟩ : ∃ W1, W1 = w.alloc (.cells #[.int .i64 0, .string ⟨#[]⟩, .slice none 0 0, .slice none 0 0] 58) := ⟨_, rfl⟩
  have HB1 : Hid (But [] w W1) := by show But [] w W1; rw [hW1]; exact (But.refl _ _).alloc _
  have RR : W1.rowIs w.heap.size 58 4 (v4 (.int .i64 0) (.string ⟨#[]⟩) (.slice none 0 0) (.slice none 0 0)) := by rw [hW1]; exact row4 _ _ _ _ _ _
  go_enter Tryz.func58, Tryz.ntmps58
  go_wp2_with fail
  rw [← hW1]
  clear hW1
  refine (p_next W1 (HP.out.but HB1.out (by simp) (by simp) (by simp)) hi).mono ?_
  rintro e w2 ⟨rfl, p2, b2⟩
  unfold tkV
  obtain ⟨k0, hk0⟩ : ∃ k, k = (tkA ts 0).cls := ⟨_, rfl⟩
  obtain ⟨k1, hk1⟩ : ∃ k, k = (tkA ts 0).txt := ⟨_, rfl⟩
  obtain ⟨k2, hk2⟩ : ∃ k, k = ((tkA ts 0).loc : Int) := ⟨_, rfl⟩
  rw [← hk1] at q0 q1 q2
  rw [← hk0, ← hk1, ← hk2]
  clear hk0 hk1 hk2 hs
  have HP2 : Hid (PsAt w2 P tb o 1 ts eT eV) := p2
  have HB2 : Hid (But [P] w w2) := (HB1.out.more (S' := [P]) (fun _ z => by simp at z)).then_ b2
  have R2 := RR.of_block (b2.block _ RR.lt (by simp; omega))
  clear p2 b2 RR
  go_wp2_with fail
  rw [tk_text]
  go_wp2_with fail
  cases hc : isC ts 1 1
  case false =>
    have HR : Hid (decR true ts = none) := by show _ = _; rw [HS.out, hc]; rfl
    refine (p_name_no w2 HP2.out hc).mono ?_
    rintro e w3 ⟨rfl, b3⟩
    have HB3 : Hid (But [P] w w3) := HB2.out.then_ b3
    clear hc b3
    go_wp2
    exact ⟨rfl, by rw [HR.out]; exact ⟨HB3.out, rfl⟩⟩
  refine (p_name w2 HP2.out hc).mono ?_
  rintro e w3 ⟨rfl, p3, b3⟩
  have HP3 : Hid (PsAt w3 P tb o 2 ts eT eV) := p3
  have HB3 : Hid (But [P] w w3) := HB2.out.then_ b3
  have R3 := R2.of_block (b3.block _ R2.lt (by simp; omega))
  have HC : Hid (isC ts 1 1 = true) := hc
  clear hc p3 b3 R2
  go_wp2_with fail
  obtain ⟨W4, hW4⟩ : ∃ W4, W4 = w3.alloc (.cells #[.int .i64 3, .string (tx ts 1), .slice none 0 0, .slice none 0 0] 58) := ⟨_, rfl⟩
  have HB4 : Hid (But [P] w W4) := by show But [P] w W4; rw [hW4]; exact HB3.out.alloc _
  have HP4 : Hid (PsAt W4 P tb o 2 ts eT eV) := by show PsAt W4 P tb o 2 ts eT eV; rw [hW4]; exact HP3.out.but ((But.refl ([] : List Nat) w3).alloc _) (by simp) (by simp) (by simp)
  have R4 : W4.rowIs w.heap.size 58 4 (v4 (.int .i64 0) (.string ⟨#[]⟩) (.slice none 0 0) (.slice none 0 0)) := by rw [hW4]; exact R3.alloc _
  have D4 : W4.rowIs w3.heap.size 58 4 (v4 (.int .i64 3) (.string (tx ts 1)) (.slice none 0 0) (.slice none 0 0)) := by rw [hW4]; exact row4 _ _ _ _ _ _
  rw [← hW4]
  have h43 : w.heap.size < w3.heap.size := R3.lt
  clear hW4 R3
  cases he : isT ts 2 sColon
  case false =>
    have HR : Hid (decR true ts = none) := by show _ = _; rw [HS.out, HC.out, he]; rfl
    refine (p_need_no ⟨#[58]⟩ W4 HP4.out he).mono ?_
    rintro e w5 ⟨rfl, rfl⟩
    clear he
    go_wp2
    exact ⟨rfl, by rw [HR.out]; exact ⟨HB4.out, rfl⟩⟩
  refine (p_need ⟨#[58]⟩ W4 HP4.out he).mono ?_
  rintro e w5 ⟨rfl, p5, b5⟩
  have HS5 : Hid (decR true ts = (match tyP true ts (ts.length + 1) 3 with | none => none | some (t, j) => if isT ts j sEq then (match exP true ts (ts.length + 1) (j + 1) with | none => none | some (x, k) => some (⟨3, tx ts 1, t, x⟩, k)) else none)) := by show _ = _; rw [HS.out, HC.out, he]; rfl
  have HB5 : Hid (But [P] w w5) := HB4.out.then_ b5
  have HP5 : Hid (PsAt w5 P tb o 3 ts eT eV) := p5
  have R5 := R4.of_block (b5.block _ R4.lt (by simp; omega))
  have D5 := D4.of_block (b5.block _ D4.lt (by simp; omega))
  clear he p5 b5 R4 D4
  go_wp2_with fail
  refine (ty_all hP htb (ts.length + 1) 3 w5 (.slice none 0 0) [] HP5.out (OT.nil _ _) (Nat.zero_le _) (by omega) (Nat.le_trans hB HB5.out.size)).mono ?_
  cases ht : tyP true ts (ts.length + 1) 3 with
  | none =>
    have HR : Hid (decR true ts = none) := by show _ = _; rw [HS5.out, ht]
    rintro e w6 ⟨b6, rfl⟩
    have HB6 : Hid (But [P] w w6) := HB5.out.then_ b6
    clear ht b6
    go_wp2
    exact ⟨rfl, by rw [HR.out]; exact ⟨HB6.out, rfl⟩⟩
  | some r =>
    obtain ⟨l, j⟩ := r
    have HS6 : Hid (decR true ts = if isT ts j sEq then (match exP true ts (ts.length + 1) (j + 1) with | none => none | some (x, k) => some (⟨3, tx ts 1, l, x⟩, k)) else none) := by show _ = _; rw [HS5.out, ht]
    rintro e w6 ⟨b6, v', ys, rfl, o6, m6, p6, g6, n6⟩
    have HB6 : Hid (But [P] w w6) := HB5.out.then_ b6
    have HP6 : Hid (PsAt w6 P tb o j ts eT eV) := p6
    have o6' : OT B w6 v' ys := o6
    clear o6
    obtain ⟨va, vc, rfl⟩ := own_form o6'.own
    obtain ⟨n, hn⟩ : ∃ n, n = ys.length := ⟨_, rfl⟩
    rw [← hn] at o6' g6 ⊢
    clear hn
    have HO6 : Hid (OT B w6 (.slice va n vc) ys) := o6'
    have HM6 : Hid (ys.map Prod.fst = l) := m6
    have HG6 : Hid (∀ b, (Value.slice va n vc).ownBlock = some b → w5.heap.size ≤ b) := fun b z => (g6 b z).resolve_left (fun y => by cases y)
    have HN6 : Hid (∀ b, b ∈ tisB ys → w5.heap.size ≤ b) := n6
    have R6 := R5.of_block (b6.block _ R5.lt (by show _ ∉ [P]; simp; omega))
    have D6 := D5.of_block (b6.block _ D5.lt (by show _ ∉ [P]; simp; omega))
    have hx5 := D5.lt
    have H56 : Hid (w5.heap.size ≤ w6.heap.size) := b6.size
    have cd2 : w6.cell? ⟨w3.heap.size, 2, none⟩ = some (.slice none 0 0) := D6.cell (i := 2) (by omega)
    have fd2 := D6.frozen 2
    clear ht b6 o6' m6 p6 g6 n6 R5 D5
    go_wp2_with fail
    obtain ⟨W7, hW7⟩ : ∃ W7, W7 = w6.setCell ⟨w3.heap.size, 2, none⟩ (.slice va n vc) := ⟨_, rfl⟩
    have h5 := HB5.out.size
    have h65 : w5.heap.size ≤ w6.heap.size := H56.out
    have QS : But [w3.heap.size] w6 W7 := by rw [hW7]; exact (But.refl [w3.heap.size] w6).set (fun _ => by simp) 2 _
    have HB7 : Hid (But [P] w W7) := HB6.out.trans QS (fun k hk hl => by simp at hk; omega)
    have HP7 : Hid (PsAt W7 P tb o j ts eT eV) := HP6.out.but QS (by simp; omega) (by simp; omega) (by simp; omega)
    have HO7 : Hid (OT B W7 (.slice va n vc) ys) := HO6.out.but QS (fun b hb => by have := HG6.out b hb; simp; omega) (fun b hb => by have := HN6.out b hb; simp; omega)
    have R7 : W7.rowIs w.heap.size 58 4 (v4 (.int .i64 0) (.string ⟨#[]⟩) (.slice none 0 0) (.slice none 0 0)) := by rw [hW7]; exact R6.setOther (a := ⟨w3.heap.size, 2, none⟩) (by show w.heap.size ≠ w3.heap.size; omega) _
    have D7 : W7.rowIs w3.heap.size 58 4 (fun i => if i = 2 then .slice va n vc else v4 (.int .i64 3) (.string (tx ts 1)) (.slice none 0 0) (.slice none 0 0) i) := by rw [hW7]; exact D6.set 2 _
    rw [← hW7]
    clear hW7 R6 D6 cd2 fd2 QS
    cases he : isT ts j sEq
    case false =>
      have HR : Hid (decR true ts = none) := by show _ = _; rw [HS6.out, he]; rfl
      refine (p_need_no ⟨#[61]⟩ W7 HP7.out he).mono ?_
      rintro e w8 ⟨rfl, rfl⟩
      clear he
      go_wp2
      exact ⟨rfl, by rw [HR.out]; exact ⟨HB7.out, rfl⟩⟩
    refine (p_need ⟨#[61]⟩ W7 HP7.out he).mono ?_
    rintro e w8 ⟨rfl, p8, b8⟩
    have HS8 : Hid (decR true ts = (match exP true ts (ts.length + 1) (j + 1) with | none => none | some (x, k) => some (⟨3, tx ts 1, l, x⟩, k))) := by show _ = _; rw [HS6.out, he]; rfl
    have HB8 : Hid (But [P] w w8) := HB7.out.then_ b8
    have HP8 : Hid (PsAt w8 P tb o (j + 1) ts eT eV) := p8
    have HO8 : Hid (OT B w8 (.slice va n vc) ys) := HO7.out.low b8 (fun b z => by rw [List.mem_singleton.1 z]; exact Or.inl hP)
    have R8 := R7.of_block (b8.block _ R7.lt (by simp; omega))
    have D8 := D7.of_block (b8.block _ D7.lt (by simp; omega))
    clear he p8 b8 R7 D7
    go_wp2_with fail
    refine (ex_all HN hP htb (ts.length + 1) (j + 1) w8 (.slice none 0 0) [] HP8.out (OE.nil _ _) (Nat.zero_le _) (by omega) (Nat.le_trans hB HB8.out.size)).mono ?_
    cases hx : exP true ts (ts.length + 1) (j + 1) with
    | none =>
      have HR : Hid (decR true ts = none) := by show _ = _; rw [HS8.out, hx]
      rintro e w9 ⟨b9, rfl⟩
      have HB9 : Hid (But [P] w w9) := HB8.out.then_ b9
      clear hx b9
      go_wp2
      exact ⟨rfl, by rw [HR.out]; exact ⟨HB9.out, rfl⟩⟩
    | some r =>
      obtain ⟨m, k⟩ := r
      have HR : Hid (decR true ts = some (⟨3, tx ts 1, l, m⟩, k)) := by show _ = _; rw [HS8.out, hx]
      rintro e w9 ⟨b9, v', zs, rfl, o9, m9, p9, g9, n9⟩
      have HB9 : Hid (But [P] w w9) := HB8.out.then_ b9
      have HP9 : Hid (PsAt w9 P tb o k ts eT eV) := p9
      have HO9 : Hid (OT B w9 (.slice va n vc) ys) := HO8.out.low b9 (fun b z => by rw [List.mem_singleton.1 (show b ∈ [P] from z)]; exact Or.inl hP)
      have o9' : OE B w9 v' zs := o9
      clear o9
      obtain ⟨vb, vd, rfl⟩ := own_form o9'.own
      obtain ⟨n', hn'⟩ : ∃ n, n = zs.length := ⟨_, rfl⟩
      rw [← hn'] at o9' g9 ⊢
      clear hn'
      have HE9 : Hid (OE B w9 (.slice vb n' vd) zs) := o9'
      have HM9 : Hid (zs.map Prod.fst = m) := m9
      have HG9 : Hid (∀ b, (Value.slice vb n' vd).ownBlock = some b → w8.heap.size ≤ b) := fun b z => (g9 b z).resolve_left (fun y => by cases y)
      have HN9 : Hid (∀ b, b ∈ eisB zs → w8.heap.size ≤ b) := n9
      have R9 := R8.of_block (b9.block _ R8.lt (by show _ ∉ [P]; simp; omega))
      have D9 := D8.of_block (b9.block _ D8.lt (by show _ ∉ [P]; simp; omega))
      have hx8 := D8.lt
      have cd0 : w9.cell? ⟨w3.heap.size, 0, none⟩ = some (.int .i64 3) := D9.cell (i := 0) (by omega)
      have cd1 : w9.cell? ⟨w3.heap.size, 1, none⟩ = some (.string (tx ts 1)) := D9.cell (i := 1) (by omega)
      have cd2 : w9.cell? ⟨w3.heap.size, 2, none⟩ = some (.slice va n vc) := D9.cell (i := 2) (by omega)
      have cd3 : w9.cell? ⟨w3.heap.size, 3, none⟩ = some (.slice none 0 0) := D9.cell (i := 3) (by omega)
      have fd0 := D9.frozen 0
      have fd1 := D9.frozen 1
      have fd2 := D9.frozen 2
      have fd3 := D9.frozen 3
      have c0 : w9.cell? ⟨w.heap.size, 0, none⟩ = some (.int .i64 0) := R9.cell (i := 0) (by omega)
      have c1 : w9.cell? ⟨w.heap.size, 1, none⟩ = some (.string ⟨#[]⟩) := R9.cell (i := 1) (by omega)
      have c2 : w9.cell? ⟨w.heap.size, 2, none⟩ = some (.slice none 0 0) := R9.cell (i := 2) (by omega)
      have c3 : w9.cell? ⟨w.heap.size, 3, none⟩ = some (.slice none 0 0) := R9.cell (i := 3) (by omega)
      have z0 := R9.frozen 0
      have z1 := R9.frozen 1
      have z2 := R9.frozen 2
      have z3 := R9.frozen 3
      clear hx b9 o9' m9 p9 g9 n9 R8 D8
      go_wp2
      refine bodyPost_ret (dc_ret (R9.setOther (a := ⟨w3.heap.size, 3, none⟩) (by show w.heap.size ≠ w3.heap.size; omega) _) _ _ _ _ _ rfl) rfl ?_
      rw [HR.out]
      have QA : ∀ {W : World} (b n : Nat) (v : Value), b = w.heap.size ∨ b = w3.heap.size → But [w.heap.size, w3.heap.size] w9 W → But [w.heap.size, w3.heap.size] w9 (W.setCell ⟨b, n, none⟩ v) := fun b n v hb h => h.set (fun _ => by simp; exact hb) n v
      have QQ := QA w.heap.size 3 (.slice vb n' vd) (Or.inl rfl) (QA w.heap.size 2 (.slice va n vc) (Or.inl rfl) (QA w.heap.size 1 (.string (tx ts 1)) (Or.inl rfl) (QA w.heap.size 0 (.int .i64 3) (Or.inl rfl) (QA w3.heap.size 3 (.slice vb n' vd) (Or.inr rfl) (But.refl _ _)))))
      have h8 := HB8.out.size
      refine ⟨HB9.out.trans QQ (fun k hk hl => by simp at hk; omega), ⟨.slice va n vc, ys, .slice vb n' vd, zs⟩, rfl, dc_full (HO9.out.but QQ (fun b hb => ?_) (fun b hb => ?_)) (HE9.out.but QQ (fun b hb => ?_) (fun b hb => ?_)) HM6.out HM9.out w8.heap.size (fun b hb => (HO8.out.own.lt b hb).2) (fun b hb => (HO8.out.names hb).2) HG9.out HN9.out _ _, HP9.out.but QQ (by simp; omega) (by simp; omega) (by simp; omega), fun b hb => ?_⟩
      · have := HG6.out b hb; simp; omega
      · have := HN6.out b hb; simp; omega
      · have := HG9.out b hb; simp; omega
      · have := HN9.out b hb; simp; omega
      · rcases mem_dB hb with (z | z) | z | z
        · exact Nat.le_trans h5 (HG6.out b z)
        · exact Nat.le_trans h5 (HN6.out b z)
        · exact Nat.le_trans h8 (HG9.out b z)
        · exact Nat.le_trans h8 (HN9.out b z)

/-- decl, whole. -/
theorem p_decl {B P tb o : Nat} {ts : List TK} (HN : NumC ts) {eT : TypeId} {eV : Value} (hP : P < B) (htb : tb < B) {w : World} (hps : PsAt w P tb o 0 ts eT eV) (hB : B ≤ w.heap.size) :
    Calls Tryz.prog 58 #[.pointer (some ⟨P, 0, none⟩)] w (DcR B P tb o ts eT eV w (decR true ts)) := by
  cases h1 : isT ts 0 sImport with
  | true => exact decl_import hP htb hps hB h1
  | false =>
    cases h2 : isT ts 0 sType with
    | true => exact decl_type hP htb hps hB h2
    | false =>
      cases h3 : isT ts 0 sVal with
      | true => exact decl_val HN hP htb hps hB h3
      | false => exact decl_none hps h1 h2 h3

end Go.Proofs.YtdjkgilohhjfoaaGreatDoor

