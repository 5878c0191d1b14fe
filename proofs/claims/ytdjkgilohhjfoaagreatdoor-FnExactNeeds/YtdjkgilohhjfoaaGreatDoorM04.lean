/-
  Merged for the claim: PbB Jumps Labels.
-/
import Derived.Test.YtdjkgilohhjfoaaGreatDoorM03
import Derived.Scope
import Derived.ScopeJumps
import Derived.WalkMore
import Derived.Deep.AppendLies
namespace Go.Proofs.YtdjkgilohhjfoaaGreatDoor
open Go.RowKit

theorem isT_at {ts : List TK} {i : Nat} (hi : i < ts.length) (s : List UInt8) : isT ts i s = ((tkA ts i).txt.data.toList == s) := by
  unfold isT tkA
  rw [List.getD, List.getElem?_eq_getElem hi]
  rfl
theorem isT_past {ts : List TK} {i : Nat} (hi : ¬ i < ts.length) (s : List UInt8) : isT ts i s = false := by
  unfold isT
  rw [List.getElem?_eq_none (by omega)]
theorem isC_at {ts : List TK} {i : Nat} (hi : i < ts.length) (c : Int) : isC ts i c = ((tkA ts i).cls == c) := by
  unfold isC tkA
  rw [List.getD, List.getElem?_eq_getElem hi]
  rfl
theorem isC_past {ts : List TK} {i : Nat} (hi : ¬ i < ts.length) (c : Int) : isC ts i c = false := by
  unfold isC
  rw [List.getElem?_eq_none (by omega)]
theorem tx_at {ts : List TK} {i : Nat} (hi : i < ts.length) : tx ts i = (tkA ts i).txt := by
  unfold tx tkA
  rw [List.getD, List.getElem?_eq_getElem hi]
  rfl

set_option maxRecDepth 100000 in
set_option maxHeartbeats 1000000 in
theorem p_comes {P tb o i : Nat} {ts : List TK} {eT : TypeId} {eV : Value} (s : ByteArray) (w : World) (h : PsAt w P tb o i ts eT eV) (hi : isT ts i s.data.toList = true) :
    Calls Tryz.prog 78 #[.pointer (some ⟨P, 0, none⟩), .string s] w fun e w' => e = .returned (.bool true) ∧ PsAt w' P tb o (i + 1) ts eT eV ∧ But [P] w w' := by
  have HP : Hid (PsAt w P tb o i ts eT eV) := h
  have hl' := isT_lt hi
  rw [isT_at hl'] at hi
  obtain ⟨ao, c, hr, ha, hc⟩ := h.box
  have ea := ha hl'
  subst ea
  have t1 := h.tk.c1 i hl'
  have hl := h.tk.len
  obtain ⟨m, hm⟩ : ∃ m, m = ts.length - i := ⟨_, rfl⟩
  have HM : Hid (m = ts.length - i) := hm
  rw [← hm] at hr hc
  have hb := hr.cell (i := 0) (by omega)
  have hf := hr.frozen 0
  have hm0 : 0 < m := by omega
  have qm : ((m : Int) == 0) = false := beq_eq_false_iff_ne.2 (by omega)
  obtain ⟨k1, hk1⟩ : ∃ k, k = (tkA ts i).txt := ⟨_, rfl⟩
  rw [← hk1] at t1 hi
  have qs : (k1.toList == s.toList) = true := by rw [ByteArray.toList_eq, ByteArray.toList_eq]; exact hi
  clear h ha hm hk1 hr hi
  have EQ : Hid (ts.length - (i + 1) = m - 1) := by show _ = _; rw [HM.out]; omega
  have FIN : Hid (∀ (ao : Option Addr) (c' : Nat), (i + 1 < ts.length → ao = some ⟨tb, o + i * 3 + 3, none⟩) → m - 1 ≤ c' → PsAt (w.setCell ⟨P, 0, none⟩ (.slice ao (m - 1) c')) P tb o (i + 1) ts eT eV ∧ But [P] w (w.setCell ⟨P, 0, none⟩ (.slice ao (m - 1) c'))) := fun ao c' h1 h2 => by
    have hs := HP.out.step (But.refl [P] w) rfl (ao := ao) (c := c') (j := i + 1) (by omega) (fun z => by rw [h1 z]; congr 2; omega) (by rw [EQ.out]; exact h2)
    rw [EQ.out] at hs
    exact ⟨hs, (But.refl [P] w).set (fun _ => by simp) 0 _⟩
  go_enter Tryz.func78, Tryz.ntmps78
  go_wp2
  case inr =>
    go_ret
    exact ⟨rfl, FIN.out _ _ (fun _ => rfl) (by omega)⟩
  case inl =>
    go_ret
    exact ⟨rfl, FIN.out _ _ (fun z => by have := HM.out; omega) (by omega)⟩

set_option maxRecDepth 100000 in
set_option maxHeartbeats 1000000 in
theorem p_comes_no {P tb o i : Nat} {ts : List TK} {eT : TypeId} {eV : Value} (s : ByteArray) (w : World) (h : PsAt w P tb o i ts eT eV) (hi : isT ts i s.data.toList = false) :
    Calls Tryz.prog 78 #[.pointer (some ⟨P, 0, none⟩), .string s] w fun e w' => e = .returned (.bool false) ∧ w = w' := by
  obtain ⟨ao, c, hr, ha, hc⟩ := h.box
  by_cases hl' : i < ts.length
  case neg =>
    have he : ts.length - i = 0 := by omega
    rw [he] at hr
    have hb := hr.cell (i := 0) (by omega)
    clear h ha hc he hr hi
    go_enter Tryz.func78, Tryz.ntmps78
    go_wp2
    go_ret
    exact ⟨rfl, rfl⟩
  rw [isT_at hl'] at hi
  have ea := ha hl'
  subst ea
  have t1 := h.tk.c1 i hl'
  have hl := h.tk.len
  obtain ⟨m, hm⟩ : ∃ m, m = ts.length - i := ⟨_, rfl⟩
  rw [← hm] at hr hc
  have hb := hr.cell (i := 0) (by omega)
  have hm0 : 0 < m := by omega
  have qm : ((m : Int) == 0) = false := beq_eq_false_iff_ne.2 (by omega)
  obtain ⟨k1, hk1⟩ : ∃ k, k = (tkA ts i).txt := ⟨_, rfl⟩
  rw [← hk1] at t1 hi
  have qs : (k1.toList == s.toList) = false := by rw [ByteArray.toList_eq, ByteArray.toList_eq]; exact hi
  clear h ha hm hk1 hr hi
  go_enter Tryz.func78, Tryz.ntmps78
  go_wp2
  go_ret
  exact ⟨rfl, rfl⟩

set_option maxRecDepth 100000 in
set_option maxHeartbeats 1000000 in
theorem p_need {P tb o i : Nat} {ts : List TK} {eT : TypeId} {eV : Value} (s : ByteArray) (w : World) (h : PsAt w P tb o i ts eT eV) (hi : isT ts i s.data.toList = true) :
    Calls Tryz.prog 68 #[.pointer (some ⟨P, 0, none⟩), .string s] w fun e w' => e = .returned (.tuple #[]) ∧ PsAt w' P tb o (i + 1) ts eT eV ∧ But [P] w w' := by
  have HP : Hid (PsAt w P tb o i ts eT eV) := h
  clear h
  go_enter Tryz.func68, Tryz.ntmps68
  go_wp2_with fail
  refine (p_comes s w HP.out hi).mono ?_
  rintro e w1 ⟨rfl, h1⟩
  go_wp2
  go_end0
  exact ⟨rfl, h1⟩

set_option maxRecDepth 100000 in
set_option maxHeartbeats 1000000 in
theorem p_need_no {P tb o i : Nat} {ts : List TK} {eT : TypeId} {eV : Value} (s : ByteArray) (w : World) (h : PsAt w P tb o i ts eT eV) (hi : isT ts i s.data.toList = false) :
    Calls Tryz.prog 68 #[.pointer (some ⟨P, 0, none⟩), .string s] w fun e w' => e = .panicked [{ v := .iface eT eV, recovered := false }] ∧ w = w' := by
  have HP : Hid (PsAt w P tb o i ts eT eV) := h
  have he := h.ev
  clear h
  go_enter Tryz.func68, Tryz.ntmps68
  go_wp2_with fail
  refine (p_comes_no s w HP.out hi).mono ?_
  rintro e w1 ⟨rfl, rfl⟩
  go_wp2
  exact ⟨rfl, rfl, rfl⟩

set_option maxRecDepth 100000 in
set_option maxHeartbeats 1000000 in
theorem p_name {P tb o i : Nat} {ts : List TK} {eT : TypeId} {eV : Value} (w : World) (h : PsAt w P tb o i ts eT eV) (hi : isC ts i 1 = true) :
    Calls Tryz.prog 67 #[.pointer (some ⟨P, 0, none⟩)] w fun e w' => e = .returned (.string (tx ts i)) ∧ PsAt w' P tb o (i + 1) ts eT eV ∧ But [P] w w' := by
  have HP : Hid (PsAt w P tb o i ts eT eV) := h
  have hl' := isC_lt hi
  rw [isC_at hl'] at hi
  have HTX : Hid (tx ts i = (tkA ts i).txt) := tx_at hl'
  clear h
  go_enter Tryz.func67, Tryz.ntmps67
  go_wp2_with fail
  refine (p_next w HP.out hl').mono ?_
  rintro e w1 ⟨rfl, h1, h2⟩
  unfold tkV
  obtain ⟨k0, hk0⟩ : ∃ k, k = (tkA ts i).cls := ⟨_, rfl⟩
  obtain ⟨k1, hk1⟩ : ∃ k, k = (tkA ts i).txt := ⟨_, rfl⟩
  obtain ⟨k2, hk2⟩ : ∃ k, k = ((tkA ts i).loc : Int) := ⟨_, rfl⟩
  have HT2 : Hid (tx ts i = k1) := by show _ = _; rw [HTX.out, hk1]
  rw [← hk0] at hi
  rw [← hk0, ← hk1, ← hk2]
  have F1 : Hid (PsAt (w1.alloc (.cells #[.int .i64 k0, .string k1, .int .i64 k2] 89)) P tb o (i + 1) ts eT eV) := h1.but ((But.refl ([] : List Nat) w1).alloc _) (by simp) (by simp) (by simp)
  have F2 : Hid (But [P] w (w1.alloc (.cells #[.int .i64 k0, .string k1, .int .i64 k2] 89))) := h2.alloc _
  clear hk0 hk1 hk2 h1 h2
  go_wp2
  go_ret
  exact ⟨by rw [HT2.out]; rfl, F1.out, F2.out⟩

set_option maxRecDepth 100000 in
set_option maxHeartbeats 1000000 in
theorem p_name_no {P tb o i : Nat} {ts : List TK} {eT : TypeId} {eV : Value} (w : World) (h : PsAt w P tb o i ts eT eV) (hi : isC ts i 1 = false) :
    Calls Tryz.prog 67 #[.pointer (some ⟨P, 0, none⟩)] w fun e w' => e = .panicked [{ v := .iface eT eV, recovered := false }] ∧ But [P] w w' := by
  have HP : Hid (PsAt w P tb o i ts eT eV) := h
  clear h
  by_cases hl' : i < ts.length
  case neg =>
    clear hi
    go_enter Tryz.func67, Tryz.ntmps67
    go_wp2_with fail
    refine (p_next_no w HP.out hl').mono ?_
    rintro e w1 ⟨rfl, h2⟩
    go_wp2
    exact ⟨rfl, rfl, h2⟩
  rw [isC_at hl'] at hi
  go_enter Tryz.func67, Tryz.ntmps67
  go_wp2_with fail
  refine (p_next w HP.out hl').mono ?_
  rintro e w1 ⟨rfl, h1, h2⟩
  unfold tkV
  obtain ⟨k0, hk0⟩ : ∃ k, k = (tkA ts i).cls := ⟨_, rfl⟩
  obtain ⟨k1, hk1⟩ : ∃ k, k = (tkA ts i).txt := ⟨_, rfl⟩
  obtain ⟨k2, hk2⟩ : ∃ k, k = ((tkA ts i).loc : Int) := ⟨_, rfl⟩
  rw [← hk0] at hi
  rw [← hk0, ← hk1, ← hk2]
  have F1 := (h1.but ((But.refl ([] : List Nat) w1).alloc (.cells #[.int .i64 k0, .string k1, .int .i64 k2] 89)) (by simp) (by simp) (by simp)).ev
  have F2 : Hid (But [P] w (w1.alloc (.cells #[.int .i64 k0, .string k1, .int .i64 k2] 89))) := h2.alloc _
  clear hk0 hk1 hk2 h1 h2
  go_wp2
  exact ⟨rfl, rfl, F2.out⟩

/-- What comes of the parser: an answer, or the panic. -/
def Out (P tb o : Nat) (ts : List TK) (eT : TypeId) (eV : Value) (S : List Nat) (w : World) (r : Option (Value × Nat)) (e : Ending) (w' : World) : Prop :=
  But S w w' ∧ match r with
  | none => e = .panicked [{ v := .iface eT eV, recovered := false }]
  | some (v, j) => e = .returned v ∧ PsAt w' P tb o j ts eT eV

set_option maxRecDepth 100000 in
set_option maxHeartbeats 1000000 in
/-- Behind a name at i. -/
theorem p_path {P tb o i : Nat} {ts : List TK} {eT : TypeId} {eV : Value} (w : World) (h : PsAt w P tb o (i + 1) ts eT eV) :
    Calls Tryz.prog 85 #[.pointer (some ⟨P, 0, none⟩), .string (tx ts i)] w (Out P tb o ts eT eV [P] w ((pathP true ts i).map fun r => (.tuple #[.string r.1, .string r.2.1], r.2.2))) := by
  have HP : Hid (PsAt w P tb o (i + 1) ts eT eV) := h
  clear h
  obtain ⟨x, hx⟩ : ∃ x, x = tx ts i := ⟨_, rfl⟩
  have HX : Hid (x = tx ts i) := hx
  rw [← hx]
  clear hx
  cases hc : isT ts (i + 1) sColon
  case false =>
    have HR : Hid (pathP true ts i = some (e0, x, i + 1)) := by show _ = _; unfold pathP; rw [hc, HX.out]; rfl
    go_enter Tryz.func85, Tryz.ntmps85
    go_wp2_with fail
    refine (p_comes_no ⟨#[58]⟩ w HP.out hc).mono ?_
    rintro e w1 ⟨rfl, rfl⟩
    clear hc
    go_wp2
    exact bodyPost_ret (v := .tuple #[.string ⟨#[]⟩, .string x]) (by simp [results, Tryz.results85, go_sem]) rfl (by rw [HR.out]; exact ⟨But.refl _ _, rfl, HP.out⟩)
  cases hn : isC ts (i + 2) 1
  case false =>
    have HR : Hid (pathP true ts i = none) := by show _ = _; unfold pathP; rw [hc, hn]; rfl
    go_enter Tryz.func85, Tryz.ntmps85
    go_wp2_with fail
    refine (p_comes ⟨#[58]⟩ w HP.out hc).mono ?_
    rintro e w1 ⟨rfl, h1, b1⟩
    go_wp2_with fail
    refine (p_name_no w1 h1 hn).mono ?_
    rintro e w2 ⟨rfl, b2⟩
    clear hc hn
    go_wp2
    rw [HR.out]
    exact ⟨rfl, b1.then_ b2, rfl⟩
  have HR : Hid (pathP true ts i = some (x, tx ts (i + 2), i + 3)) := by show _ = _; unfold pathP; rw [hc, hn, HX.out]; rfl
  go_enter Tryz.func85, Tryz.ntmps85
  go_wp2_with fail
  refine (p_comes ⟨#[58]⟩ w HP.out hc).mono ?_
  rintro e w1 ⟨rfl, h1, b1⟩
  go_wp2_with fail
  refine (p_name w1 h1 hn).mono ?_
  rintro e w2 ⟨rfl, h2, b2⟩
  clear hc hn
  go_wp2
  exact bodyPost_ret (v := .tuple #[.string x, .string (tx ts (i + 2))]) (by simp [results, Tryz.results85, go_sem]) rfl (by rw [HR.out]; exact ⟨b1.then_ b2, rfl, h2⟩)

end Go.Proofs.YtdjkgilohhjfoaaGreatDoor

namespace Go.Proofs.YtdjkgilohhjfoaaGreatDoor

/-- As Q; by a goto to a label: what is asked of that label. -/
def jumps (J : Nat → Act → World → Prop) (Q : Exit → Act → World → Prop) : Exit → Act → World → Prop
  | .goto l, a, w => J l a w
  | e, a, w => Q e a w

theorem wp_scope_labels {P : Program} {a : Act} {w : World} {Q : Exit → Act → World → Prop} {c : Code} (rest : Nat → Code) (J : Nat → Act → World → Prop) (μ : Nat → Act → World → Nat)
    (hf : ∀ l a w, J l a w → findLabel c l = some (rest l)) (first : c.wp P (jumps J Q) a w)
    (pass : ∀ l a w, J l a w → (rest l).wp P (jumps (fun l' a' w' => J l' a' w' ∧ μ l' a' w' < μ l a w) Q) a w) : (Code.scope c).wp P Q a w := by
  intro b k cs
  have hg : ∀ l a w, J l a w → gotoIn l (.inScope c :: k) = some (.code (rest l) :: .inScope c :: k) := fun l a w h => by simp [gotoIn, hf l a w h]
  have key : ∀ n l a w, μ l a w = n → J l a w → ∃ e a' w', Q e a' w' ∧ Arrives P (lone (b.at a (.code (rest l) :: .inScope c :: k)) cs w) b k cs e a' w' := by
    intro n
    induction n using Nat.strongRecOn with
    | _ n ih =>
      intro l a w hn hJ
      obtain ⟨e, a1, w1, hq, harr⟩ := pass l a w hJ b (.inScope c :: k) cs
      cases e with
      | normal => exact ⟨.normal, a1, w1, hq, Steps.trans harr (.one step_inScope)⟩
      | exit id => exact ⟨.exit id, a1, w1, hq, fun k' hk => harr k' (by simp [exitTo, hk])⟩
      | goto l' =>
        obtain ⟨hJ', hlt⟩ := hq
        obtain ⟨e2, a2, w2, hq2, harr2⟩ := ih _ (by omega) l' a1 w1 rfl hJ'
        exact ⟨e2, a2, w2, hq2, .of_steps (harr _ (hg _ _ _ hJ')) harr2⟩
      | ret => exact ⟨_, a1, w1, hq, harr⟩
      | panic ch => exact ⟨_, a1, w1, hq, harr⟩
      | outgrown => exact ⟨_, a1, w1, hq, harr⟩
  obtain ⟨e, a1, w1, hq, harr⟩ := first b (.inScope c :: k) cs
  cases e with
  | normal => exact ⟨.normal, a1, w1, hq, .head step_scope (Steps.trans harr (.one step_inScope))⟩
  | exit id => exact ⟨.exit id, a1, w1, hq, fun k' hk => .head step_scope (harr k' (by simp [exitTo, hk]))⟩
  | goto l' =>
    obtain ⟨e2, a2, w2, hq2, harr2⟩ := key _ l' a1 w1 rfl hq
    exact ⟨e2, a2, w2, hq2, .of_steps (.head step_scope (harr _ (hg _ _ _ hq))) harr2⟩
  | ret => exact ⟨_, a1, w1, hq, .of_steps (.one step_scope) harr⟩
  | panic ch => exact ⟨_, a1, w1, hq, .of_steps (.one step_scope) harr⟩
  | outgrown => exact ⟨_, a1, w1, hq, .of_steps (.one step_scope) harr⟩

end Go.Proofs.YtdjkgilohhjfoaaGreatDoor

namespace Go.Proofs.YtdjkgilohhjfoaaGreatDoor
open Go.RowKit

theorem jumps_mono {J J' : Nat → Act → World → Prop} {Q : Exit → Act → World → Prop} (h : ∀ l a w, J l a w → J' l a w) {e : Exit} {a : Act} {w : World} (hj : jumps J Q e a w) : jumps J' Q e a w := by
  cases e <;> first | exact h _ _ _ hj | exact hj

theorem wp_scope_six {P : Program} {a : Act} {w : World} {Q : Exit → Act → World → Prop} {c r0 r1 r2 r3 r4 r5 : Code} (J : Nat → Act → World → Prop) (μ : Nat → Act → World → Nat) (hl : ∀ l a w, J l a w → l < 6)
    (f0 : findLabel c 0 = some (Code.skip.seq r0)) (f1 : findLabel c 1 = some (Code.skip.seq r1)) (f2 : findLabel c 2 = some (Code.skip.seq r2)) (f3 : findLabel c 3 = some (Code.skip.seq r3)) (f4 : findLabel c 4 = some (Code.skip.seq r4)) (f5 : findLabel c 5 = some (Code.skip.seq r5))
    (first : (∀ a w, J 0 a w → r0.wp P (jumps J Q) a w) → c.wp P (jumps J Q) a w)
    (p0 : ∀ a w, J 0 a w → r0.wp P (jumps (fun l' a' w' => J l' a' w' ∧ μ l' a' w' < μ 0 a w) Q) a w)
    (p1 : ∀ a w, J 1 a w → r1.wp P (jumps (fun l' a' w' => J l' a' w' ∧ μ l' a' w' < μ 1 a w) Q) a w)
    (p2 : ∀ a w, J 2 a w → r2.wp P (jumps (fun l' a' w' => J l' a' w' ∧ μ l' a' w' < μ 2 a w) Q) a w)
    (p3 : ∀ a w, J 3 a w → r3.wp P (jumps (fun l' a' w' => J l' a' w' ∧ μ l' a' w' < μ 3 a w) Q) a w)
    (p4 : ∀ a w, J 4 a w → r4.wp P (jumps (fun l' a' w' => J l' a' w' ∧ μ l' a' w' < μ 4 a w) Q) a w)
    (p5 : ∀ a w, J 5 a w → r5.wp P (jumps (fun l' a' w' => J l' a' w' ∧ μ l' a' w' < μ 5 a w) Q) a w) : (Code.scope c).wp P Q a w := by
  refine wp_scope_labels (fun l => Code.skip.seq (match l with | 0 => r0 | 1 => r1 | 2 => r2 | 3 => r3 | 4 => r4 | _ => r5)) J μ (fun l a w h => ?_) (first fun a w h => ?_) (fun l a w h => ?_)
  · have := hl l a w h
    match l, this with
    | 0, _ => exact f0
    | 1, _ => exact f1
    | 2, _ => exact f2
    | 3, _ => exact f3
    | 4, _ => exact f4
    | 5, _ => exact f5
  · intro b k cs
    obtain ⟨e, a1, w1, hq, harr⟩ := p0 a w h b k cs
    exact ⟨e, a1, w1, jumps_mono (fun _ _ _ q => q.1) hq, harr⟩
  · have := hl l a w h
    match l, this with
    | 0, _ => exact wp_seq (wp_skip (p0 a w h))
    | 1, _ => exact wp_seq (wp_skip (p1 a w h))
    | 2, _ => exact wp_seq (wp_skip (p2 a w h))
    | 3, _ => exact wp_seq (wp_skip (p3 a w h))
    | 4, _ => exact wp_seq (wp_skip (p4 a w h))
    | 5, _ => exact wp_seq (wp_skip (p5 a w h))

/-- The cells of tokens. -/
def tcells (l : List TK) : List Value := l.flatMap fun t => [.int .i64 t.cls, .string t.txt, .int .i64 (t.loc : Int)]
theorem tcells_snoc (l : List TK) (t : TK) : tcells (l ++ [t]) = tcells l ++ [.int .i64 t.cls, .string t.txt, .int .i64 (t.loc : Int)] := by simp [tcells]

/-- A list of tokens of the call's own. -/
structure Own (w wr : World) (v : Value) (l : List TK) : Prop where
  own : wr.ownsRow w.heap.size 89 3 v l.length (tcells l)
  below : Below w.heap.size w wr

theorem tks_len {s : ByteArray} {i : Nat} : (tks s i).length ≤ s.size - i := by
  by_cases h : i < s.size
  · have hp := plen_pos s i
    have := tks_len (s := s) (i := i + plen s i)
    cases hb : blk s i
    · rw [tks_tok h hb, List.length_cons]
      have := plen_le h
      omega
    · rw [tks_blk h hb]; omega
  · rw [tks_end h]; exact Nat.zero_le _
termination_by s.size - i
decreasing_by omega

/-- What stands so far, and what is still to come from a place on. -/
def Till (s : ByteArray) (l : List TK) (i : Nat) : Prop := l ++ tks s i = tks s 0
theorem till_start (s : ByteArray) : Till s [] 0 := rfl
theorem till_blk {s : ByteArray} {l : List TK} {i : Nat} (h : Till s l i) (hi : i < s.size) (hb : blk s i = true) : Till s l (i + plen s i) := by
  unfold Till at *; rw [← tks_blk hi hb]; exact h
theorem till_tok {s : ByteArray} {l : List TK} {i : Nat} (h : Till s l i) (hi : i < s.size) (hb : blk s i = false) : Till s (l ++ [⟨cls (ptx s i).toList, ptx s i, i⟩]) (i + plen s i) := by
  unfold Till at *
  rw [tks_tok hi hb] at h
  rw [← h]; simp
theorem till_end {s : ByteArray} {l : List TK} {i : Nat} (h : Till s l i) (hi : ¬ i < s.size) : l = tks s 0 := by
  unfold Till at h
  rw [tks_end hi, List.append_nil] at h; exact h
theorem till_len {s : ByteArray} {l : List TK} {i : Nat} (h : Till s l i) : l.length ≤ s.size := by
  unfold Till at h
  have h1 := congrArg List.length h
  have h2 := tks_len (s := s) (i := 0)
  rw [List.length_append] at h1; omega

/-- The frame of Tokens at a label. -/
def Fr (s : ByteArray) (v x4 : Value) (k : Nat) (a : Act) : Prop := ∃ u : Nat → Value, a = { tmps := #[.string s, u 1, u 2, v, x4, .int .i64 (k : Int), u 6, u 7, u 8, u 9, u 10, u 11, u 12, u 13, u 14, u 15, u 16, u 17, u 18, u 19, u 20, u 21, u 22, u 23, u 24, u 25, u 26, u 27, u 28, u 29, u 30, u 31, u 32, u 33, u 34, u 35, u 36, u 37, u 38, u 39, u 40, u 41, u 42, u 43, u 44, u 45, u 46, u 47, u 48, u 49, u 50, u 51, u 52, u 53, u 54, u 55, u 56, u 57, u 58, u 59, u 60, u 61, u 62, u 63, u 64, u 65, u 66, u 67, u 68, u 69, u 70, u 71, u 72, u 73, u 74, u 75, u 76, u 77, u 78, u 79, u 80, u 81, u 82, u 83, u 84, u 85, u 86, u 87, u 88, u 89, u 90, u 91, u 92, u 93, u 94, u 95, u 96], defers := [] }

theorem list_all (l : List Value) : l = (List.range l.length).map (fun i => l.getD i undef) := by
  apply List.ext_getElem
  · simp
  · intro i h1 h2
    simp [h1]

theorem fr_of {s : ByteArray} {v x4 : Value} {k : Nat} {ar : Array Value} (h : ar.size = 97) (h0 : ar.toList.getD 0 undef = .string s) (h3 : ar.toList.getD 3 undef = v) (h4 : ar.toList.getD 4 undef = x4) (h5 : ar.toList.getD 5 undef = .int .i64 (k : Int)) : Fr s v x4 k { tmps := ar, defers := [] } := by
  obtain ⟨l⟩ := ar
  have hl : l.length = 97 := h
  have ha := list_all l
  rw [hl] at ha
  obtain ⟨u, hu⟩ : ∃ u : Nat → Value, u = fun i => l.getD i undef := ⟨_, rfl⟩
  rw [← hu] at ha
  have e0 : u 0 = .string s := by rw [hu]; exact h0
  have e3 : u 3 = v := by rw [hu]; exact h3
  have e4 : u 4 = x4 := by rw [hu]; exact h4
  have e5 : u 5 = .int .i64 (k : Int) := by rw [hu]; exact h5
  have hf : l = [u 0, u 1, u 2, u 3, u 4, u 5, u 6, u 7, u 8, u 9, u 10, u 11, u 12, u 13, u 14, u 15, u 16, u 17, u 18, u 19, u 20, u 21, u 22, u 23, u 24, u 25, u 26, u 27, u 28, u 29, u 30, u 31, u 32, u 33, u 34, u 35, u 36, u 37, u 38, u 39, u 40, u 41, u 42, u 43, u 44, u 45, u 46, u 47, u 48, u 49, u 50, u 51, u 52, u 53, u 54, u 55, u 56, u 57, u 58, u 59, u 60, u 61, u 62, u 63, u 64, u 65, u 66, u 67, u 68, u 69, u 70, u 71, u 72, u 73, u 74, u 75, u 76, u 77, u 78, u 79, u 80, u 81, u 82, u 83, u 84, u 85, u 86, u 87, u 88, u 89, u 90, u 91, u 92, u 93, u 94, u 95, u 96] := ha
  rw [e0, e3, e4, e5] at hf
  exact ⟨u, by rw [hf]⟩

/-- The piece that is being read. -/
def Rd (p : Int → Bool) (s : ByteArray) (f k : Nat) : Prop := f < s.size ∧ f + 1 ≤ k ∧ k ≤ s.size ∧ k + run p s k = f + 1 + run p s (f + 1)

/-- What holds at the labels. -/
def Lab (s : ByteArray) (w : World) (l : Nat) (a : Act) (wr : World) : Prop :=
  ∃ (v x4 : Value) (k : Nat) (d : List TK), Fr s v x4 k a ∧ Own w wr v d ∧ k ≤ s.size ∧
    ((l = 0 ∧ Till s d k) ∨
     (∃ f : Nat, x4 = .int .i64 (f : Int) ∧ f < s.size ∧ Till s d f ∧
       ((l = 1 ∧ bt s f = 35 ∧ Rd nn s f k) ∨ (l = 2 ∧ sl (bt s f) = true ∧ Rd wb s f k) ∨ (l = 3 ∧ dg (bt s f) = true ∧ Rd dg s f k) ∨ (l = 4 ∧ bt s f = 45 ∧ k = f + 1) ∨
        (l = 5 ∧ blk s f = false ∧ k = f + plen s f))))

/-- How far it still is. -/
def far (s : ByteArray) (l : Nat) (a : Act) (_ : World) : Nat := 3 * (s.size - (intOf (a.tmps.getD 5 undef)).toNat) + (if l = 0 then 0 else if l = 1 ∨ l = 5 then 1 else 2)

theorem lab_lt {s : ByteArray} {w : World} {l : Nat} {a : Act} {wr : World} (h : Lab s w l a wr) : l < 6 := by
  obtain ⟨v, x4, k, d, _, _, _, h⟩ := h
  rcases h with ⟨h, _⟩ | ⟨f, _, _, _, h⟩
  · omega
  · rcases h with ⟨h, _⟩ | ⟨h, _⟩ | ⟨h, _⟩ | ⟨h, _⟩ | ⟨h, _⟩ <;> omega

end Go.Proofs.YtdjkgilohhjfoaaGreatDoor

