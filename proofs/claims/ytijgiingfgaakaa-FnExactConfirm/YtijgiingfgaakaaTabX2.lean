/-
  Tables: the program's confirm.
-/
import Derived.Test.YtijgiingfgaakaaTabX
namespace Go.Proofs.Ytijgiingfgaakaa
open Go.RowKit

/-- A slot whose answer is found right. -/
def cfm (d : SD) (rev : Int) : SD := { d with ver := rev, own := 0, sin := 0 }
def confC (n : Nat) (D : Nat → SD) (k : Int) (m : ByteArray) (wk rev : Int) : Int :=
  match mine n D k m wk rev with
  | none => 1
  | some i => if (D i).has then 0 else 1
def confD (n : Nat) (D : Nat → SD) (k : Int) (m : ByteArray) (wk rev : Int) : Nat → SD :=
  match mine n D k m wk rev with
  | none => D
  | some i => if (D i).has then updF D i (cfm (D i) rev) else D

theorem conf_none {n : Nat} {D : Nat → SD} {k : Int} {m : ByteArray} {wk rev : Int} (h : mine n D k m wk rev = none) : confC n D k m wk rev = 1 ∧ confD n D k m wk rev = D := by
  unfold confC confD; rw [h]; exact ⟨rfl, rfl⟩
theorem conf_no {n i : Nat} {D : Nat → SD} {k : Int} {m : ByteArray} {wk rev : Int} (h : mine n D k m wk rev = some i) (h2 : (D i).has = false) : confC n D k m wk rev = 1 ∧ confD n D k m wk rev = D := by
  unfold confC confD; rw [h]; simp [h2]
theorem conf_yes {n i : Nat} {D : Nat → SD} {k : Int} {m : ByteArray} {wk rev : Int} (h : mine n D k m wk rev = some i) (h2 : (D i).has = true) : confC n D k m wk rev = 0 ∧ confD n D k m wk rev = updF D i (cfm (D i) rev) := by
  unfold confC confD; rw [h]; simp [h2]

/-- What a method of the open table leaves. -/
structure Left1 (w w' : World) (base lb g n cap sb : Nat) (p : Nat → SP) (D : Nat → SD) : Prop where
  os : OS w' base lb (.slice (some ⟨g, 0, none⟩) n cap) n p D
  sb : w'.cell? ⟨sb, 0, none⟩ = some (.pointer (some ⟨lb, 0, none⟩))
  span : Span g (g + 1) w w'

theorem nine_ecf {f : Nat → Value} {p : SP} {d : SD} {o : Nat} (h : ∀ b, b < 9 → f (o + b) = ecf p d b) : f o = .int .i64 d.k ∧ f (o + 1) = .string d.m ∧ f (o + 2) = .int .i64 d.sin ∧ f (o + 3) = .int .i64 d.own ∧ f (o + 4) = .bool d.has ∧ f (o + 5) = .string d.v ∧ f (o + 6) = .slice p.a d.n p.c ∧ f (o + 7) = .int .i64 d.ver ∧ f (o + 8) = .int .i64 d.chg :=
  ⟨h 0 (by omega), h 1 (by omega), h 2 (by omega), h 3 (by omega), h 4 (by omega), h 5 (by omega), h 6 (by omega), h 7 (by omega), h 8 (by omega)⟩

set_option maxRecDepth 100000 in
set_option maxHeartbeats 8000000 in
theorem t_confirm (base lb g n cap sb : Nat) (p : Nat → SP) (D : Nat → SD) (k : Int) (m : ByteArray) (wk rev : Int) (w : World) (hOS : OS w base lb (.slice (some ⟨g, 0, none⟩) n cap) n p D) (hsb : w.cell? ⟨sb, 0, none⟩ = some (.pointer (some ⟨lb, 0, none⟩))) (hsg : sb ≠ g) (hU : Up n D) (hn : n ≤ 1048576) (hwk : 0 ≤ wk ∧ wk < 16) :
    Calls Try.prog 60 #[.pointer (some ⟨sb, 0, none⟩), .agg #[.int .i64 k, .string m, .int .i64 rev], .int .i64 wk] w fun e w' => e = .returned (.int .i64 (confC n D k m wk rev)) ∧ Left1 w w' base lb g n cap sb p (confD n D k m wk rev) := by
  have HU : Hid (Up n D) := hU
  have HO : Hid (∀ w', Below w.heap.size w w' → OS w' base lb (.slice (some ⟨g, 0, none⟩) n cap) n p D ∧ w'.cell? ⟨sb, 0, none⟩ = some (.pointer (some ⟨lb, 0, none⟩))) := fun w' hb => ⟨hOS.below hb, by rw [hb.cell (p := ⟨sb, 0, none⟩) (World.block_lt_of_cell? _ _ hsb)]; exact hsb⟩
  clear hOS hsb hU
  go_enter Try.func60, Try.ntmps60
  go_wp2_with fail
  refine (t_held base lb g n cap sb p D k m wk rev _ (HO.out _ (bel1 _ _)).1 (HO.out _ (bel1 _ _)).2 HU.out hn hwk).mono ?_
  rintro e w1 ⟨hb1, hf⟩
  have HB1 : Hid (Below w.heap.size w w1) := (bel1 w _).trans (hb1.mono (by simp))
  have r3 := (row3 w (.int .i64 k) (.string m) (.int .i64 rev) 76).of_block (hb1.block _ (by simp))
  have q2 : w1.cell? ⟨w.heap.size, 2, none⟩ = some (.int .i64 rev) := r3.cell (i := 2) (by omega)
  have HO1 := HO.out w1 HB1.out
  have HQ : Hid (OS w1 base lb (.slice (some ⟨g, 0, none⟩) n cap) n p D ∧ w1.cell? ⟨sb, 0, none⟩ = some (.pointer (some ⟨lb, 0, none⟩))) := HO1
  clear hb1 r3 HO1
  rcases hf with ⟨hm, rfl⟩ | ⟨i, hm, hi, rfl⟩
  · have HN : Hid (confC n D k m wk rev = 1 ∧ confD n D k m wk rev = D) := conf_none hm
    clear hm
    go_wp2
    go_ret
    refine ⟨by rw [HN.out.1]; rfl, ?_⟩
    rw [HN.out.2]
    exact ⟨HQ.out.1, HQ.out.2, Span.of_below HB1.out⟩
  · obtain ⟨f, hr, hc1, hc2, hbg, hgl, hf⟩ := os_row HQ.out.1
    have hci : i * 9 + 9 ≤ cap * 9 := by omega
    have HR : Hid (w1.rowIs g 78 (cap * 9) f ∧ ∀ a b, a < n → b < 9 → f (a * 9 + b) = ecf (p a) (D a) b) := ⟨hr, hf⟩
    have a4 : w1.cell? ⟨g, i * 9 + 4, none⟩ = some (.bool (D i).has) := by rw [hr.cell (by omega), hf i 4 hi (by omega)]; rfl
    obtain ⟨hh, hhe⟩ : ∃ hh, (D i).has = hh := ⟨_, rfl⟩
    rw [hhe] at a4
    cases hh
    · have HN : Hid (confC n D k m wk rev = 1 ∧ confD n D k m wk rev = D) := conf_no hm hhe
      clear hm hhe hr hf
      go_wp2
      go_ret
      refine ⟨by rw [HN.out.1]; rfl, ?_⟩
      rw [HN.out.2]
      exact ⟨HQ.out.1, HQ.out.2, Span.of_below HB1.out⟩
    · have HN : Hid (confC n D k m wk rev = 0 ∧ confD n D k m wk rev = updF D i (cfm (D i) rev)) := conf_yes hm hhe
      have a7 := hr.cell (i := i * 9 + 7) (by omega)
      have f7 := hr.frozen (i * 9 + 7)
      have r7 := hr.set (i * 9 + 7) (.int .i64 rev)
      have a2 := r7.cell (i := i * 9 + 2) (by omega)
      have a3 := r7.cell (i := i * 9 + 3) (by omega)
      have f2 := r7.frozen (i * 9 + 2)
      have f3 := r7.frozen (i * 9 + 3)
      have hgs : Hid (w.heap.size ≠ g ∨ True) := Or.inr trivial
      clear hm hhe hr hf r7
      go_wp2_with fail
      refine (t_letGo g (i * 9) _ _ _ a2 a3 f2 f3).mono ?_
      rintro e w2 ⟨rfl, rfl⟩
      have HE : Hid (Left1 w (((w1.setCell ⟨g, i * 9 + 7, none⟩ (.int .i64 rev)).setCell ⟨g, i * 9 + 2, none⟩ (.int .i64 0)).setCell ⟨g, i * 9 + 3, none⟩ (.int .i64 0)) base lb g n cap sb p (confD n D k m wk rev)) := by
        have rr := ((HR.out.1.set (i * 9 + 7) (.int .i64 rev)).set (i * 9 + 2) (.int .i64 0)).set (i * 9 + 3) (.int .i64 0)
        refine ⟨?_, ?_, (((Span.of_below HB1.out).set (i * 9 + 7) (Nat.le_refl _) (by omega) _).set (i * 9 + 2) (Nat.le_refl _) (by omega) _).set (i * 9 + 3) (Nat.le_refl _) (by omega) _⟩
        · have hl : ∀ (W : World) (o : Nat) (v : Value), (W.setCell ⟨g, o, none⟩ v).heap[lb]? = W.heap[lb]? := fun W o v => Below.heap_setCell _ _ _ _ (by show lb ≠ g; exact fun e => hgl e.symm)
          have := os_put (w' := (((w1.setCell ⟨g, i * 9 + 7, none⟩ (.int .i64 rev)).setCell ⟨g, i * 9 + 2, none⟩ (.int .i64 0)).setCell ⟨g, i * 9 + 3, none⟩ (.int .i64 0))) (i := i) (q := p i) (d := cfm (D i) rev) HQ.out.1 (by rw [hl, hl, hl]) rr (fun a b ha hne hb => ?_) (fun b hb => ?_)
          · rw [HN.out.2]
            rw [updF_self] at this
            exact this
          · show (if a * 9 + b = i * 9 + 3 then _ else if a * 9 + b = i * 9 + 2 then _ else if a * 9 + b = i * 9 + 7 then _ else f (a * 9 + b)) = _
            rw [if_neg (by omega), if_neg (by omega), if_neg (by omega)]
            exact HR.out.2 a b ha hb
          · show (if i * 9 + b = i * 9 + 3 then _ else if i * 9 + b = i * 9 + 2 then _ else if i * 9 + b = i * 9 + 7 then _ else f (i * 9 + b)) = _
            rw [HR.out.2 i b hi hb]
            match b, hb with
            | 0, _ => simp [ecf, cfm]
            | 1, _ => simp [ecf, cfm]
            | 2, _ => simp [ecf, cfm]
            | 3, _ => simp [ecf, cfm]
            | 4, _ => simp [ecf, cfm]
            | 5, _ => simp [ecf, cfm]
            | 6, _ => simp [ecf, cfm]
            | 7, _ => simp [ecf, cfm]
            | 8, _ => simp [ecf, cfm]
        · have hl : ∀ (W : World) (o : Nat) (v : Value), (W.setCell ⟨g, o, none⟩ v).cell? ⟨sb, 0, none⟩ = W.cell? ⟨sb, 0, none⟩ := fun W o v => World.cell?_of_block (a := ⟨sb, 0, none⟩) (Below.heap_setCell _ _ _ _ (by show sb ≠ g; exact hsg))
          rw [hl, hl, hl]; exact HQ.out.2
      clear a2 a3 f2 f3 a7 f7 HR
      go_wp2
      go_ret
      exact ⟨by rw [HN.out.1]; rfl, HE.out⟩

end Go.Proofs.Ytijgiingfgaakaa
