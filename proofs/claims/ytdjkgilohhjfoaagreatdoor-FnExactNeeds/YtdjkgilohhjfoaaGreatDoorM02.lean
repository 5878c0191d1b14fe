/-
  Merged for the claim: PhA Mem2 Words Names Names2.
-/
import Derived.Test.YtdjkgilohhjfoaaGreatDoorM01
import Derived.Test.YtdjkgilohhjfoaaGreatDoorProg
import Derived.Test.YtdjkgilohhjfoaaGreatDoorM00
import Derived.WalkKit
import Derived.WalkSmall
import Derived.WalkSpells
import Derived.WalkLawsBesides
import Derived.Deep.OwnRows
import Derived.Deep.Draws
import Derived.Deep.QuietTactic
import Derived.BigQuiet
import Derived.Deep.RegionWith
namespace Go.Proofs.YtdjkgilohhjfoaaGreatDoor

def SmT (L : Nat) (x : TI) : Prop := x.ns.length ≤ L
def SmE (L : Nat) (x : EI) : Prop := x.ns.length ≤ L ∧ x.ty.length ≤ L ∧ ∀ t, t ∈ x.ty → SmT L t
def SmD (L : Nat) (d : DC) : Prop := d.ty.length ≤ L ∧ (∀ t, t ∈ d.ty → SmT L t) ∧ d.ex.length ≤ L ∧ ∀ t, t ∈ d.ex → SmE L t

/-- All items that a reader gives keep this. -/
def Ev {α : Type} (P : α → Prop) (T : Nat → Option (List α × Nat)) : Prop := ∀ i l j, T i = some (l, j) → ∀ x, x ∈ l → P x

theorem floop_ev {α : Type} {P : α → Prop} {ts : List TK} {T : Nat → Option (List α × Nat)} {sg : List UInt8} (h : Ev P T) : ∀ f j ns its l ns' k, floop ts T sg f j ns its = some (l, ns', k) → (∀ x, x ∈ its → P x) → ∀ x, x ∈ l → P x
  | 0, _, _, _, _, _, _, e => by cases e
  | f + 1, j, ns, its, l, ns', k, e => by
    intro hi
    rw [floop] at e
    split at e
    · split at e
      · cases e
      · split at e
        · cases eT : T (j + 2) with
          | none => rw [eT] at e; cases e
          | some r =>
            obtain ⟨l0, k0⟩ := r
            rw [eT] at e
            have h1 := h _ _ _ eT
            have h2 : ∀ x, x ∈ its ++ l0 → P x := fun x hx => (List.mem_append.1 hx).elim (hi x) (h1 x)
            dsimp only at e
            split at e
            case isTrue hs =>
              simp only [Option.some.injEq, Prod.mk.injEq] at e
              obtain ⟨rfl, rfl, rfl⟩ := e
              exact h2
            case isFalse hs =>
              split at e
              · exact floop_ev h f _ _ _ _ _ _ e h2
              · cases e
        · cases e
    · cases e

theorem flds_ev {α : Type} {P : α → Prop} {ts : List TK} {T : Nat → Option (List α × Nat)} {sg : List UInt8} (h : Ev P T) {j : Nat} {l : List α} {ns : List ByteArray} {k : Nat} (e : fldsP ts T sg j = some (l, ns, k)) : ∀ x, x ∈ l → P x := by
  unfold fldsP at e
  split at e
  case isTrue hs =>
    simp only [Option.some.injEq, Prod.mk.injEq] at e
    obtain ⟨rfl, rfl, rfl⟩ := e
    intro x hx
    cases hx
  case isFalse => exact floop_ev h _ _ _ _ _ _ _ e (fun x hx => by cases hx)

theorem brk_ev {α : Type} {P : α → Prop} {ts : List TK} {T : Nat → Option (List α × Nat)} (h : Ev P T) : Ev P (brkP ts T) := fun i l k e => by
  unfold brkP at e
  cases eT : T i with
  | none => rw [eT] at e; cases e
  | some r =>
    obtain ⟨l0, k0⟩ := r
    rw [eT] at e
    dsimp only at e
    split at e
    · simp only [Option.some.injEq, Prod.mk.injEq] at e
      obtain ⟨rfl, rfl⟩ := e
      exact h _ _ _ eT
    · cases e

theorem one_ev {α : Type} {P : α → Prop} {t : α} (hp : P t) {l : List α} {i j : Nat} (e : (some ([t], i) : Option (List α × Nat)) = some (l, j)) : ∀ x, x ∈ l → P x := by
  simp only [Option.some.injEq, Prod.mk.injEq] at e
  obtain ⟨rfl, rfl⟩ := e
  intro x hx
  rw [List.mem_singleton.1 hx]
  exact hp

theorem ti_sm (L : Nat) (k : Int) (a b : ByteArray) : SmT L ⟨k, a, b, []⟩ := Nat.zero_le _
theorem base_ev {st : Bool} {ts : List TK} {T : Nat → Option (List TI × Nat)} (hf : Far ts.length T) (h : Ev (SmT ts.length) T) : Ev (SmT ts.length) (baseP st ts T) := fun i l j e => by
  unfold baseP at e
  split at e
  case isTrue hc =>
    cases ep : pathP st ts i with
    | none => rw [ep] at e; cases e
    | some r =>
      obtain ⟨m, n, k⟩ := r
      rw [ep] at e
      exact one_ev (ti_sm _ _ _ _) e
  case isFalse =>
    split at e
    · exact one_ev (ti_sm _ _ _ _) e
    split at e
    · exact one_ev (ti_sm _ _ _ _) e
    split at e
    · exact one_ev (ti_sm _ _ _ _) e
    split at e
    · cases ep : fldsP ts T sColon (i + 1) with
      | none => rw [ep] at e; cases e
      | some r =>
        obtain ⟨its, ns, k⟩ := r
        rw [ep] at e
        simp only [Option.some.injEq, Prod.mk.injEq] at e
        obtain ⟨rfl, rfl⟩ := e
        have hl := flds_far hf ep
        intro x hx
        rcases List.mem_append.1 hx with z | z
        · exact flds_ev h ep x z
        · rw [List.mem_singleton.1 z]
          show ns.length ≤ _
          omega
    split at e
    · exact brk_ev h _ _ _ e
    · cases e

theorem ty_ev {st : Bool} {ts : List TK} : ∀ f, Ev (SmT ts.length) (tyP st ts f)
  | 0 => fun i l j e => by cases e
  | f + 1 => fun i l j e => by
    rw [tyP] at e
    cases eb : baseP st ts (tyP st ts f) i with
    | none => rw [eb] at e; cases e
    | some r =>
      obtain ⟨l0, k0⟩ := r
      rw [eb] at e
      have h1 := base_ev (ty_far f) (ty_ev f) _ _ _ eb
      dsimp only at e
      split at e
      · cases eT : tyP st ts f (k0 + 1) with
        | none => rw [eT] at e; cases e
        | some r =>
          obtain ⟨l1, k1⟩ := r
          rw [eT] at e
          have h2 := ty_ev f _ _ _ eT
          simp only [Option.some.injEq, Prod.mk.injEq] at e
          obtain ⟨rfl, rfl⟩ := e
          intro x hx
          rcases List.mem_append.1 hx with z | z
          · exact (List.mem_append.1 z).elim (h1 x) (h2 x)
          · rw [List.mem_singleton.1 z]; exact Nat.zero_le _
      · simp only [Option.some.injEq, Prod.mk.injEq] at e
        obtain ⟨rfl, rfl⟩ := e
        exact h1

theorem exO_sm (L : Nat) (k : Int) : SmE L (exO k) := ⟨Nat.zero_le _, Nat.zero_le _, fun t ht => by cases ht⟩
theorem ei_sm (L : Nat) (a b : Int) (c d : ByteArray) : SmE L ⟨a, b, c, d, [], []⟩ := ⟨Nat.zero_le _, Nat.zero_le _, fun t ht => by cases ht⟩
theorem app_ev {α : Type} {P : α → Prop} {a b : List α} (ha : ∀ x, x ∈ a → P x) (hb : ∀ x, x ∈ b → P x) : ∀ x, x ∈ a ++ b → P x := fun x hx => (List.mem_append.1 hx).elim (ha x) (hb x)
theorem sing_ev {α : Type} {P : α → Prop} {a : α} (ha : P a) : ∀ x, x ∈ [a] → P x := fun x hx => by rw [List.mem_singleton.1 hx]; exact ha

theorem atom_ev {st : Bool} {ts : List TK} {T : Nat → Option (List EI × Nat)} (hf : Far ts.length T) (h : Ev (SmE ts.length) T) : Ev (SmE ts.length) (atomP st ts T) := fun i l j e => by
  unfold atomP at e
  split at e
  case isTrue hc =>
    cases ep : pathP st ts i with
    | none => rw [ep] at e; cases e
    | some r =>
      obtain ⟨m, n, k⟩ := r
      rw [ep] at e
      exact one_ev (ei_sm _ _ _ _ _) e
  case isFalse =>
    split at e
    · exact one_ev (ei_sm _ _ _ _ _) e
    split at e
    · exact one_ev (ei_sm _ _ _ _ _) e
    split at e
    · exact one_ev (exO_sm _ _) e
    split at e
    · cases ep : fldsP ts T sEq (i + 1) with
      | none => rw [ep] at e; cases e
      | some r =>
        obtain ⟨its, ns, k⟩ := r
        rw [ep] at e
        simp only [Option.some.injEq, Prod.mk.injEq] at e
        obtain ⟨rfl, rfl⟩ := e
        have hl := flds_far hf ep
        exact app_ev (flds_ev h ep) (sing_ev ⟨by show ns.length ≤ _; omega, Nat.zero_le _, fun t ht => by cases ht⟩)
    split at e
    · exact brk_ev h _ _ _ e
    · cases e

theorem postL_ev {ts : List TK} {T : Nat → Option (List EI × Nat)} (h : Ev (SmE ts.length) T) : ∀ f its j l k, postL ts T f its j = some (l, k) → (∀ x, x ∈ its → SmE ts.length x) → ∀ x, x ∈ l → SmE ts.length x
  | 0, _, _, _, _, e => by cases e
  | f + 1, its, j, l, k, e => by
    intro hi
    rw [postL] at e
    split at e
    · split at e
      · exact postL_ev h f _ _ _ _ e (app_ev hi (sing_ev (ei_sm _ _ _ _ _)))
      · cases e
    · split at e
      · cases eb : brkP ts T (j + 1) with
        | none => rw [eb] at e; cases e
        | some r =>
          obtain ⟨l0, k0⟩ := r
          rw [eb] at e
          exact postL_ev h f _ _ _ _ e (app_ev (app_ev hi (brk_ev h _ _ _ eb)) (sing_ev (exO_sm _ _)))
      · simp only [Option.some.injEq, Prod.mk.injEq] at e
        obtain ⟨rfl, rfl⟩ := e
        exact hi
theorem post_ev {st : Bool} {ts : List TK} {T : Nat → Option (List EI × Nat)} (hf : Far ts.length T) (h : Ev (SmE ts.length) T) : Ev (SmE ts.length) (postP st ts T) := fun i l j e => by
  unfold postP at e
  cases ea : atomP st ts T i with
  | none => rw [ea] at e; cases e
  | some r =>
    obtain ⟨l0, k0⟩ := r
    rw [ea] at e
    exact postL_ev h _ _ _ _ _ e (atom_ev hf h _ _ _ ea)
theorem sumL_ev {st : Bool} {ts : List TK} {T : Nat → Option (List EI × Nat)} (hf : Far ts.length T) (h : Ev (SmE ts.length) T) : ∀ f its j l k, sumL st ts T f its j = some (l, k) → (∀ x, x ∈ its → SmE ts.length x) → ∀ x, x ∈ l → SmE ts.length x
  | 0, _, _, _, _, e => by cases e
  | f + 1, its, j, l, k, e => by
    intro hi
    rw [sumL] at e
    split at e
    · cases eb : postP st ts T (j + 1) with
      | none => rw [eb] at e; cases e
      | some r =>
        obtain ⟨l0, k0⟩ := r
        rw [eb] at e
        exact sumL_ev hf h f _ _ _ _ e (app_ev (app_ev hi (post_ev hf h _ _ _ eb)) (sing_ev (exO_sm _ _)))
    · simp only [Option.some.injEq, Prod.mk.injEq] at e
      obtain ⟨rfl, rfl⟩ := e
      exact hi
theorem sum_ev {st : Bool} {ts : List TK} {T : Nat → Option (List EI × Nat)} (hf : Far ts.length T) (h : Ev (SmE ts.length) T) : Ev (SmE ts.length) (sumP st ts T) := fun i l j e => by
  unfold sumP at e
  cases ea : postP st ts T i with
  | none => rw [ea] at e; cases e
  | some r =>
    obtain ⟨l0, k0⟩ := r
    rw [ea] at e
    exact sumL_ev hf h _ _ _ _ _ e (post_ev hf h _ _ _ ea)

theorem fun_ev {st : Bool} {ts : List TK} {T : Nat → Option (List EI × Nat)} (h : Ev (SmE ts.length) T) : Ev (SmE ts.length) (funP st ts T) := fun i l j e => by
  unfold funP at e
  split at e
  · cases et : tyP st ts (ts.length + 1) (i + 3) with
    | none => rw [et] at e; cases e
    | some r =>
      obtain ⟨t, k0⟩ := r
      rw [et] at e
      have ht := ty_ev _ _ _ _ et
      have hl := ty_far _ _ _ _ et
      dsimp only at e
      split at e
      · cases eb : T (k0 + 1) with
        | none => rw [eb] at e; cases e
        | some r =>
          obtain ⟨l0, k1⟩ := r
          rw [eb] at e
          simp only [Option.some.injEq, Prod.mk.injEq] at e
          obtain ⟨rfl, rfl⟩ := e
          exact app_ev (h _ _ _ eb) (sing_ev ⟨Nat.zero_le _, by show t.length ≤ _; omega, ht⟩)
      · cases e
  · cases e

theorem if_ev {ts : List TK} {T : Nat → Option (List EI × Nat)} (h : Ev (SmE ts.length) T) : Ev (SmE ts.length) (ifP ts T) := fun i l j e => by
  unfold ifP at e
  cases e1 : T i with
  | none => rw [e1] at e; cases e
  | some r =>
    obtain ⟨l1, k1⟩ := r
    rw [e1] at e
    dsimp only at e
    split at e
    · cases e2 : T (k1 + 1) with
      | none => rw [e2] at e; cases e
      | some r =>
        obtain ⟨l2, k2⟩ := r
        rw [e2] at e
        dsimp only at e
        split at e
        · cases e3 : T (k2 + 1) with
          | none => rw [e3] at e; cases e
          | some r =>
            obtain ⟨l3, k3⟩ := r
            rw [e3] at e
            simp only [Option.some.injEq, Prod.mk.injEq] at e
            obtain ⟨rfl, rfl⟩ := e
            exact app_ev (app_ev (app_ev (h _ _ _ e1) (h _ _ _ e2)) (h _ _ _ e3)) (sing_ev (exO_sm _ _))
        · cases e
    · cases e

theorem less_ev {st : Bool} {ts : List TK} {T : Nat → Option (List EI × Nat)} (hf : Far ts.length T) (h : Ev (SmE ts.length) T) : Ev (SmE ts.length) (lessP st ts T) := fun i l j e => by
  unfold lessP at e
  cases e1 : sumP st ts T i with
  | none => rw [e1] at e; cases e
  | some r =>
    obtain ⟨l1, k1⟩ := r
    rw [e1] at e
    have h1 := sum_ev hf h _ _ _ e1
    dsimp only at e
    split at e
    · cases e2 : sumP st ts T (k1 + 1) with
      | none => rw [e2] at e; cases e
      | some r =>
        obtain ⟨l2, k2⟩ := r
        rw [e2] at e
        simp only [Option.some.injEq, Prod.mk.injEq] at e
        obtain ⟨rfl, rfl⟩ := e
        exact app_ev (app_ev h1 (sum_ev hf h _ _ _ e2)) (sing_ev (exO_sm _ _))
    · simp only [Option.some.injEq, Prod.mk.injEq] at e
      obtain ⟨rfl, rfl⟩ := e
      exact h1

theorem ex_ev {st : Bool} {ts : List TK} : ∀ f, Ev (SmE ts.length) (exP st ts f)
  | 0 => fun i l j e => by cases e
  | f + 1 => fun i l j e => by
    rw [exP] at e
    split at e
    · exact fun_ev (ex_ev f) _ _ _ e
    · split at e
      · exact if_ev (ex_ev f) _ _ _ e
      · exact less_ev (ex_far f) (ex_ev f) _ _ _ e

theorem bad_sm (L : Nat) : SmD L dBad := ⟨Nat.zero_le _, (fun t ht => by cases ht), Nat.zero_le _, fun t ht => by cases ht⟩
theorem decl_sm (st : Bool) (ts : List TK) : SmD ts.length (declP st ts) := by
  unfold declP
  split
  · split
    · split
      · exact ⟨Nat.zero_le _, (fun t ht => by cases ht), Nat.zero_le _, fun t ht => by cases ht⟩
      · exact bad_sm _
    · split
      · split
        · cases e1 : tyP st ts (ts.length + 1) 3 with
          | none => exact bad_sm _
          | some r =>
            obtain ⟨t, j⟩ := r
            dsimp only
            split
            · have := ty_far _ _ _ _ e1
              exact ⟨by show t.length ≤ _; omega, ty_ev _ _ _ _ e1, Nat.zero_le _, fun t ht => by cases ht⟩
            · exact bad_sm _
        · exact bad_sm _
      · split
        · split
          · cases e1 : tyP st ts (ts.length + 1) 3 with
            | none => exact bad_sm _
            | some r =>
              obtain ⟨t, j⟩ := r
              dsimp only
              split
              · cases e2 : exP st ts (ts.length + 1) (j + 1) with
                | none => exact bad_sm _
                | some r =>
                  obtain ⟨x, k⟩ := r
                  dsimp only
                  split
                  · have h1 := ty_far _ _ _ _ e1
                    have h2 := ex_far _ _ _ _ e2
                    exact ⟨by show t.length ≤ _; omega, ty_ev _ _ _ _ e1, by show x.length ≤ _; omega, ex_ev _ _ _ _ e2⟩
                  · exact bad_sm _
              · exact bad_sm _
          · exact bad_sm _
        · exact bad_sm _
  · exact bad_sm _

theorem SmT.mono {L M : Nat} (h : L ≤ M) {x : TI} (hx : SmT L x) : SmT M x := Nat.le_trans hx h
theorem SmE.mono {L M : Nat} (h : L ≤ M) {x : EI} (hx : SmE L x) : SmE M x := ⟨Nat.le_trans hx.1 h, Nat.le_trans hx.2.1 h, fun t ht => (hx.2.2 t ht).mono h⟩
theorem SmD.mono {L M : Nat} (h : L ≤ M) {x : DC} (hx : SmD L x) : SmD M x := ⟨Nat.le_trans hx.1 h, fun t ht => (hx.2.1 t ht).mono h, Nat.le_trans hx.2.2.1 h, fun t ht => (hx.2.2.2 t ht).mono h⟩

theorem decs_sm (st : Bool) : ∀ (f : Nat) (ts : List TK), (decs st f ts).length ≤ ts.length ∧ ∀ d, d ∈ decs st f ts → SmD ts.length d
  | 0, _ => ⟨Nat.zero_le _, fun d hd => by cases hd⟩
  | f + 1, ts => by
    rw [decs]
    split
    · exact ⟨Nat.zero_le _, fun d hd => by cases hd⟩
    case isFalse hne =>
      have hpos : 0 < ts.length := by
        rcases ts with _ | ⟨a, l⟩
        · exact absurd rfl hne
        · simp
      cases semi ts with
      | none => exact ⟨by show 1 ≤ _; omega, sing_ev (bad_sm _)⟩
      | some k =>
        obtain ⟨h1, h2⟩ := decs_sm st f (ts.drop (k + 1))
        have hd : (ts.drop (k + 1)).length ≤ ts.length := by rw [List.length_drop]; omega
        have hd1 : (ts.drop (k + 1)).length + 1 ≤ ts.length := by rw [List.length_drop]; omega
        refine ⟨by simp only [List.length_cons]; omega, fun d hx => ?_⟩
        rcases List.mem_cons.1 hx with z | z
        · rw [z]; exact (decl_sm st _).mono (by rw [List.length_take]; omega)
        · exact (h2 d z).mono hd

end Go.Proofs.YtdjkgilohhjfoaaGreatDoor

namespace Go.Proofs.YtdjkgilohhjfoaaGreatDoor
open Go.RowKit

/-- The bound that every length keeps once the law has counted. -/
def lim : Nat := 1048576

/-- A slice of strings. -/
structure StrsAt (w : World) (ao : Option Addr) (b o n : Nat) (S : Nat → ByteArray) : Prop where
  at_ : 0 < n → ao = some ⟨b, o, none⟩
  cell : ∀ i, i < n → w.cell? ⟨b, o + i, none⟩ = some (.string (S i))
  size : ∀ i, i < n → (S i).size ≤ 9223372036854775807
  len : n ≤ 9223372036854775807

/-- A slice of numbers. -/
structure IntsAt (w : World) (ao : Option Addr) (b o n : Nat) (D : Nat → Int) : Prop where
  at_ : 0 < n → ao = some ⟨b, o, none⟩
  cell : ∀ i, i < n → w.cell? ⟨b, o + i, none⟩ = some (.int .i64 (D i))
  len : n ≤ 9223372036854775807

theorem StrsAt.below {w w' : World} {ao : Option Addr} {b o n : Nat} {S : Nat → ByteArray} (h : StrsAt w ao b o n S) (hb : Below w.heap.size w w') : StrsAt w' ao b o n S :=
  ⟨h.at_, fun i hi => by rw [hb.cell (p := ⟨b, o + i, none⟩) (World.block_lt_of_cell? _ _ (h.cell i hi))]; exact h.cell i hi, h.size, h.len⟩
theorem IntsAt.below {w w' : World} {ao : Option Addr} {b o n : Nat} {D : Nat → Int} (h : IntsAt w ao b o n D) (hb : Below w.heap.size w w') : IntsAt w' ao b o n D :=
  ⟨h.at_, fun i hi => by rw [hb.cell (p := ⟨b, o + i, none⟩) (World.block_lt_of_cell? _ _ (h.cell i hi))]; exact h.cell i hi, h.len⟩
theorem below_drewN' (w : World) (n : Nat) : Below w.heap.size w (w.drewN n) := ⟨rfl, rfl, rfl, Nat.le_refl _, fun _ _ => rfl⟩


theorem bel1 (w : World) (o1 : Obj) : Below w.heap.size w (w.alloc o1) := (Below.refl _ _).alloc (Nat.le_refl _) _
theorem bel2 (w : World) (o1 o2 : Obj) : Below w.heap.size w ((w.alloc o1).alloc o2) := (bel1 w o1).alloc (by simp) _
theorem bel2d (w : World) (o1 o2 : Obj) (k : Nat) : Below w.heap.size w (((w.alloc o1).alloc o2).drewN k) := below_drewN (bel2 w o1 o2) k

end Go.Proofs.YtdjkgilohhjfoaaGreatDoor

namespace Go.Proofs.YtdjkgilohhjfoaaGreatDoor
open Go.RowKit

set_option maxRecDepth 100000 in
set_option maxHeartbeats 400000 in
theorem c18 (c : Int) (w : World) :
    Calls Tryz.prog 45 #[.int .u8 c] w fun e w' => e = .returned (.bool (sl c)) ∧ w' = w := by
  by_cases h1 : 97 ≤ c <;> by_cases h2 : c ≤ 122 <;>
  (go_enter Tryz.func45, Tryz.ntmps45
   go_wp2
   go_ret
   exact ⟨by simp [sl, h1, h2], rfl⟩)

set_option maxRecDepth 100000 in
set_option maxHeartbeats 1000000 in
theorem c30 (c : Int) (w : World) :
    Calls Tryz.prog 41 #[.int .u8 c] w fun e w' => e = .returned (.bool (wb c)) ∧ w' = w := by
  by_cases h1 : 97 ≤ c <;> by_cases h2 : c ≤ 122 <;> by_cases h3 : 48 ≤ c <;> by_cases h4 : c ≤ 57 <;> by_cases h5 : c = 95 <;> try (exfalso; omega)
  all_goals
    have h5' : (c == 95) = decide (c = 95) := by rw [Bool.eq_iff_iff]; simp
    go_enter Tryz.func41, Tryz.ntmps41
    go_wp2
    go_ret
    exact ⟨by simp [wb, *], rfl⟩

set_option maxRecDepth 100000 in
set_option maxHeartbeats 1000000 in
theorem c31 (s : ByteArray) (w : World) :
    Calls Tryz.prog 42 #[.string s] w fun e w' => e = .returned (.bool (rsv s.toList)) ∧ w' = w := by
  go_enter Tryz.func42, Tryz.ntmps42
  go_wp2
  all_goals
    go_ret
    exact ⟨by first | (simp_all [rsv]; done) | (refine congrArg (fun b => Ending.returned (Value.bool b)) ?_; rw [Bool.eq_iff_iff]; simp_all [rsv]), rfl⟩

set_option maxRecDepth 100000 in
set_option maxHeartbeats 1000000 in
theorem c41 (s : ByteArray) (w : World) :
    Calls Tryz.prog 47 #[.string s] w fun e w' => e = .returned (.bool (rsv s.toList)) ∧ w' = w := by
  go_enter Tryz.func47, Tryz.ntmps47
  go_wp2
  all_goals
    go_ret
    exact ⟨by simp_all [rsv], rfl⟩

end Go.Proofs.YtdjkgilohhjfoaaGreatDoor

namespace Go.Proofs.YtdjkgilohhjfoaaGreatDoor
open Go.RowKit

theorem ret_bool {a b : Bool} (h : a = b) : Ending.returned (.bool a) = .returned (.bool b) := by rw [h]

set_option maxRecDepth 100000 in
set_option maxHeartbeats 1000000 in
theorem c20 (c : Int) (w : World) :
    Calls Tryz.prog 46 #[.int .u8 c] w fun e w' => e = .returned (.bool (wb c)) ∧ w' = w := by
  by_cases h1 : 97 ≤ c <;> by_cases h2 : c ≤ 122 <;> by_cases h3 : 48 ≤ c <;> by_cases h4 : c ≤ 57 <;> by_cases h5 : c = 95 <;> try (exfalso; omega)
  all_goals
    have h5' : (c == 95) = decide (c = 95) := by rw [Bool.eq_iff_iff]; simp
    have h6 : sl c = decide (97 ≤ c ∧ c ≤ 122) := rfl
    go_enter Tryz.func46, Tryz.ntmps46
    go_wp2_with (go_at_call 45; refine (c18 _ _).mono ?_; rintro e w' ⟨rfl, rfl⟩)
    go_ret
    exact ⟨by simp [wb, *] <;> omega, rfl⟩

set_option maxRecDepth 100000 in
set_option maxHeartbeats 1000000 in
theorem c32 (s : ByteArray) (w : World) (_hs : s.size ≤ 9223372036854775807) :
    Calls Tryz.prog 29 #[.string s] w fun e w' => e = .returned (.bool (gn s)) ∧ w' = w := by
  by_cases h1 : s.size < 1
  · have HG : Hid (gn s = false) := gn_short (s := s) (Or.inl h1)
    go_enter Tryz.func29, Tryz.ntmps29
    go_wp2
    go_ret
    exact ⟨ret_bool HG.out.symm, rfl⟩
  by_cases h2 : 12 < s.size
  · have HG : Hid (gn s = false) := gn_short (s := s) (Or.inr h2)
    go_enter Tryz.func29, Tryz.ntmps29
    go_wp2
    go_ret
    exact ⟨ret_bool HG.out.symm, rfl⟩
  have hp : 0 < s.size := by omega
  have H0 : Hid (sl ((s[0]'hp).toNat : Int) = decide (97 ≤ ((s[0]'hp).toNat : Int) ∧ ((s[0]'hp).toNat : Int) ≤ 122)) := rfl
  by_cases h3 : 97 ≤ ((s[0]'hp).toNat : Int)
  case neg =>
    have HG : Hid (gn s = false) := gn_head hp (by rw [H0.out]; exact decide_eq_false (fun h => h3 h.1))
    have h3' : ((s[0]'hp).toNat : Int) < 97 := by omega
    go_enter Tryz.func29, Tryz.ntmps29
    go_wp2
    go_ret
    exact ⟨ret_bool HG.out.symm, rfl⟩
  by_cases h4 : ((s[0]'hp).toNat : Int) ≤ 122
  case neg =>
    have HG : Hid (gn s = false) := gn_head hp (by rw [H0.out]; exact decide_eq_false (fun h => h4 h.2))
    have h4' : 122 < ((s[0]'hp).toNat : Int) := by omega
    go_enter Tryz.func29, Tryz.ntmps29
    go_wp2
    go_ret
    exact ⟨ret_bool HG.out.symm, rfl⟩
  have Hs : Hid (sl ((s[0]'hp).toNat : Int) = true) := by rw [H0.out]; exact decide_eq_true ⟨h3, h4⟩
  go_enter Tryz.func29, Tryz.ntmps29
  go_wp2
  go_loop [3] (fun i => ∃ k : Nat, k ≤ s.size ∧ i = .int .i64 k ∧ Hid (∀ j (h : j < s.size), j < k → wb (s[j].toNat : Int) = true)) (fun i => s.size - (intOf i).toNat)
  case atStart => exact ⟨0, Nat.zero_le _, rfl, fun j _ h => absurd h (Nat.not_lt_zero _)⟩
  case round =>
    obtain ⟨k, hk, rfl, HA⟩ := hrel
    by_cases hlt : k < s.size
    · cases hw : wb (s[k].toNat : Int)
      · have HG : Hid (gn s = false) := gn_byte k hlt hw
        go_wp2_with (go_at_call 41; refine (c30 _ _).mono ?_; rintro e w' ⟨rfl, rfl⟩)
        go_ret
        exact ⟨ret_bool HG.out.symm, rfl⟩
      · have HW : Hid (wb (s[k].toNat : Int) = true) := hw
        go_wp2_with (go_at_call 41; refine (c30 _ _).mono ?_; rintro e w' ⟨rfl, rfl⟩)
        go_round
        case rel => exact ⟨k + 1, by omega, by go_num, fun j h hj => by
          by_cases e : j = k
          · subst e; exact HW.out
          · exact HA.out j h (by omega)⟩
        case measure => simp [intOf]; omega
    · have HE : Hid (gn s = !rsv s.toList) := gn_end (by omega) (by omega) Hs.out (fun j h => HA.out j h (by omega))
      go_wp2_with (go_at_call 42; refine (c31 _ _).mono ?_; rintro e w' ⟨rfl, rfl⟩)
      go_ret
      exact ⟨ret_bool HE.out.symm, rfl⟩

end Go.Proofs.YtdjkgilohhjfoaaGreatDoor

namespace Go.Proofs.YtdjkgilohhjfoaaGreatDoor
open Go.RowKit

set_option maxRecDepth 100000 in
set_option maxHeartbeats 1000000 in
theorem c40 (s : ByteArray) (w : World) (_hs : s.size ≤ 9223372036854775807) :
    Calls Tryz.prog 34 #[.string s] w fun e w' => e = .returned (.bool (gn s)) ∧ w' = w := by
  by_cases h1 : s.size = 0
  · have HG : Hid (gn s = false) := gn_short (s := s) (Or.inl (by omega))
    go_enter Tryz.func34, Tryz.ntmps34
    go_wp2
    go_ret
    exact ⟨ret_bool HG.out.symm, rfl⟩
  by_cases h2 : 12 < s.size
  · have HG : Hid (gn s = false) := gn_short (s := s) (Or.inr h2)
    have h1' : ((s.size : Int) == 0) = false := beq_eq_false_iff_ne.2 (by omega)
    go_enter Tryz.func34, Tryz.ntmps34
    go_wp2
    go_ret
    exact ⟨ret_bool HG.out.symm, rfl⟩
  have hp : 0 < s.size := by omega
  have h1' : ((s.size : Int) == 0) = false := beq_eq_false_iff_ne.2 (by omega)
  cases h3 : sl ((s[0]'hp).toNat : Int)
  · have HG : Hid (gn s = false) := gn_head hp h3
    go_enter Tryz.func34, Tryz.ntmps34
    go_wp2_with (go_at_call 45; refine (c18 _ _).mono ?_; rintro e w' ⟨rfl, rfl⟩)
    go_ret
    exact ⟨ret_bool HG.out.symm, rfl⟩
  have Hs : Hid (sl ((s[0]'hp).toNat : Int) = true) := h3
  go_enter Tryz.func34, Tryz.ntmps34
  go_wp2_with (go_at_call 45; refine (c18 _ _).mono ?_; rintro e w' ⟨rfl, rfl⟩)
  clear h3
  go_loop [3] (fun i => ∃ k : Nat, 1 ≤ k ∧ k ≤ s.size ∧ i = .int .i64 k ∧ Hid (∀ j (h : j < s.size), j < k → wb (s[j].toNat : Int) = true)) (fun i => s.size - (intOf i).toNat)
  case atStart => exact ⟨1, Nat.le_refl _, by omega, rfl, fun j _ h => by
    have : j = 0 := by omega
    subst this; exact wb_of_sl Hs.out⟩
  case round =>
    obtain ⟨k, hk1, hk, rfl, HA⟩ := hrel
    by_cases hlt : k < s.size
    · cases hw : wb (s[k].toNat : Int)
      · have HG : Hid (gn s = false) := gn_byte k hlt hw
        go_wp2_with (go_at_call 46; refine (c20 _ _).mono ?_; rintro e w' ⟨rfl, rfl⟩)
        go_ret
        exact ⟨ret_bool HG.out.symm, rfl⟩
      · have HW : Hid (wb (s[k].toNat : Int) = true) := hw
        go_wp2_with (go_at_call 46; refine (c20 _ _).mono ?_; rintro e w' ⟨rfl, rfl⟩)
        go_round
        case rel => exact ⟨k + 1, by omega, by omega, by go_num, fun j h hj => by
          by_cases e : j = k
          · subst e; exact HW.out
          · exact HA.out j h (by omega)⟩
        case measure => simp [intOf]; omega
    · have HE : Hid (gn s = !rsv s.toList) := gn_end (by omega) (by omega) Hs.out (fun j h => HA.out j h (by omega))
      go_wp2_with (go_at_call 47; refine (c41 _ _).mono ?_; rintro e w' ⟨rfl, rfl⟩)
      go_ret
      exact ⟨ret_bool HE.out.symm, rfl⟩

end Go.Proofs.YtdjkgilohhjfoaaGreatDoor

