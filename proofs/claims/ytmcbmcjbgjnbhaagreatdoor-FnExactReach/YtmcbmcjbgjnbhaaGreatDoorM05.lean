/-
  Merged for the claim: PhA PcA.
-/
import Derived.Test.YtmcbmcjbgjnbhaaGreatDoorM04
namespace Go.Proofs.YtmcbmcjbgjnbhaaGreatDoor

def SmT (L : Nat) (x : TI) : Prop := x.ns.length ≤ L
def SmE (L : Nat) (x : EI) : Prop := x.ns.length ≤ L ∧ x.ty.length ≤ L ∧ ∀ t, t ∈ x.ty → SmT L t
def SmD (L : Nat) (d : DC) : Prop := d.ty.length ≤ L ∧ (∀ t, t ∈ d.ty → SmT L t) ∧ d.ex.length ≤ L ∧ ∀ t, t ∈ d.ex → SmE L t

/-- All items that a reader gives keep this. -/
def Ev {α : Type} (P : α → Prop) (T : Nat → Option (List α × Nat)) : Prop := ∀ i l j, T i = some (l, j) → ∀ x, x ∈ l → P x

theorem floop_ev {α : Type} {P : α → Prop} {ts : List TK} {T : Nat → Option (List α × Nat)} {sg : List UInt8} (h : Ev P T) : ∀ f j ns its l ns' k, floop ts T sg f j ns its = some (l, ns', k) → (∀ x, x ∈ its → P x) → ∀ x, x ∈ l → P x
  | 0, _, _, _, _, _, _, e => by cases e
  | f + 1, j, ns, its, l, ns', k, e => by
    intro hi
    rw [floop] at e
    split at e
    · split at e
      · cases e
      · split at e
        · cases eT : T (j + 2) with
          | none => rw [eT] at e; cases e
          | some r =>
            obtain ⟨l0, k0⟩ := r
            rw [eT] at e
            have h1 := h _ _ _ eT
            have h2 : ∀ x, x ∈ its ++ l0 → P x := fun x hx => (List.mem_append.1 hx).elim (hi x) (h1 x)
            dsimp only at e
            split at e
            case isTrue hs =>
              simp only [Option.some.injEq, Prod.mk.injEq] at e
              obtain ⟨rfl, rfl, rfl⟩ := e
              exact h2
            case isFalse hs =>
              split at e
              · exact floop_ev h f _ _ _ _ _ _ e h2
              · cases e
        · cases e
    · cases e

theorem flds_ev {α : Type} {P : α → Prop} {ts : List TK} {T : Nat → Option (List α × Nat)} {sg : List UInt8} (h : Ev P T) {j : Nat} {l : List α} {ns : List ByteArray} {k : Nat} (e : fldsP ts T sg j = some (l, ns, k)) : ∀ x, x ∈ l → P x := by
  unfold fldsP at e
  split at e
  case isTrue hs =>
    simp only [Option.some.injEq, Prod.mk.injEq] at e
    obtain ⟨rfl, rfl, rfl⟩ := e
    intro x hx
    cases hx
  case isFalse => exact floop_ev h _ _ _ _ _ _ _ e (fun x hx => by cases hx)

theorem brk_ev {α : Type} {P : α → Prop} {ts : List TK} {T : Nat → Option (List α × Nat)} (h : Ev P T) : Ev P (brkP ts T) := fun i l k e => by
  unfold brkP at e
  cases eT : T i with
  | none => rw [eT] at e; cases e
  | some r =>
    obtain ⟨l0, k0⟩ := r
    rw [eT] at e
    dsimp only at e
    split at e
    · simp only [Option.some.injEq, Prod.mk.injEq] at e
      obtain ⟨rfl, rfl⟩ := e
      exact h _ _ _ eT
    · cases e

theorem one_ev {α : Type} {P : α → Prop} {t : α} (hp : P t) {l : List α} {i j : Nat} (e : (some ([t], i) : Option (List α × Nat)) = some (l, j)) : ∀ x, x ∈ l → P x := by
  simp only [Option.some.injEq, Prod.mk.injEq] at e
  obtain ⟨rfl, rfl⟩ := e
  intro x hx
  rw [List.mem_singleton.1 hx]
  exact hp

theorem ti_sm (L : Nat) (k : Int) (a b : ByteArray) : SmT L ⟨k, a, b, []⟩ := Nat.zero_le _
theorem base_ev {st : Bool} {ts : List TK} {T : Nat → Option (List TI × Nat)} (hf : Far ts.length T) (h : Ev (SmT ts.length) T) : Ev (SmT ts.length) (baseP st ts T) := fun i l j e => by
  unfold baseP at e
  split at e
  case isTrue hc =>
    cases ep : pathP st ts i with
    | none => rw [ep] at e; cases e
    | some r =>
      obtain ⟨m, n, k⟩ := r
      rw [ep] at e
      exact one_ev (ti_sm _ _ _ _) e
  case isFalse =>
    split at e
    · exact one_ev (ti_sm _ _ _ _) e
    split at e
    · exact one_ev (ti_sm _ _ _ _) e
    split at e
    · exact one_ev (ti_sm _ _ _ _) e
    split at e
    · cases ep : fldsP ts T sColon (i + 1) with
      | none => rw [ep] at e; cases e
      | some r =>
        obtain ⟨its, ns, k⟩ := r
        rw [ep] at e
        simp only [Option.some.injEq, Prod.mk.injEq] at e
        obtain ⟨rfl, rfl⟩ := e
        have hl := flds_far hf ep
        intro x hx
        rcases List.mem_append.1 hx with z | z
        · exact flds_ev h ep x z
        · rw [List.mem_singleton.1 z]
          show ns.length ≤ _
          omega
    split at e
    · exact brk_ev h _ _ _ e
    · cases e

theorem ty_ev {st : Bool} {ts : List TK} : ∀ f, Ev (SmT ts.length) (tyP st ts f)
  | 0 => fun i l j e => by cases e
  | f + 1 => fun i l j e => by
    rw [tyP] at e
    cases eb : baseP st ts (tyP st ts f) i with
    | none => rw [eb] at e; cases e
    | some r =>
      obtain ⟨l0, k0⟩ := r
      rw [eb] at e
      have h1 := base_ev (ty_far f) (ty_ev f) _ _ _ eb
      dsimp only at e
      split at e
      · cases eT : tyP st ts f (k0 + 1) with
        | none => rw [eT] at e; cases e
        | some r =>
          obtain ⟨l1, k1⟩ := r
          rw [eT] at e
          have h2 := ty_ev f _ _ _ eT
          simp only [Option.some.injEq, Prod.mk.injEq] at e
          obtain ⟨rfl, rfl⟩ := e
          intro x hx
          rcases List.mem_append.1 hx with z | z
          · exact (List.mem_append.1 z).elim (h1 x) (h2 x)
          · rw [List.mem_singleton.1 z]; exact Nat.zero_le _
      · simp only [Option.some.injEq, Prod.mk.injEq] at e
        obtain ⟨rfl, rfl⟩ := e
        exact h1

theorem exO_sm (L : Nat) (k : Int) : SmE L (exO k) := ⟨Nat.zero_le _, Nat.zero_le _, fun t ht => by cases ht⟩
theorem ei_sm (L : Nat) (a b : Int) (c d : ByteArray) : SmE L ⟨a, b, c, d, [], []⟩ := ⟨Nat.zero_le _, Nat.zero_le _, fun t ht => by cases ht⟩
theorem app_ev {α : Type} {P : α → Prop} {a b : List α} (ha : ∀ x, x ∈ a → P x) (hb : ∀ x, x ∈ b → P x) : ∀ x, x ∈ a ++ b → P x := fun x hx => (List.mem_append.1 hx).elim (ha x) (hb x)
theorem sing_ev {α : Type} {P : α → Prop} {a : α} (ha : P a) : ∀ x, x ∈ [a] → P x := fun x hx => by rw [List.mem_singleton.1 hx]; exact ha

theorem atom_ev {st : Bool} {ts : List TK} {T : Nat → Option (List EI × Nat)} (hf : Far ts.length T) (h : Ev (SmE ts.length) T) : Ev (SmE ts.length) (atomP st ts T) := fun i l j e => by
  unfold atomP at e
  split at e
  case isTrue hc =>
    cases ep : pathP st ts i with
    | none => rw [ep] at e; cases e
    | some r =>
      obtain ⟨m, n, k⟩ := r
      rw [ep] at e
      exact one_ev (ei_sm _ _ _ _ _) e
  case isFalse =>
    split at e
    · exact one_ev (ei_sm _ _ _ _ _) e
    split at e
    · exact one_ev (ei_sm _ _ _ _ _) e
    split at e
    · exact one_ev (exO_sm _ _) e
    split at e
    · cases ep : fldsP ts T sEq (i + 1) with
      | none => rw [ep] at e; cases e
      | some r =>
        obtain ⟨its, ns, k⟩ := r
        rw [ep] at e
        simp only [Option.some.injEq, Prod.mk.injEq] at e
        obtain ⟨rfl, rfl⟩ := e
        have hl := flds_far hf ep
        exact app_ev (flds_ev h ep) (sing_ev ⟨by show ns.length ≤ _; omega, Nat.zero_le _, fun t ht => by cases ht⟩)
    split at e
    · exact brk_ev h _ _ _ e
    · cases e

theorem postL_ev {ts : List TK} {T : Nat → Option (List EI × Nat)} (h : Ev (SmE ts.length) T) : ∀ f its j l k, postL ts T f its j = some (l, k) → (∀ x, x ∈ its → SmE ts.length x) → ∀ x, x ∈ l → SmE ts.length x
  | 0, _, _, _, _, e => by cases e
  | f + 1, its, j, l, k, e => by
    intro hi
    rw [postL] at e
    split at e
    · split at e
      · exact postL_ev h f _ _ _ _ e (app_ev hi (sing_ev (ei_sm _ _ _ _ _)))
      · cases e
    · split at e
      · cases eb : brkP ts T (j + 1) with
        | none => rw [eb] at e; cases e
        | some r =>
          obtain ⟨l0, k0⟩ := r
          rw [eb] at e
          exact postL_ev h f _ _ _ _ e (app_ev (app_ev hi (brk_ev h _ _ _ eb)) (sing_ev (exO_sm _ _)))
      · simp only [Option.some.injEq, Prod.mk.injEq] at e
        obtain ⟨rfl, rfl⟩ := e
        exact hi
theorem post_ev {st : Bool} {ts : List TK} {T : Nat → Option (List EI × Nat)} (hf : Far ts.length T) (h : Ev (SmE ts.length) T) : Ev (SmE ts.length) (postP st ts T) := fun i l j e => by
  unfold postP at e
  cases ea : atomP st ts T i with
  | none => rw [ea] at e; cases e
  | some r =>
    obtain ⟨l0, k0⟩ := r
    rw [ea] at e
    exact postL_ev h _ _ _ _ _ e (atom_ev hf h _ _ _ ea)
theorem sumL_ev {st : Bool} {ts : List TK} {T : Nat → Option (List EI × Nat)} (hf : Far ts.length T) (h : Ev (SmE ts.length) T) : ∀ f its j l k, sumL st ts T f its j = some (l, k) → (∀ x, x ∈ its → SmE ts.length x) → ∀ x, x ∈ l → SmE ts.length x
  | 0, _, _, _, _, e => by cases e
  | f + 1, its, j, l, k, e => by
    intro hi
    rw [sumL] at e
    split at e
    · cases eb : postP st ts T (j + 1) with
      | none => rw [eb] at e; cases e
      | some r =>
        obtain ⟨l0, k0⟩ := r
        rw [eb] at e
        exact sumL_ev hf h f _ _ _ _ e (app_ev (app_ev hi (post_ev hf h _ _ _ eb)) (sing_ev (exO_sm _ _)))
    · simp only [Option.some.injEq, Prod.mk.injEq] at e
      obtain ⟨rfl, rfl⟩ := e
      exact hi
theorem sum_ev {st : Bool} {ts : List TK} {T : Nat → Option (List EI × Nat)} (hf : Far ts.length T) (h : Ev (SmE ts.length) T) : Ev (SmE ts.length) (sumP st ts T) := fun i l j e => by
  unfold sumP at e
  cases ea : postP st ts T i with
  | none => rw [ea] at e; cases e
  | some r =>
    obtain ⟨l0, k0⟩ := r
    rw [ea] at e
    exact sumL_ev hf h _ _ _ _ _ e (post_ev hf h _ _ _ ea)

theorem fun_ev {st : Bool} {ts : List TK} {T : Nat → Option (List EI × Nat)} (h : Ev (SmE ts.length) T) : Ev (SmE ts.length) (funP st ts T) := fun i l j e => by
  unfold funP at e
  split at e
  · cases et : tyP st ts (ts.length + 1) (i + 3) with
    | none => rw [et] at e; cases e
    | some r =>
      obtain ⟨t, k0⟩ := r
      rw [et] at e
      have ht := ty_ev _ _ _ _ et
      have hl := ty_far _ _ _ _ et
      dsimp only at e
      split at e
      · cases eb : T (k0 + 1) with
        | none => rw [eb] at e; cases e
        | some r =>
          obtain ⟨l0, k1⟩ := r
          rw [eb] at e
          simp only [Option.some.injEq, Prod.mk.injEq] at e
          obtain ⟨rfl, rfl⟩ := e
          exact app_ev (h _ _ _ eb) (sing_ev ⟨Nat.zero_le _, by show t.length ≤ _; omega, ht⟩)
      · cases e
  · cases e

theorem if_ev {ts : List TK} {T : Nat → Option (List EI × Nat)} (h : Ev (SmE ts.length) T) : Ev (SmE ts.length) (ifP ts T) := fun i l j e => by
  unfold ifP at e
  cases e1 : T i with
  | none => rw [e1] at e; cases e
  | some r =>
    obtain ⟨l1, k1⟩ := r
    rw [e1] at e
    dsimp only at e
    split at e
    · cases e2 : T (k1 + 1) with
      | none => rw [e2] at e; cases e
      | some r =>
        obtain ⟨l2, k2⟩ := r
        rw [e2] at e
        dsimp only at e
        split at e
        · cases e3 : T (k2 + 1) with
          | none => rw [e3] at e; cases e
          | some r =>
            obtain ⟨l3, k3⟩ := r
            rw [e3] at e
            simp only [Option.some.injEq, Prod.mk.injEq] at e
            obtain ⟨rfl, rfl⟩ := e
            exact app_ev (app_ev (app_ev (h _ _ _ e1) (h _ _ _ e2)) (h _ _ _ e3)) (sing_ev (exO_sm _ _))
        · cases e
    · cases e

theorem less_ev {st : Bool} {ts : List TK} {T : Nat → Option (List EI × Nat)} (hf : Far ts.length T) (h : Ev (SmE ts.length) T) : Ev (SmE ts.length) (lessP st ts T) := fun i l j e => by
  unfold lessP at e
  cases e1 : sumP st ts T i with
  | none => rw [e1] at e; cases e
  | some r =>
    obtain ⟨l1, k1⟩ := r
    rw [e1] at e
    have h1 := sum_ev hf h _ _ _ e1
    dsimp only at e
    split at e
    · cases e2 : sumP st ts T (k1 + 1) with
      | none => rw [e2] at e; cases e
      | some r =>
        obtain ⟨l2, k2⟩ := r
        rw [e2] at e
        simp only [Option.some.injEq, Prod.mk.injEq] at e
        obtain ⟨rfl, rfl⟩ := e
        exact app_ev (app_ev h1 (sum_ev hf h _ _ _ e2)) (sing_ev (exO_sm _ _))
    · simp only [Option.some.injEq, Prod.mk.injEq] at e
      obtain ⟨rfl, rfl⟩ := e
      exact h1

theorem ex_ev {st : Bool} {ts : List TK} : ∀ f, Ev (SmE ts.length) (exP st ts f)
  | 0 => fun i l j e => by cases e
  | f + 1 => fun i l j e => by
    rw [exP] at e
    split at e
    · exact fun_ev (ex_ev f) _ _ _ e
    · split at e
      · exact if_ev (ex_ev f) _ _ _ e
      · exact less_ev (ex_far f) (ex_ev f) _ _ _ e

theorem bad_sm (L : Nat) : SmD L dBad := ⟨Nat.zero_le _, (fun t ht => by cases ht), Nat.zero_le _, fun t ht => by cases ht⟩
theorem decl_sm (st : Bool) (ts : List TK) : SmD ts.length (declP st ts) := by
  unfold declP
  split
  · split
    · split
      · exact ⟨Nat.zero_le _, (fun t ht => by cases ht), Nat.zero_le _, fun t ht => by cases ht⟩
      · exact bad_sm _
    · split
      · split
        · cases e1 : tyP st ts (ts.length + 1) 3 with
          | none => exact bad_sm _
          | some r =>
            obtain ⟨t, j⟩ := r
            dsimp only
            split
            · have := ty_far _ _ _ _ e1
              exact ⟨by show t.length ≤ _; omega, ty_ev _ _ _ _ e1, Nat.zero_le _, fun t ht => by cases ht⟩
            · exact bad_sm _
        · exact bad_sm _
      · split
        · split
          · cases e1 : tyP st ts (ts.length + 1) 3 with
            | none => exact bad_sm _
            | some r =>
              obtain ⟨t, j⟩ := r
              dsimp only
              split
              · cases e2 : exP st ts (ts.length + 1) (j + 1) with
                | none => exact bad_sm _
                | some r =>
                  obtain ⟨x, k⟩ := r
                  dsimp only
                  split
                  · have h1 := ty_far _ _ _ _ e1
                    have h2 := ex_far _ _ _ _ e2
                    exact ⟨by show t.length ≤ _; omega, ty_ev _ _ _ _ e1, by show x.length ≤ _; omega, ex_ev _ _ _ _ e2⟩
                  · exact bad_sm _
              · exact bad_sm _
          · exact bad_sm _
        · exact bad_sm _
  · exact bad_sm _

theorem SmT.mono {L M : Nat} (h : L ≤ M) {x : TI} (hx : SmT L x) : SmT M x := Nat.le_trans hx h
theorem SmE.mono {L M : Nat} (h : L ≤ M) {x : EI} (hx : SmE L x) : SmE M x := ⟨Nat.le_trans hx.1 h, Nat.le_trans hx.2.1 h, fun t ht => (hx.2.2 t ht).mono h⟩
theorem SmD.mono {L M : Nat} (h : L ≤ M) {x : DC} (hx : SmD L x) : SmD M x := ⟨Nat.le_trans hx.1 h, fun t ht => (hx.2.1 t ht).mono h, Nat.le_trans hx.2.2.1 h, fun t ht => (hx.2.2.2 t ht).mono h⟩

theorem decs_sm (st : Bool) : ∀ (f : Nat) (ts : List TK), (decs st f ts).length ≤ ts.length ∧ ∀ d, d ∈ decs st f ts → SmD ts.length d
  | 0, _ => ⟨Nat.zero_le _, fun d hd => by cases hd⟩
  | f + 1, ts => by
    rw [decs]
    split
    · exact ⟨Nat.zero_le _, fun d hd => by cases hd⟩
    case isFalse hne =>
      have hpos : 0 < ts.length := by
        rcases ts with _ | ⟨a, l⟩
        · exact absurd rfl hne
        · simp
      cases semi ts with
      | none => exact ⟨by show 1 ≤ _; omega, sing_ev (bad_sm _)⟩
      | some k =>
        obtain ⟨h1, h2⟩ := decs_sm st f (ts.drop (k + 1))
        have hd : (ts.drop (k + 1)).length ≤ ts.length := by rw [List.length_drop]; omega
        have hd1 : (ts.drop (k + 1)).length + 1 ≤ ts.length := by rw [List.length_drop]; omega
        refine ⟨by simp only [List.length_cons]; omega, fun d hx => ?_⟩
        rcases List.mem_cons.1 hx with z | z
        · rw [z]; exact (decl_sm st _).mono (by rw [List.length_take]; omega)
        · exact (h2 d z).mono hd

end Go.Proofs.YtmcbmcjbgjnbhaaGreatDoor

namespace Go.Proofs.YtmcbmcjbgjnbhaaGreatDoor
open Go.RowKit

/-- Where a list of names lies. -/
structure NPl where
  a : Option Addr
  b : Nat
  c : Nat

/-- Names in memory of one's own. -/
def NmOK (B : Nat) (w : World) (ns : List ByteArray) (p : NPl) : Prop := ns ≠ [] → p.a = some ⟨p.b, 0, none⟩ ∧ B ≤ p.b ∧ ∃ (N : Nat) (f : Nat → Value), w.rowIs p.b 9 N f ∧ ns.length ≤ N ∧ ∀ j, j < ns.length → f j = .string (ns.getD j e0)

theorem NmOK.lt {B : Nat} {w : World} {ns : List ByteArray} {p : NPl} (h : NmOK B w ns p) (hn : ns ≠ []) : B ≤ p.b ∧ p.b < w.heap.size := by
  obtain ⟨_, h1, N, f, hr, _⟩ := h hn
  exact ⟨h1, hr.lt⟩
theorem NmOK.of_block {B : Nat} {w w' : World} {ns : List ByteArray} {p : NPl} (h : NmOK B w ns p) (hb : ns ≠ [] → w'.heap[p.b]? = w.heap[p.b]?) : NmOK B w' ns p := fun hn => by
  obtain ⟨h0, h1, N, f, hr, r⟩ := h hn
  exact ⟨h0, h1, N, f, hr.of_block (hb hn), r⟩
theorem NmOK.but {S : List Nat} {B : Nat} {w w' : World} {ns : List ByteArray} {p : NPl} (h : NmOK B w ns p) (hb : But S w w') (hS : ns ≠ [] → p.b ∉ S) : NmOK B w' ns p :=
  h.of_block (fun hn => hb.block _ (h.lt hn).2 (hS hn))
theorem NmOK.nil (B : Nat) (w : World) (p : NPl) : NmOK B w [] p := fun h => absurd rfl h

def tiC (x : TI × NPl) : List Value := [.int .i64 x.1.op, .string x.1.md, .string x.1.nm, .slice x.2.a x.1.ns.length x.2.c]
def tisC (xs : List (TI × NPl)) : List Value := xs.flatMap tiC
theorem tisC_snoc (xs : List (TI × NPl)) (x : TI × NPl) : tisC (xs ++ [x]) = tisC xs ++ tiC x := by simp [tisC]
/-- The blocks of the names. -/
def tiB (x : TI × NPl) : List Nat := if x.1.ns = [] then [] else [x.2.b]
def tisB (xs : List (TI × NPl)) : List Nat := xs.flatMap tiB
theorem tisB_append (xs ys : List (TI × NPl)) : tisB (xs ++ ys) = tisB xs ++ tisB ys := by simp [tisB]
theorem mem_tisB {xs : List (TI × NPl)} {b : Nat} (h : b ∈ tisB xs) : ∃ x, x ∈ xs ∧ x.1.ns ≠ [] ∧ x.2.b = b := by
  unfold tisB at h
  obtain ⟨x, hx, hb⟩ := List.mem_flatMap.1 h
  unfold tiB at hb
  split at hb
  · cases hb
  · exact ⟨x, hx, ‹_›, (List.mem_singleton.1 hb).symm⟩
theorem tisB_mem {xs : List (TI × NPl)} {x : TI × NPl} (hx : x ∈ xs) (hn : x.1.ns ≠ []) : x.2.b ∈ tisB xs := by
  unfold tisB
  exact List.mem_flatMap.2 ⟨x, hx, by unfold tiB; rw [if_neg hn]; simp⟩

/-- Items in memory of one's own. -/
structure OT (B : Nat) (w : World) (v : Value) (xs : List (TI × NPl)) : Prop where
  own : w.ownsRow B 139 4 v xs.length (tisC xs)
  nm : ∀ x, x ∈ xs → NmOK B w x.1.ns x.2
  nd : (tisB xs).Nodup

theorem OT.names {B : Nat} {w : World} {v : Value} {xs : List (TI × NPl)} (h : OT B w v xs) {b : Nat} (hb : b ∈ tisB xs) : B ≤ b ∧ b < w.heap.size := by
  obtain ⟨x, hx, hn, rfl⟩ := mem_tisB hb
  exact (h.nm x hx).lt hn

/-- A block of names is none of items. -/
theorem own_nm {B B' : Nat} {w : World} {v : Value} {n size : Nat} {xs : List Value} {t : TypeId} (h : w.ownsRow B t size v n xs) (ht : t ≠ 9) {ns : List ByteArray} {p : NPl} (hp : NmOK B' w ns p) (hn : ns ≠ []) : v.ownBlock ≠ some p.b := fun e => by
  obtain ⟨_, _, N, f, ⟨c, hc, _⟩, _⟩ := hp hn
  rcases h.2 with ⟨rfl, rfl⟩ | ⟨g, cap, cur, rfl, _, hh, _⟩
  · cases e
  · have eg : g = p.b := by simpa [Value.ownBlock] using e
    rw [eg, hc] at hh
    simp only [Option.some.injEq, Obj.cells.injEq] at hh
    exact ht hh.2.1.symm

theorem OT.sep {B : Nat} {w : World} {v : Value} {xs : List (TI × NPl)} (h : OT B w v xs) {b : Nat} (hb : b ∈ tisB xs) : v.ownBlock ≠ some b := by
  obtain ⟨x, hx, hn, rfl⟩ := mem_tisB hb
  exact own_nm h.own (by decide) (h.nm x hx) hn

theorem OT.but {S : List Nat} {B : Nat} {w w' : World} {v : Value} {xs : List (TI × NPl)} (h : OT B w v xs) (hb : But S w w') (h1 : ∀ b, v.ownBlock = some b → b ∉ S) (h2 : ∀ b, b ∈ tisB xs → b ∉ S) : OT B w' v xs :=
  ⟨own_block h.own (fun k e => hb.block k (h.own.lt k e.symm).2 (h1 k e.symm)), fun x hx => (h.nm x hx).but hb (fun hn => h2 _ (tisB_mem hx hn)), h.nd⟩

/-- Where only lower blocks, or new ones, have changed. -/
theorem OT.low {S : List Nat} {B : Nat} {w w' : World} {v : Value} {xs : List (TI × NPl)} (h : OT B w v xs) (hb : But S w w') (hS : ∀ b, b ∈ S → b < B ∨ w.heap.size ≤ b) : OT B w' v xs :=
  h.but hb (fun b e z => by have := h.own.lt b e; have := hS b z; omega) (fun b e z => by have := h.names e; have := hS b z; omega)

theorem grown_but {w w3 : World} {v : Value} {o : Obj} (hg : (w.alloc o).grownBy w3 v.ownBlock) : But v.ownBlock.toList w w3 :=
  ⟨hg.os, hg.tape, hg.output, by have := hg.size; simp at this; omega, fun k hk hn => (hg.block k (by simp; omega) (fun e => hn (by simp [← e]))).trans (Below.heap_alloc _ _ _ hk)⟩

/-- A box is no block of it. -/
theorem own_box {B : Nat} {w : World} {v : Value} {n size N : Nat} {xs : List Value} {t t' : TypeId} {X : Nat} {f : Nat → Value} (h : w.ownsRow B t size v n xs) (hX : w.rowIs X t' N f) (hne : t ≠ t') : v.ownBlock ≠ some X := fun e => by
  obtain ⟨c, hc, _⟩ := hX
  rcases h.2 with ⟨rfl, rfl⟩ | ⟨g, cap, cur, rfl, _, hh, _⟩
  · cases e
  · have eg : g = X := by simpa [Value.ownBlock] using e
    rw [eg, hc] at hh
    simp only [Option.some.injEq, Obj.cells.injEq] at hh
    exact hne hh.2.1.symm
theorem nm_box {B : Nat} {w : World} {ns : List ByteArray} {p : NPl} {t' : TypeId} {N X : Nat} {f : Nat → Value} (h : NmOK B w ns p) (hn : ns ≠ []) (hX : w.rowIs X t' N f) (hne : t' ≠ 9) : p.b ≠ X := fun e => by
  obtain ⟨_, _, N', g, ⟨c, hc, _⟩, _⟩ := h hn
  obtain ⟨c', hc', _⟩ := hX
  rw [e, hc'] at hc
  simp only [Option.some.injEq, Obj.cells.injEq] at hc
  exact hne hc.2.1
theorem OT.box {B : Nat} {w : World} {v : Value} {xs : List (TI × NPl)} {t' : TypeId} {N X : Nat} {f : Nat → Value} (h : OT B w v xs) (hX : w.rowIs X t' N f) (h1 : 139 ≠ t') (h2 : t' ≠ 9) (u : Value) (k : Nat) : OT B (w.setCell ⟨X, k, none⟩ u) v xs :=
  h.but (S := [X]) ((But.refl _ _).set (fun _ => by simp) k u) (fun b e z => own_box h.own hX h1 (by rw [e, List.mem_singleton.1 z])) (fun b hb z => by
    obtain ⟨x, hx, hn, rfl⟩ := mem_tisB hb
    exact nm_box (h.nm x hx) hn hX h2 (List.mem_singleton.1 z))

/-- One more item. -/
theorem OT.push {B : Nat} {w w3 : World} {v : Value} {xs : List (TI × NPl)} {x : TI × NPl} {o : Obj} {gg cap3 : Nat} (h : OT B w v xs)
    (hown : w3.ownsRow B 139 4 (.slice (some ⟨gg, 0, none⟩) (xs.length + 1) cap3) (xs.length + 1) (tisC xs ++ tiC x)) (hg : (w.alloc o).grownBy w3 v.ownBlock) (hx : NmOK B w x.1.ns x.2) (hn : x.1.ns ≠ [] → x.2.b ∉ tisB xs) :
    OT B w3 (.slice (some ⟨gg, 0, none⟩) (xs.length + 1) cap3) (xs ++ [x]) := by
  have hb := grown_but hg
  refine ⟨by rw [tisC_snoc, List.length_append]; exact hown, fun y hy => ?_, ?_⟩
  · rcases List.mem_append.1 hy with z | z
    · exact (h.nm y z).but hb (fun hn => by simp only [Option.mem_toList]; exact own_nm h.own (by decide) (h.nm y z) hn)
    · rw [List.mem_singleton.1 z]
      exact hx.but hb (fun hn => by simp only [Option.mem_toList]; exact own_nm h.own (by decide) hx hn)
  · rw [tisB_append]
    refine List.nodup_append.2 ⟨h.nd, ?_, fun a ha b hb e => ?_⟩
    · unfold tisB tiB
      simp only [List.flatMap_cons, List.flatMap_nil, List.append_nil]
      split <;> simp
    · obtain ⟨y, hy, hyn, rfl⟩ := mem_tisB hb
      rw [List.mem_singleton.1 hy] at hyn e
      exact hn hyn (e ▸ ha)

/-- What comes of a reader of types. -/
def TyR (B P tb o : Nat) (ts : List TK) (eT : TypeId) (eV : Value) (w : World) (v : Value) (xs : List (TI × NPl)) (r : Option (List TI × Nat)) (e : Ending) (w' : World) : Prop :=
  But (P :: v.ownBlock.toList) w w' ∧ match r with
  | none => e = .panicked [{ v := .iface eT eV, recovered := false }]
  | some (l, j) => ∃ v' ys, e = .returned v' ∧ OT B w' v' (xs ++ ys) ∧ ys.map Prod.fst = l ∧ PsAt w' P tb o j ts eT eV ∧ (∀ b, v'.ownBlock = some b → v.ownBlock = some b ∨ w.heap.size ≤ b) ∧ ∀ b, b ∈ tisB ys → w.heap.size ≤ b

/-- The reader of whole types, of this fuel. -/
def TyC (B P tb o : Nat) (ts : List TK) (eT : TypeId) (eV : Value) (f : Nat) : Prop :=
  ∀ (i : Nat) (w : World) (v : Value) (xs : List (TI × NPl)), PsAt w P tb o i ts eT eV → OT B w v xs → xs.length ≤ i → ts.length - i < f → B ≤ w.heap.size → Calls Tryz.prog 80 #[.pointer (some ⟨P, 0, none⟩), v] w (TyR B P tb o ts eT eV w v xs (tyP true ts f i))

theorem Tryz.infoTI : (Tryz.prog.info? 139).map (fun i => (i.zero, i.size, i.bytes)) = some (some (.agg #[.int .i64 0, .string ByteArray.empty, .string ByteArray.empty, .slice none 0 0]), 4, 64) := by kernel_rfl

end Go.Proofs.YtmcbmcjbgjnbhaaGreatDoor

