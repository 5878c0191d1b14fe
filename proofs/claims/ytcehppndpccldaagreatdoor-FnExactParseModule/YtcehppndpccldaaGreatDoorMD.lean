/-
  Merged for the claim: PhA PhB PgG PgH PhC Mark PhD.
-/
import Derived.Test.YtcehppndpccldaaGreatDoorM5
import Derived.Test.YtcehppndpccldaaGreatDoorMC
import Derived.Test.YtcehppndpccldaaGreatDoorM4
import Derived.Laws.BytesString
namespace Go.Proofs.YtcehppndpccldaaGreatDoor

def SmT (L : Nat) (x : TI) : Prop := x.ns.length ≤ L
def SmE (L : Nat) (x : EI) : Prop := x.ns.length ≤ L ∧ x.ty.length ≤ L ∧ ∀ t, t ∈ x.ty → SmT L t
def SmD (L : Nat) (d : DC) : Prop := d.ty.length ≤ L ∧ (∀ t, t ∈ d.ty → SmT L t) ∧ d.ex.length ≤ L ∧ ∀ t, t ∈ d.ex → SmE L t

/-- All items that a reader gives keep this. -/
def Ev {α : Type} (P : α → Prop) (T : Nat → Option (List α × Nat)) : Prop := ∀ i l j, T i = some (l, j) → ∀ x, x ∈ l → P x

theorem floop_ev {α : Type} {P : α → Prop} {ts : List TK} {T : Nat → Option (List α × Nat)} {sg : List UInt8} (h : Ev P T) : ∀ f j ns its l ns' k, floop ts T sg f j ns its = some (l, ns', k) → (∀ x, x ∈ its → P x) → ∀ x, x ∈ l → P x
  | 0, _, _, _, _, _, _, e => by cases e
  | f + 1, j, ns, its, l, ns', k, e => by
    intro hi
    rw [floop] at e
    split at e
    · split at e
      · cases e
      · split at e
        · cases eT : T (j + 2) with
          | none => rw [eT] at e; cases e
          | some r =>
            obtain ⟨l0, k0⟩ := r
            rw [eT] at e
            have h1 := h _ _ _ eT
            have h2 : ∀ x, x ∈ its ++ l0 → P x := fun x hx => (List.mem_append.1 hx).elim (hi x) (h1 x)
            dsimp only at e
            split at e
            case isTrue hs =>
              simp only [Option.some.injEq, Prod.mk.injEq] at e
              obtain ⟨rfl, rfl, rfl⟩ := e
              exact h2
            case isFalse hs =>
              split at e
              · exact floop_ev h f _ _ _ _ _ _ e h2
              · cases e
        · cases e
    · cases e

theorem flds_ev {α : Type} {P : α → Prop} {ts : List TK} {T : Nat → Option (List α × Nat)} {sg : List UInt8} (h : Ev P T) {j : Nat} {l : List α} {ns : List ByteArray} {k : Nat} (e : fldsP ts T sg j = some (l, ns, k)) : ∀ x, x ∈ l → P x := by
  unfold fldsP at e
  split at e
  case isTrue hs =>
    simp only [Option.some.injEq, Prod.mk.injEq] at e
    obtain ⟨rfl, rfl, rfl⟩ := e
    intro x hx
    cases hx
  case isFalse => exact floop_ev h _ _ _ _ _ _ _ e (fun x hx => by cases hx)

theorem brk_ev {α : Type} {P : α → Prop} {ts : List TK} {T : Nat → Option (List α × Nat)} (h : Ev P T) : Ev P (brkP ts T) := fun i l k e => by
  unfold brkP at e
  cases eT : T i with
  | none => rw [eT] at e; cases e
  | some r =>
    obtain ⟨l0, k0⟩ := r
    rw [eT] at e
    dsimp only at e
    split at e
    · simp only [Option.some.injEq, Prod.mk.injEq] at e
      obtain ⟨rfl, rfl⟩ := e
      exact h _ _ _ eT
    · cases e

theorem one_ev {α : Type} {P : α → Prop} {t : α} (hp : P t) {l : List α} {i j : Nat} (e : (some ([t], i) : Option (List α × Nat)) = some (l, j)) : ∀ x, x ∈ l → P x := by
  simp only [Option.some.injEq, Prod.mk.injEq] at e
  obtain ⟨rfl, rfl⟩ := e
  intro x hx
  rw [List.mem_singleton.1 hx]
  exact hp

theorem ti_sm (L : Nat) (k : Int) (a b : ByteArray) : SmT L ⟨k, a, b, []⟩ := Nat.zero_le _
theorem base_ev {st : Bool} {ts : List TK} {T : Nat → Option (List TI × Nat)} (hf : Far ts.length T) (h : Ev (SmT ts.length) T) : Ev (SmT ts.length) (baseP st ts T) := fun i l j e => by
  unfold baseP at e
  split at e
  case isTrue hc =>
    cases ep : pathP st ts i with
    | none => rw [ep] at e; cases e
    | some r =>
      obtain ⟨m, n, k⟩ := r
      rw [ep] at e
      exact one_ev (ti_sm _ _ _ _) e
  case isFalse =>
    split at e
    · exact one_ev (ti_sm _ _ _ _) e
    split at e
    · exact one_ev (ti_sm _ _ _ _) e
    split at e
    · exact one_ev (ti_sm _ _ _ _) e
    split at e
    · cases ep : fldsP ts T sColon (i + 1) with
      | none => rw [ep] at e; cases e
      | some r =>
        obtain ⟨its, ns, k⟩ := r
        rw [ep] at e
        simp only [Option.some.injEq, Prod.mk.injEq] at e
        obtain ⟨rfl, rfl⟩ := e
        have hl := flds_far hf ep
        intro x hx
        rcases List.mem_append.1 hx with z | z
        · exact flds_ev h ep x z
        · rw [List.mem_singleton.1 z]
          show ns.length ≤ _
          omega
    split at e
    · exact brk_ev h _ _ _ e
    · cases e

theorem ty_ev {st : Bool} {ts : List TK} : ∀ f, Ev (SmT ts.length) (tyP st ts f)
  | 0 => fun i l j e => by cases e
  | f + 1 => fun i l j e => by
    rw [tyP] at e
    cases eb : baseP st ts (tyP st ts f) i with
    | none => rw [eb] at e; cases e
    | some r =>
      obtain ⟨l0, k0⟩ := r
      rw [eb] at e
      have h1 := base_ev (ty_far f) (ty_ev f) _ _ _ eb
      dsimp only at e
      split at e
      · cases eT : tyP st ts f (k0 + 1) with
        | none => rw [eT] at e; cases e
        | some r =>
          obtain ⟨l1, k1⟩ := r
          rw [eT] at e
          have h2 := ty_ev f _ _ _ eT
          simp only [Option.some.injEq, Prod.mk.injEq] at e
          obtain ⟨rfl, rfl⟩ := e
          intro x hx
          rcases List.mem_append.1 hx with z | z
          · exact (List.mem_append.1 z).elim (h1 x) (h2 x)
          · rw [List.mem_singleton.1 z]; exact Nat.zero_le _
      · simp only [Option.some.injEq, Prod.mk.injEq] at e
        obtain ⟨rfl, rfl⟩ := e
        exact h1

theorem exO_sm (L : Nat) (k : Int) : SmE L (exO k) := ⟨Nat.zero_le _, Nat.zero_le _, fun t ht => by cases ht⟩
theorem ei_sm (L : Nat) (a b : Int) (c d : ByteArray) : SmE L ⟨a, b, c, d, [], []⟩ := ⟨Nat.zero_le _, Nat.zero_le _, fun t ht => by cases ht⟩
theorem app_ev {α : Type} {P : α → Prop} {a b : List α} (ha : ∀ x, x ∈ a → P x) (hb : ∀ x, x ∈ b → P x) : ∀ x, x ∈ a ++ b → P x := fun x hx => (List.mem_append.1 hx).elim (ha x) (hb x)
theorem sing_ev {α : Type} {P : α → Prop} {a : α} (ha : P a) : ∀ x, x ∈ [a] → P x := fun x hx => by rw [List.mem_singleton.1 hx]; exact ha

theorem atom_ev {st : Bool} {ts : List TK} {T : Nat → Option (List EI × Nat)} (hf : Far ts.length T) (h : Ev (SmE ts.length) T) : Ev (SmE ts.length) (atomP st ts T) := fun i l j e => by
  unfold atomP at e
  split at e
  case isTrue hc =>
    cases ep : pathP st ts i with
    | none => rw [ep] at e; cases e
    | some r =>
      obtain ⟨m, n, k⟩ := r
      rw [ep] at e
      exact one_ev (ei_sm _ _ _ _ _) e
  case isFalse =>
    split at e
    · exact one_ev (ei_sm _ _ _ _ _) e
    split at e
    · exact one_ev (ei_sm _ _ _ _ _) e
    split at e
    · exact one_ev (exO_sm _ _) e
    split at e
    · cases ep : fldsP ts T sEq (i + 1) with
      | none => rw [ep] at e; cases e
      | some r =>
        obtain ⟨its, ns, k⟩ := r
        rw [ep] at e
        simp only [Option.some.injEq, Prod.mk.injEq] at e
        obtain ⟨rfl, rfl⟩ := e
        have hl := flds_far hf ep
        exact app_ev (flds_ev h ep) (sing_ev ⟨by show ns.length ≤ _; omega, Nat.zero_le _, fun t ht => by cases ht⟩)
    split at e
    · exact brk_ev h _ _ _ e
    · cases e

theorem postL_ev {ts : List TK} {T : Nat → Option (List EI × Nat)} (h : Ev (SmE ts.length) T) : ∀ f its j l k, postL ts T f its j = some (l, k) → (∀ x, x ∈ its → SmE ts.length x) → ∀ x, x ∈ l → SmE ts.length x
  | 0, _, _, _, _, e => by cases e
  | f + 1, its, j, l, k, e => by
    intro hi
    rw [postL] at e
    split at e
    · split at e
      · exact postL_ev h f _ _ _ _ e (app_ev hi (sing_ev (ei_sm _ _ _ _ _)))
      · cases e
    · split at e
      · cases eb : brkP ts T (j + 1) with
        | none => rw [eb] at e; cases e
        | some r =>
          obtain ⟨l0, k0⟩ := r
          rw [eb] at e
          exact postL_ev h f _ _ _ _ e (app_ev (app_ev hi (brk_ev h _ _ _ eb)) (sing_ev (exO_sm _ _)))
      · simp only [Option.some.injEq, Prod.mk.injEq] at e
        obtain ⟨rfl, rfl⟩ := e
        exact hi
theorem post_ev {st : Bool} {ts : List TK} {T : Nat → Option (List EI × Nat)} (hf : Far ts.length T) (h : Ev (SmE ts.length) T) : Ev (SmE ts.length) (postP st ts T) := fun i l j e => by
  unfold postP at e
  cases ea : atomP st ts T i with
  | none => rw [ea] at e; cases e
  | some r =>
    obtain ⟨l0, k0⟩ := r
    rw [ea] at e
    exact postL_ev h _ _ _ _ _ e (atom_ev hf h _ _ _ ea)
theorem sumL_ev {st : Bool} {ts : List TK} {T : Nat → Option (List EI × Nat)} (hf : Far ts.length T) (h : Ev (SmE ts.length) T) : ∀ f its j l k, sumL st ts T f its j = some (l, k) → (∀ x, x ∈ its → SmE ts.length x) → ∀ x, x ∈ l → SmE ts.length x
  | 0, _, _, _, _, e => by cases e
  | f + 1, its, j, l, k, e => by
    intro hi
    rw [sumL] at e
    split at e
    · cases eb : postP st ts T (j + 1) with
      | none => rw [eb] at e; cases e
      | some r =>
        obtain ⟨l0, k0⟩ := r
        rw [eb] at e
        exact sumL_ev hf h f _ _ _ _ e (app_ev (app_ev hi (post_ev hf h _ _ _ eb)) (sing_ev (exO_sm _ _)))
    · simp only [Option.some.injEq, Prod.mk.injEq] at e
      obtain ⟨rfl, rfl⟩ := e
      exact hi
theorem sum_ev {st : Bool} {ts : List TK} {T : Nat → Option (List EI × Nat)} (hf : Far ts.length T) (h : Ev (SmE ts.length) T) : Ev (SmE ts.length) (sumP st ts T) := fun i l j e => by
  unfold sumP at e
  cases ea : postP st ts T i with
  | none => rw [ea] at e; cases e
  | some r =>
    obtain ⟨l0, k0⟩ := r
    rw [ea] at e
    exact sumL_ev hf h _ _ _ _ _ e (post_ev hf h _ _ _ ea)

theorem fun_ev {st : Bool} {ts : List TK} {T : Nat → Option (List EI × Nat)} (h : Ev (SmE ts.length) T) : Ev (SmE ts.length) (funP st ts T) := fun i l j e => by
  unfold funP at e
  split at e
  · cases et : tyP st ts (ts.length + 1) (i + 3) with
    | none => rw [et] at e; cases e
    | some r =>
      obtain ⟨t, k0⟩ := r
      rw [et] at e
      have ht := ty_ev _ _ _ _ et
      have hl := ty_far _ _ _ _ et
      dsimp only at e
      split at e
      · cases eb : T (k0 + 1) with
        | none => rw [eb] at e; cases e
        | some r =>
          obtain ⟨l0, k1⟩ := r
          rw [eb] at e
          simp only [Option.some.injEq, Prod.mk.injEq] at e
          obtain ⟨rfl, rfl⟩ := e
          exact app_ev (h _ _ _ eb) (sing_ev ⟨Nat.zero_le _, by show t.length ≤ _; omega, ht⟩)
      · cases e
  · cases e

theorem if_ev {ts : List TK} {T : Nat → Option (List EI × Nat)} (h : Ev (SmE ts.length) T) : Ev (SmE ts.length) (ifP ts T) := fun i l j e => by
  unfold ifP at e
  cases e1 : T i with
  | none => rw [e1] at e; cases e
  | some r =>
    obtain ⟨l1, k1⟩ := r
    rw [e1] at e
    dsimp only at e
    split at e
    · cases e2 : T (k1 + 1) with
      | none => rw [e2] at e; cases e
      | some r =>
        obtain ⟨l2, k2⟩ := r
        rw [e2] at e
        dsimp only at e
        split at e
        · cases e3 : T (k2 + 1) with
          | none => rw [e3] at e; cases e
          | some r =>
            obtain ⟨l3, k3⟩ := r
            rw [e3] at e
            simp only [Option.some.injEq, Prod.mk.injEq] at e
            obtain ⟨rfl, rfl⟩ := e
            exact app_ev (app_ev (app_ev (h _ _ _ e1) (h _ _ _ e2)) (h _ _ _ e3)) (sing_ev (exO_sm _ _))
        · cases e
    · cases e

theorem less_ev {st : Bool} {ts : List TK} {T : Nat → Option (List EI × Nat)} (hf : Far ts.length T) (h : Ev (SmE ts.length) T) : Ev (SmE ts.length) (lessP st ts T) := fun i l j e => by
  unfold lessP at e
  cases e1 : sumP st ts T i with
  | none => rw [e1] at e; cases e
  | some r =>
    obtain ⟨l1, k1⟩ := r
    rw [e1] at e
    have h1 := sum_ev hf h _ _ _ e1
    dsimp only at e
    split at e
    · cases e2 : sumP st ts T (k1 + 1) with
      | none => rw [e2] at e; cases e
      | some r =>
        obtain ⟨l2, k2⟩ := r
        rw [e2] at e
        simp only [Option.some.injEq, Prod.mk.injEq] at e
        obtain ⟨rfl, rfl⟩ := e
        exact app_ev (app_ev h1 (sum_ev hf h _ _ _ e2)) (sing_ev (exO_sm _ _))
    · simp only [Option.some.injEq, Prod.mk.injEq] at e
      obtain ⟨rfl, rfl⟩ := e
      exact h1

theorem ex_ev {st : Bool} {ts : List TK} : ∀ f, Ev (SmE ts.length) (exP st ts f)
  | 0 => fun i l j e => by cases e
  | f + 1 => fun i l j e => by
    rw [exP] at e
    split at e
    · exact fun_ev (ex_ev f) _ _ _ e
    · split at e
      · exact if_ev (ex_ev f) _ _ _ e
      · exact less_ev (ex_far f) (ex_ev f) _ _ _ e

theorem bad_sm (L : Nat) : SmD L dBad := ⟨Nat.zero_le _, (fun t ht => by cases ht), Nat.zero_le _, fun t ht => by cases ht⟩
theorem decl_sm (st : Bool) (ts : List TK) : SmD ts.length (declP st ts) := by
  unfold declP
  split
  · split
    · split
      · exact ⟨Nat.zero_le _, (fun t ht => by cases ht), Nat.zero_le _, fun t ht => by cases ht⟩
      · exact bad_sm _
    · split
      · split
        · cases e1 : tyP st ts (ts.length + 1) 3 with
          | none => exact bad_sm _
          | some r =>
            obtain ⟨t, j⟩ := r
            dsimp only
            split
            · have := ty_far _ _ _ _ e1
              exact ⟨by show t.length ≤ _; omega, ty_ev _ _ _ _ e1, Nat.zero_le _, fun t ht => by cases ht⟩
            · exact bad_sm _
        · exact bad_sm _
      · split
        · split
          · cases e1 : tyP st ts (ts.length + 1) 3 with
            | none => exact bad_sm _
            | some r =>
              obtain ⟨t, j⟩ := r
              dsimp only
              split
              · cases e2 : exP st ts (ts.length + 1) (j + 1) with
                | none => exact bad_sm _
                | some r =>
                  obtain ⟨x, k⟩ := r
                  dsimp only
                  split
                  · have h1 := ty_far _ _ _ _ e1
                    have h2 := ex_far _ _ _ _ e2
                    exact ⟨by show t.length ≤ _; omega, ty_ev _ _ _ _ e1, by show x.length ≤ _; omega, ex_ev _ _ _ _ e2⟩
                  · exact bad_sm _
              · exact bad_sm _
          · exact bad_sm _
        · exact bad_sm _
  · exact bad_sm _

theorem SmT.mono {L M : Nat} (h : L ≤ M) {x : TI} (hx : SmT L x) : SmT M x := Nat.le_trans hx h
theorem SmE.mono {L M : Nat} (h : L ≤ M) {x : EI} (hx : SmE L x) : SmE M x := ⟨Nat.le_trans hx.1 h, Nat.le_trans hx.2.1 h, fun t ht => (hx.2.2 t ht).mono h⟩
theorem SmD.mono {L M : Nat} (h : L ≤ M) {x : DC} (hx : SmD L x) : SmD M x := ⟨Nat.le_trans hx.1 h, fun t ht => (hx.2.1 t ht).mono h, Nat.le_trans hx.2.2.1 h, fun t ht => (hx.2.2.2 t ht).mono h⟩

theorem decs_sm (st : Bool) : ∀ (f : Nat) (ts : List TK), (decs st f ts).length ≤ ts.length ∧ ∀ d, d ∈ decs st f ts → SmD ts.length d
  | 0, _ => ⟨Nat.zero_le _, fun d hd => by cases hd⟩
  | f + 1, ts => by
    rw [decs]
    split
    · exact ⟨Nat.zero_le _, fun d hd => by cases hd⟩
    case isFalse hne =>
      have hpos : 0 < ts.length := by
        rcases ts with _ | ⟨a, l⟩
        · exact absurd rfl hne
        · simp
      cases semi ts with
      | none => exact ⟨by show 1 ≤ _; omega, sing_ev (bad_sm _)⟩
      | some k =>
        obtain ⟨h1, h2⟩ := decs_sm st f (ts.drop (k + 1))
        have hd : (ts.drop (k + 1)).length ≤ ts.length := by rw [List.length_drop]; omega
        have hd1 : (ts.drop (k + 1)).length + 1 ≤ ts.length := by rw [List.length_drop]; omega
        refine ⟨by simp only [List.length_cons]; omega, fun d hx => ?_⟩
        rcases List.mem_cons.1 hx with z | z
        · rw [z]; exact (decl_sm st _).mono (by rw [List.length_take]; omega)
        · exact (h2 d z).mono hd

end Go.Proofs.YtcehppndpccldaaGreatDoor

namespace Go.Proofs.YtcehppndpccldaaGreatDoor
open Go.RowKit

theorem NmOK.drew {B : Nat} {w : World} {ns : List ByteArray} {p : NPl} (h : NmOK B w ns p) : NmOK B w.drew ns p := h
theorem map_get {α β : Type} {f : α → β} {xs ys : List α} (h : xs.map f = ys.map f) {k : Nat} (h1 : k < xs.length) (h2 : k < ys.length) : f xs[k] = f ys[k] := by
  have e1 : (xs.map f)[k]? = some (f xs[k]) := by rw [List.getElem?_map, List.getElem?_eq_getElem h1]; rfl
  have e2 : (ys.map f)[k]? = some (f ys[k]) := by rw [List.getElem?_map, List.getElem?_eq_getElem h2]; rfl
  rw [h, e2] at e1
  exact (Option.some.inj e1).symm

set_option maxRecDepth 100000 in
set_option maxHeartbeats 1000000 in
theorem e_names (w : World) {B1 B2 : Nat} {ns : List ByteArray} {p q : NPl} (h1 : NmOK B1 w ns p) (h2 : NmOK B2 w ns q) {n : Nat} (hn : n = ns.length) (hl : n ≤ 1000000) :
    Calls Tryz.prog 141 #[.slice p.a n p.c, .slice q.a n q.c] w fun e w' => e = .returned (.bool true) ∧ ∃ k, w' = w.drewN k := by
  have HC : Hid (∀ k, k < n → (p.a = some ⟨p.b, 0, none⟩ ∧ w.cell? ⟨p.b, k, none⟩ = some (.string (ns.getD k e0))) ∧ (q.a = some ⟨q.b, 0, none⟩ ∧ w.cell? ⟨q.b, k, none⟩ = some (.string (ns.getD k e0)))) := fun k hk => by
    have hne : ns ≠ [] := by rintro rfl; simp at hn; omega
    obtain ⟨e1, _, N1, f1, r1, l1, g1⟩ := h1 hne
    obtain ⟨e2, _, N2, f2, r2, l2, g2⟩ := h2 hne
    refine ⟨⟨e1, ?_⟩, e2, ?_⟩
    · rw [r1.cell (by omega), g1 k (by omega)]
    · rw [r2.cell (by omega), g2 k (by omega)]
  clear h1 h2 hn
  go_enter Tryz.func141, Tryz.ntmps141
  go_wp2
  go_loopw [5] (fun i wr => ∃ k : Nat, k ≤ n ∧ i = .int .i64 k ∧ ∃ m, wr = w.drewN m) (fun i _ => n - (intOf i).toNat)
  case atStart => exact ⟨0, Nat.zero_le _, rfl, 0, rfl⟩
  case round =>
    obtain ⟨k, hk, rfl, m, rfl⟩ := hrel
    by_cases hlt : k < n
    · obtain ⟨⟨e1, g1⟩, e2, g2⟩ := HC.out k hlt
      obtain ⟨s, hs⟩ : ∃ s, s = ns.getD k e0 := ⟨_, rfl⟩
      rw [← hs] at g1 g2
      rw [e1, e2]
      clear e1 e2 hs
      go_wp2
      go_quiet (fail)
      go_wp2
      go_roundw
      case rel => exact ⟨k + 1, by omega, by go_num, _, rfl⟩
      case measure => simp [intOf]; omega
    · go_wp2
      go_ret
      exact ⟨rfl, _, rfl⟩

set_option maxRecDepth 100000 in
set_option maxHeartbeats 1000000 in
theorem e_titem (w : World) {B1 B2 : Nat} (op : Int) (md nm : ByteArray) {ns : List ByteArray} {p q : NPl} (h1 : NmOK B1 w ns p) (h2 : NmOK B2 w ns q) {n : Nat} (hn : n = ns.length) (hl : n ≤ 1000000) :
    Calls Tryz.prog 116 #[.agg #[.int .i64 op, .string md, .string nm, .slice p.a n p.c], .agg #[.int .i64 op, .string md, .string nm, .slice q.a n q.c]] w fun e w' => e = .returned (.bool true) ∧ Below w.heap.size w w' := by
  have HB : Hid (∀ w', Below w.heap.size w w' → NmOK B1 w' ns p ∧ NmOK B2 w' ns q) := fun w' hb => ⟨h1.below hb, h2.below hb⟩
  have HN : Hid (n = ns.length) := hn
  clear h1 h2 hn
  go_enter Tryz.func116, Tryz.ntmps116
  go_wp2_with fail
  refine (e_names _ (by exact (HB.out _ (bel2 _ _ _)).1) (by exact (HB.out _ (bel2 _ _ _)).2) HN.out hl).mono ?_
  rintro e w' ⟨rfl, k, rfl⟩
  go_wp2
  go_ret
  exact ⟨rfl, bel2d _ _ _ _⟩

set_option maxRecDepth 100000 in
set_option maxHeartbeats 2000000 in
theorem e_titems (w : World) {B1 B2 : Nat} {v1 v2 : Value} {xs ys : List (TI × NPl)} (h1 : RT B1 w v1 xs) (h2 : RT B2 w v2 ys) (he : xs.map Prod.fst = ys.map Prod.fst) (hs : ∀ x, x ∈ xs → SmT 1000000 x.1) (hl : xs.length ≤ 1000000) :
    Calls Tryz.prog 84 #[v1, v2] w fun e w' => e = .returned (.bool true) ∧ Below w.heap.size w w' := by
  obtain ⟨a1, c1, rfl⟩ := own_form h1.own
  obtain ⟨a2, c2, rfl⟩ := own_form h2.own
  have hxy : ys.length = xs.length := by have := congrArg List.length he; simpa using this.symm
  rw [hxy]
  have HB : Hid (∀ w', Below w.heap.size w w' → RT B1 w' (.slice a1 xs.length c1) xs ∧ RT B2 w' (.slice a2 ys.length c2) ys) := fun w' hb => ⟨h1.below hb, h2.below hb⟩
  have HE : Hid (xs.map Prod.fst = ys.map Prod.fst ∧ ∀ x, x ∈ xs → SmT 1000000 x.1) := ⟨he, hs⟩
  have HL : Hid (ys.length = xs.length) := hxy
  obtain ⟨n, hn⟩ : ∃ n, n = xs.length := ⟨_, rfl⟩
  rw [← hn] at hl ⊢
  have HN : Hid (n = xs.length) := hn
  have HIT : Hid (∀ k, k < n → ∀ wr, Below w.heap.size w wr → ∃ (g1 g2 : Nat) (x : TI) (p q : NPl), a1 = some ⟨g1, 0, none⟩ ∧ a2 = some ⟨g2, 0, none⟩ ∧ wr.cell? ⟨g1, k * 4, none⟩ = some (Value.int .i64 x.op) ∧ wr.cell? ⟨g1, k * 4 + 1, none⟩ = some (Value.string x.md) ∧ wr.cell? ⟨g1, k * 4 + 2, none⟩ = some (Value.string x.nm) ∧ wr.cell? ⟨g1, k * 4 + 3, none⟩ = some (Value.slice p.a x.ns.length p.c) ∧ wr.cell? ⟨g2, k * 4, none⟩ = some (Value.int .i64 x.op) ∧ wr.cell? ⟨g2, k * 4 + 1, none⟩ = some (Value.string x.md) ∧ wr.cell? ⟨g2, k * 4 + 2, none⟩ = some (Value.string x.nm) ∧ wr.cell? ⟨g2, k * 4 + 3, none⟩ = some (Value.slice q.a x.ns.length q.c) ∧ Hid (NmOK B1 wr x.ns p ∧ NmOK B2 wr x.ns q) ∧ x.ns.length ≤ 1000000) := fun k hk wr hb => by
    have k1 : k < xs.length := by omega
    have k2 : k < ys.length := by omega
    obtain ⟨R1, R2⟩ := HB.out wr hb
    obtain ⟨g1, gc1, ev1, _⟩ := own_blk R1.own (show 0 < xs.length by omega)
    obtain ⟨g2, gc2, ev2, _⟩ := own_blk R2.own (show 0 < ys.length by omega)
    simp only [Value.slice.injEq] at ev1 ev2
    obtain ⟨rfl, -, rfl⟩ := ev1
    obtain ⟨rfl, -, rfl⟩ := ev2
    have ee := map_get he k1 k2
    have hx := List.getElem_mem k1
    have hy := List.getElem_mem k2
    have N1 := R1.nm _ hx
    have N2 := R2.nm _ hy
    rw [← ee] at N2
    refine ⟨g1, g2, xs[k].1, xs[k].2, ys[k].2, rfl, rfl, own_at (f := tiC) tiC_len R1.own (j := k) (r := 0) rfl k1 (by omega) rfl, own_at (f := tiC) tiC_len R1.own rfl k1 (by omega) rfl, own_at (f := tiC) tiC_len R1.own rfl k1 (by omega) rfl, own_at (f := tiC) tiC_len R1.own rfl k1 (by omega) rfl, ?_, ?_, ?_, ?_, ⟨N1, N2⟩, hs _ hx⟩
    · rw [ee]; exact own_at (f := tiC) tiC_len R2.own (j := k) (r := 0) rfl k2 (by omega) rfl
    · rw [ee]; exact own_at (f := tiC) tiC_len R2.own rfl k2 (by omega) rfl
    · rw [ee]; exact own_at (f := tiC) tiC_len R2.own rfl k2 (by omega) rfl
    · rw [ee]; exact own_at (f := tiC) tiC_len R2.own rfl k2 (by omega) rfl
  clear h1 h2 he hs hxy hn
  go_enter Tryz.func84, Tryz.ntmps84
  go_wp2
  go_loopw [5] (fun i wr => ∃ k : Nat, k ≤ n ∧ i = .int .i64 k ∧ Below w.heap.size w wr) (fun i _ => n - (intOf i).toNat)
  case atStart => exact ⟨0, Nat.zero_le _, rfl, Below.refl _ _⟩
  case round =>
    obtain ⟨k, hk, rfl, hb⟩ := hrel
    by_cases hlt : k < n
    · obtain ⟨g1, g2, x, p, q, rfl, rfl, y0, y1, y2, y3, z0, z1, z2, z3, HNM, hxl⟩ := HIT.out k hlt wr hb
      obtain ⟨ml, hml⟩ : ∃ ml, ml = x.ns.length := ⟨_, rfl⟩
      rw [← hml] at y3 z3 hxl
      have C : Hid (∀ k, Calls Tryz.prog 116 #[.agg #[.int .i64 x.op, .string x.md, .string x.nm, .slice p.a ml p.c], .agg #[.int .i64 x.op, .string x.md, .string x.nm, .slice q.a ml q.c]] (wr.drewN k) fun e w' => e = .returned (.bool true) ∧ Below w.heap.size w w') := fun k => (e_titem (wr.drewN k) x.op x.md x.nm (HNM.out.1.below (below_drewN' _ _)) (HNM.out.2.below (below_drewN' _ _)) hml hxl).mono (fun e w' h => ⟨h.1, (below_drewN hb k).trans (h.2.mono hb.size)⟩)
      have C0 : Hid (Calls Tryz.prog 116 #[.agg #[.int .i64 x.op, .string x.md, .string x.nm, .slice p.a ml p.c], .agg #[.int .i64 x.op, .string x.md, .string x.nm, .slice q.a ml q.c]] wr.drew fun e w' => e = .returned (.bool true) ∧ Below w.heap.size w w') := C.out 1
      clear HB HIT HNM hml
      go_wp2
      go_region_with (go_at_call 116; refine C0.out.mono ?_; rintro e w' ⟨rfl, hb'⟩)
      all_goals
        go_wp2
        go_roundw
        case rel => exact ⟨k + 1, by omega, by go_num, hb'⟩
        case measure => simp [intOf]; omega
    · go_wp2
      go_ret
      exact ⟨rfl, hb⟩

end Go.Proofs.YtcehppndpccldaaGreatDoor

namespace Go.Proofs.YtcehppndpccldaaGreatDoor
open Go.RowKit

/-- What comes of a reader of types of the model's. -/
def MTR (w : World) (r : Option (List TI × Nat)) (e : Ending) (w' : World) : Prop := Below w.heap.size w w' ∧ match r with
  | none => ∃ a n c, e = .returned (.agg #[.slice a n c, .int .i64 (-1)])
  | some (l, j) => ∃ a n c k zs, e = .returned (.agg #[.slice a n c, .int .i64 k]) ∧ k = (j : Int) ∧ RT w.heap.size w' (.slice a n c) zs ∧ zs.map Prod.fst = l

/-- The model's reader of types, of this fuel. -/
def MTC (tb o : Nat) (ts : List TK) (f : Nat) : Prop := ∀ (w : World) (ao : Option Addr) (c : Nat) (a : Int) (i : Nat), MS w tb o ao ts → a = i → ts.length - i < f → i ≤ 1100 → Calls Tryz.prog 49 #[.slice ao ts.length c, .int .i64 a] w (MTR w (tyP false ts f i))

theorem below_box {w w1 : World} (h : Below w.heap.size w w1) (a b : Value) : Below w.heap.size w ((w1.setCell ⟨w.heap.size, 0, none⟩ a).setCell ⟨w.heap.size, 1, none⟩ b) :=
  ⟨h.os, h.tape, h.output, by rw [World.size_setCell, World.size_setCell]; exact h.size, fun k hk => by
    rw [Below.heap_setCell _ _ _ _ (by show k ≠ w.heap.size; omega), Below.heap_setCell _ _ _ _ (by show k ≠ w.heap.size; omega)]
    exact h.block k hk⟩

abbrev bxT (w : World) : World := w.alloc (.cells #[.slice none 0 0, .int .i64 0] 74)

set_option maxRecDepth 100000 in
theorem mb_int {tb o c : Nat} {ao : Option Addr} {ts : List TK} {T : Nat → Option (List TI × Nat)} (w : World) (h : MS w tb o ao ts) {i : Nat} (hi9 : i ≤ 1100) (hc : isC ts i 1 = false) (q0 : isT ts i sInt = true) :
    Calls Tryz.prog 74 #[.slice ao ts.length c, .int .i64 (i : Int)] w (MTR w (baseP false ts T i)) := by
  have HR : Hid (baseP false ts T i = some ([tyO 1], i + 1)) := by
    show _ = _
    unfold baseP
    rw [hc, if_neg (by decide), if_pos q0]
  have HMS : Hid (MS (bxT w) tb o ao ts) := h.below (bel1 _ _)
  have HI : Hid (i ≤ 1100) := hi9
  clear h hc
  go_enter Tryz.func74, Tryz.ntmps74
  go_wp2_with fail
  refine (m_isb HMS.out (i := i) (rfl) (l := sInt) q0 rfl (by decide)).mono ?_
  rintro e w' ⟨rfl, rfl⟩
  go_wp2
  have R := (row2 w (.slice (some ⟨w.heap.size + 1, 0, none⟩) 1 1) (.int .i64 ((i : Int) + 1)) 74).alloc (.cells #[.int .i64 1, .string ⟨#[]⟩, .string ⟨#[]⟩, .slice none 0 0] 99)
  have L := rt_lit (w.alloc (.cells #[.slice (some ⟨w.heap.size + 1, 0, none⟩) 1 1, .int .i64 ((i : Int) + 1)] 74)) (B := w.heap.size) (by simp) 1 ⟨#[]⟩ ⟨#[]⟩
  simp only [World.size_alloc] at L
  refine bodyPost_ret (ret_ty (k := 4) rfl (R.cell (i := 0) (by omega)) (R.cell (i := 1) (by omega)) _ rfl) rfl ?_
  rw [HR.out]
  exact ⟨(bel1 _ _).alloc (by simp) _, some ⟨w.heap.size + 1, 0, none⟩, 1, 1, _, _, rfl, by omega, L, rfl⟩

set_option maxRecDepth 100000 in
theorem mb_bool {tb o c : Nat} {ao : Option Addr} {ts : List TK} {T : Nat → Option (List TI × Nat)} (w : World) (h : MS w tb o ao ts) {i : Nat} (hi9 : i ≤ 1100) (hc : isC ts i 1 = false) (q0 : isT ts i sInt = false) (q1 : isT ts i sBool = true) :
    Calls Tryz.prog 74 #[.slice ao ts.length c, .int .i64 (i : Int)] w (MTR w (baseP false ts T i)) := by
  have HR : Hid (baseP false ts T i = some ([tyO 2], i + 1)) := by
    show _ = _
    unfold baseP
    rw [hc, if_neg (by decide), q0, if_neg (by decide), if_pos q1]
  have HMS : Hid (MS (bxT w) tb o ao ts) := h.below (bel1 _ _)
  have HI : Hid (i ≤ 1100) := hi9
  clear h hc
  go_enter Tryz.func74, Tryz.ntmps74
  go_wp2_with fail
  refine (m_isb HMS.out (i := i) (rfl) (l := sInt) q0 rfl (by decide)).mono ?_
  rintro e w' ⟨rfl, rfl⟩
  go_wp2_with fail
  refine (m_isb HMS.out (i := i) (rfl) (l := sBool) q1 rfl (by decide)).mono ?_
  rintro e w' ⟨rfl, rfl⟩
  go_wp2
  have R := (row2 w (.slice (some ⟨w.heap.size + 1, 0, none⟩) 1 1) (.int .i64 ((i : Int) + 1)) 74).alloc (.cells #[.int .i64 2, .string ⟨#[]⟩, .string ⟨#[]⟩, .slice none 0 0] 99)
  have L := rt_lit (w.alloc (.cells #[.slice (some ⟨w.heap.size + 1, 0, none⟩) 1 1, .int .i64 ((i : Int) + 1)] 74)) (B := w.heap.size) (by simp) 2 ⟨#[]⟩ ⟨#[]⟩
  simp only [World.size_alloc] at L
  refine bodyPost_ret (ret_ty (k := 4) rfl (R.cell (i := 0) (by omega)) (R.cell (i := 1) (by omega)) _ rfl) rfl ?_
  rw [HR.out]
  exact ⟨(bel1 _ _).alloc (by simp) _, some ⟨w.heap.size + 1, 0, none⟩, 1, 1, _, _, rfl, by omega, L, rfl⟩

set_option maxRecDepth 100000 in
theorem mb_any {tb o c : Nat} {ao : Option Addr} {ts : List TK} {T : Nat → Option (List TI × Nat)} (w : World) (h : MS w tb o ao ts) {i : Nat} (hi9 : i ≤ 1100) (hc : isC ts i 1 = false) (q0 : isT ts i sInt = false) (q1 : isT ts i sBool = false) (q2 : isT ts i sAny = true) :
    Calls Tryz.prog 74 #[.slice ao ts.length c, .int .i64 (i : Int)] w (MTR w (baseP false ts T i)) := by
  have HR : Hid (baseP false ts T i = some ([tyO 3], i + 1)) := by
    show _ = _
    unfold baseP
    rw [hc, if_neg (by decide), q0, if_neg (by decide), q1, if_neg (by decide), if_pos q2]
  have HMS : Hid (MS (bxT w) tb o ao ts) := h.below (bel1 _ _)
  have HI : Hid (i ≤ 1100) := hi9
  clear h hc
  go_enter Tryz.func74, Tryz.ntmps74
  go_wp2_with fail
  refine (m_isb HMS.out (i := i) (rfl) (l := sInt) q0 rfl (by decide)).mono ?_
  rintro e w' ⟨rfl, rfl⟩
  go_wp2_with fail
  refine (m_isb HMS.out (i := i) (rfl) (l := sBool) q1 rfl (by decide)).mono ?_
  rintro e w' ⟨rfl, rfl⟩
  go_wp2_with fail
  refine (m_isb HMS.out (i := i) (rfl) (l := sAny) q2 rfl (by decide)).mono ?_
  rintro e w' ⟨rfl, rfl⟩
  go_wp2
  have R := (row2 w (.slice (some ⟨w.heap.size + 1, 0, none⟩) 1 1) (.int .i64 ((i : Int) + 1)) 74).alloc (.cells #[.int .i64 3, .string ⟨#[]⟩, .string ⟨#[]⟩, .slice none 0 0] 99)
  have L := rt_lit (w.alloc (.cells #[.slice (some ⟨w.heap.size + 1, 0, none⟩) 1 1, .int .i64 ((i : Int) + 1)] 74)) (B := w.heap.size) (by simp) 3 ⟨#[]⟩ ⟨#[]⟩
  simp only [World.size_alloc] at L
  refine bodyPost_ret (ret_ty (k := 4) rfl (R.cell (i := 0) (by omega)) (R.cell (i := 1) (by omega)) _ rfl) rfl ?_
  rw [HR.out]
  exact ⟨(bel1 _ _).alloc (by simp) _, some ⟨w.heap.size + 1, 0, none⟩, 1, 1, _, _, rfl, by omega, L, rfl⟩

set_option maxRecDepth 100000 in
theorem mb_none {tb o c : Nat} {ao : Option Addr} {ts : List TK} {T : Nat → Option (List TI × Nat)} (w : World) (h : MS w tb o ao ts) {i : Nat} (hi9 : i ≤ 1100) (hc : isC ts i 1 = false) (q0 : isT ts i sInt = false) (q1 : isT ts i sBool = false) (q2 : isT ts i sAny = false) (q3 : isT ts i sLeft = false) (q4 : isT ts i sOpen = false) :
    Calls Tryz.prog 74 #[.slice ao ts.length c, .int .i64 (i : Int)] w (MTR w (baseP false ts T i)) := by
  have HR : Hid (baseP false ts T i = none) := by
    show _ = _
    unfold baseP
    rw [hc, if_neg (by decide), q0, if_neg (by decide), q1, if_neg (by decide), q2, if_neg (by decide), q4, if_neg (by decide), q3, if_neg (by decide)]
  have HMS : Hid (MS (bxT w) tb o ao ts) := h.below (bel1 _ _)
  have HI : Hid (i ≤ 1100) := hi9
  clear h
  go_enter Tryz.func74, Tryz.ntmps74
  go_wp2_with fail
  refine (m_isb HMS.out (i := i) (rfl) (l := sInt) q0 rfl (by decide)).mono ?_
  rintro e w' ⟨rfl, rfl⟩
  go_wp2_with fail
  refine (m_isb HMS.out (i := i) (rfl) (l := sBool) q1 rfl (by decide)).mono ?_
  rintro e w' ⟨rfl, rfl⟩
  go_wp2_with fail
  refine (m_isb HMS.out (i := i) (rfl) (l := sAny) q2 rfl (by decide)).mono ?_
  rintro e w' ⟨rfl, rfl⟩
  go_wp2_with fail
  refine (m_isN HMS.out (i := i) (rfl) hc).mono ?_
  rintro e w' ⟨rfl, rfl⟩
  go_wp2_with fail
  refine (m_isb HMS.out (i := i) (rfl) (l := sLeft) q3 rfl (by decide)).mono ?_
  rintro e w' ⟨rfl, rfl⟩
  go_wp2_with fail
  refine (m_isb HMS.out (i := i) (rfl) (l := sOpen) q4 rfl (by decide)).mono ?_
  rintro e w' ⟨rfl, rfl⟩
  go_wp2_with fail
  refine (m_noType _).mono ?_
  rintro e w1 ⟨⟨va, n, c', rfl⟩, hb1⟩
  have R := (row2 w (.slice none 0 0) (.int .i64 0) 74).of_block (hb1.out.block _ (by simp))
  have d0 := R.cell (i := 0) (by omega)
  have d1 := R.cell (i := 1) (by omega)
  have z0 := R.frozen 0
  have z1 := R.frozen 1
  go_wp2
  have R2 := (R.set 0 (.slice va n c')).set 1 (.int .i64 (-1))
  refine bodyPost_ret (ret_ty (k := 4) rfl (R2.cell (i := 0) (by omega)) (R2.cell (i := 1) (by omega)) _ rfl) rfl ?_
  rw [HR.out]
  exact ⟨below_box ((bel1 _ _).trans (hb1.out.mono (by simp))) _ _, va, n, c', rfl⟩

end Go.Proofs.YtcehppndpccldaaGreatDoor

namespace Go.Proofs.YtcehppndpccldaaGreatDoor
open Go.RowKit

theorem row_drew {w : World} {b n : Nat} {t : TypeId} {f : Nat → Value} (h : w.rowIs b t n f) : w.drew.rowIs b t n f := h
theorem RT.drew {B : Nat} {w : World} {v : Value} {xs : List (TI × NPl)} (h : RT B w v xs) : RT B w.drew v xs := ⟨h.own, h.nm⟩
theorem RE.drew {B : Nat} {w : World} {v : Value} {xs : List (EI × EPl)} (h : RE B w v xs) : RE B w.drew v xs := ⟨h.own, fun x hx => ⟨(h.ok x hx).nm, (h.ok x hx).ty.drew, (h.ok x hx).is⟩⟩
theorem MS.drew {w : World} {tb o : Nat} {ao : Option Addr} {ts : List TK} (h : MS w tb o ao ts) : MS w.drew tb o ao ts := ⟨⟨h.tk.c0, h.tk.c1, h.tk.c2, h.tk.len, h.tk.sz, h.tk.gd⟩, h.at_⟩

set_option maxRecDepth 100000 in
set_option maxHeartbeats 1000000 in
theorem mb_name0 {tb o c : Nat} {ao : Option Addr} {ts : List TK} {T : Nat → Option (List TI × Nat)} (w : World) (h : MS w tb o ao ts) {i : Nat} (hi9 : i ≤ 1100) (hc : isC ts i 1 = true) (p1 : isT ts (i + 1) sColon = false) :
    Calls Tryz.prog 74 #[.slice ao ts.length c, .int .i64 (i : Int)] w (MTR w (baseP false ts T i)) := by
  have hi := isC_lt hc
  have hct : ∀ s, cls s ≠ 1 → isT ts i s = false := fun s hs => isC_isT h.tk hc hs
  have q0 := hct sInt (by decide)
  have q1 := hct sBool (by decide)
  have q2 := hct sAny (by decide)
  have e := h.at_ (by omega)
  subst e
  have hln := h.tk.len
  have k1 := h.tk.c1 i hi
  rw [← tx_at hi] at k1
  have tlt : tb < w.heap.size := World.block_lt_of_cell? _ _ k1
  have BX := bel1 w (.cells #[.slice none 0 0, .int .i64 0] 74)
  have k1' := (BX.cell (p := ⟨tb, o + i * 3 + 1, none⟩) tlt).trans k1
  have HMS : Hid (MS (bxT w) tb o (some ⟨tb, o, none⟩) ts) := h.below (bel1 _ _)
  have HI : Hid (i ≤ 1100) := hi9
  have HR : Hid (baseP false ts T i = some ([⟨4, e0, tx ts i, []⟩], i + 1)) := by
    show _ = _
    unfold baseP
    rw [if_pos hc]
    have : pathP false ts i = some (e0, tx ts i, i + 1) := by
      unfold pathP
      rw [p1]; rfl
    rw [this]
  obtain ⟨nn, hnn⟩ : ∃ z, z = tx ts i := ⟨_, rfl⟩
  rw [← hnn] at k1'
  have HNN : Hid (tx ts i = nn) := hnn.symm
  clear k1 hct hnn h
  go_enter Tryz.func74, Tryz.ntmps74
  go_wp2_with fail
  refine (m_isb HMS.out (i := i) (rfl) (l := sInt) q0 rfl (by decide)).mono ?_
  rintro e w' ⟨rfl, rfl⟩
  go_wp2_with fail
  refine (m_isb HMS.out (i := i) (rfl) (l := sBool) q1 rfl (by decide)).mono ?_
  rintro e w' ⟨rfl, rfl⟩
  go_wp2_with fail
  refine (m_isb HMS.out (i := i) (rfl) (l := sAny) q2 rfl (by decide)).mono ?_
  rintro e w' ⟨rfl, rfl⟩
  go_wp2_with fail
  refine (m_isN HMS.out (i := i) (rfl) hc).mono ?_
  rintro e w' ⟨rfl, rfl⟩
  go_wp2_with fail
  refine (m_isb HMS.out (i := i + 1) (by omega) (l := sColon) p1 rfl (by decide)).mono ?_
  rintro e w' ⟨rfl, rfl⟩
  go_wp2
  have R := (row2 w (.slice (some ⟨w.heap.size + 1, 0, none⟩) 1 1) (.int .i64 ((i : Int) + 1)) 74).alloc (.cells #[.int .i64 4, .string ⟨#[]⟩, .string nn, .slice none 0 0] 99)
  have L := rt_lit (w.alloc (.cells #[.slice (some ⟨w.heap.size + 1, 0, none⟩) 1 1, .int .i64 ((i : Int) + 1)] 74)) (B := w.heap.size) (by simp) 4 ⟨#[]⟩ nn
  simp only [World.size_alloc] at L
  refine bodyPost_ret (ret_ty (k := 4) rfl (R.cell (i := 0) (by omega)) (R.cell (i := 1) (by omega)) _ rfl) rfl ?_
  rw [HR.out, HNN.out]
  exact ⟨(bel1 _ _).alloc (by simp) _, some ⟨w.heap.size + 1, 0, none⟩, 1, 1, _, _, rfl, by omega, L, rfl⟩

set_option maxRecDepth 100000 in
set_option maxHeartbeats 1000000 in
theorem mb_name1 {tb o c : Nat} {ao : Option Addr} {ts : List TK} {T : Nat → Option (List TI × Nat)} (w : World) (h : MS w tb o ao ts) {i : Nat} (hi9 : i ≤ 1100) (hc : isC ts i 1 = true) (p1 : isT ts (i + 1) sColon = true) (p2 : isC ts (i + 2) 1 = false) :
    Calls Tryz.prog 74 #[.slice ao ts.length c, .int .i64 (i : Int)] w (MTR w (baseP false ts T i)) := by
  have hi := isC_lt hc
  have hct : ∀ s, cls s ≠ 1 → isT ts i s = false := fun s hs => isC_isT h.tk hc hs
  have q0 := hct sInt (by decide)
  have q1 := hct sBool (by decide)
  have q2 := hct sAny (by decide)
  have e := h.at_ (by omega)
  subst e
  have hln := h.tk.len
  have k1 := h.tk.c1 i hi
  rw [← tx_at hi] at k1
  have tlt : tb < w.heap.size := World.block_lt_of_cell? _ _ k1
  have BX := bel1 w (.cells #[.slice none 0 0, .int .i64 0] 74)
  have k1' := (BX.cell (p := ⟨tb, o + i * 3 + 1, none⟩) tlt).trans k1
  have HMS : Hid (MS (bxT w) tb o (some ⟨tb, o, none⟩) ts) := h.below (bel1 _ _)
  have HI : Hid (i ≤ 1100) := hi9
  have HR : Hid (baseP false ts T i = some ([⟨4, e0, tx ts i, []⟩], i + 1)) := by
    show _ = _
    unfold baseP
    rw [if_pos hc]
    have : pathP false ts i = some (e0, tx ts i, i + 1) := by
      unfold pathP
      rw [p1, p2]; rfl
    rw [this]
  obtain ⟨nn, hnn⟩ : ∃ z, z = tx ts i := ⟨_, rfl⟩
  rw [← hnn] at k1'
  have HNN : Hid (tx ts i = nn) := hnn.symm
  clear k1 hct hnn h
  go_enter Tryz.func74, Tryz.ntmps74
  go_wp2_with fail
  refine (m_isb HMS.out (i := i) (rfl) (l := sInt) q0 rfl (by decide)).mono ?_
  rintro e w' ⟨rfl, rfl⟩
  go_wp2_with fail
  refine (m_isb HMS.out (i := i) (rfl) (l := sBool) q1 rfl (by decide)).mono ?_
  rintro e w' ⟨rfl, rfl⟩
  go_wp2_with fail
  refine (m_isb HMS.out (i := i) (rfl) (l := sAny) q2 rfl (by decide)).mono ?_
  rintro e w' ⟨rfl, rfl⟩
  go_wp2_with fail
  refine (m_isN HMS.out (i := i) (rfl) hc).mono ?_
  rintro e w' ⟨rfl, rfl⟩
  go_wp2_with fail
  refine (m_isb HMS.out (i := i + 1) (by omega) (l := sColon) p1 rfl (by decide)).mono ?_
  rintro e w' ⟨rfl, rfl⟩
  go_wp2_with fail
  refine (m_isN HMS.out (i := i + 2) (by omega) p2).mono ?_
  rintro e w' ⟨rfl, rfl⟩
  go_wp2
  have R := (row2 w (.slice (some ⟨w.heap.size + 1, 0, none⟩) 1 1) (.int .i64 ((i : Int) + 1)) 74).alloc (.cells #[.int .i64 4, .string ⟨#[]⟩, .string nn, .slice none 0 0] 99)
  have L := rt_lit (w.alloc (.cells #[.slice (some ⟨w.heap.size + 1, 0, none⟩) 1 1, .int .i64 ((i : Int) + 1)] 74)) (B := w.heap.size) (by simp) 4 ⟨#[]⟩ nn
  simp only [World.size_alloc] at L
  refine bodyPost_ret (ret_ty (k := 4) rfl (R.cell (i := 0) (by omega)) (R.cell (i := 1) (by omega)) _ rfl) rfl ?_
  rw [HR.out, HNN.out]
  exact ⟨(bel1 _ _).alloc (by simp) _, some ⟨w.heap.size + 1, 0, none⟩, 1, 1, _, _, rfl, by omega, L, rfl⟩

set_option maxRecDepth 100000 in
set_option maxHeartbeats 1000000 in
theorem mb_path {tb o c : Nat} {ao : Option Addr} {ts : List TK} {T : Nat → Option (List TI × Nat)} (w : World) (h : MS w tb o ao ts) {i : Nat} (hi9 : i ≤ 1100) (hc : isC ts i 1 = true) (p1 : isT ts (i + 1) sColon = true) (p2 : isC ts (i + 2) 1 = true) :
    Calls Tryz.prog 74 #[.slice ao ts.length c, .int .i64 (i : Int)] w (MTR w (baseP false ts T i)) := by
  have hi := isC_lt hc
  have hct : ∀ s, cls s ≠ 1 → isT ts i s = false := fun s hs => isC_isT h.tk hc hs
  have q0 := hct sInt (by decide)
  have q1 := hct sBool (by decide)
  have q2 := hct sAny (by decide)
  have e := h.at_ (by omega)
  subst e
  have hln := h.tk.len
  have k1 := h.tk.c1 i hi
  rw [← tx_at hi] at k1
  have tlt : tb < w.heap.size := World.block_lt_of_cell? _ _ k1
  have BX := bel1 w (.cells #[.slice none 0 0, .int .i64 0] 74)
  have k1' := (BX.cell (p := ⟨tb, o + i * 3 + 1, none⟩) tlt).trans k1
  have HMS : Hid (MS (bxT w) tb o (some ⟨tb, o, none⟩) ts) := h.below (bel1 _ _)
  have HI : Hid (i ≤ 1100) := hi9
  have hi2 := isC_lt p2
  have k2 := h.tk.c1 (i + 2) hi2
  rw [← tx_at hi2] at k2
  have k2' : (bxT w).cell? ⟨tb, o + ((i : Int) + 2).toNat * 3 + 1, none⟩ = some (.string (tx ts (i + 2))) := by
    rw [show ((i : Int) + 2).toNat = i + 2 by omega]
    exact (BX.cell (p := ⟨tb, o + (i + 2) * 3 + 1, none⟩) tlt).trans k2
  have HR : Hid (baseP false ts T i = some ([⟨4, tx ts i, tx ts (i + 2), []⟩], i + 3)) := by
    show _ = _
    unfold baseP
    rw [if_pos hc]
    have : pathP false ts i = some (tx ts i, tx ts (i + 2), i + 3) := by
      unfold pathP
      rw [p1, p2]; rfl
    rw [this]
  obtain ⟨nn, hnn⟩ : ∃ z, z = tx ts i := ⟨_, rfl⟩
  rw [← hnn] at k1'
  have HNN : Hid (tx ts i = nn) := hnn.symm
  obtain ⟨mm, hmm⟩ : ∃ z, z = tx ts (i + 2) := ⟨_, rfl⟩
  rw [← hmm] at k2'
  have HMM : Hid (tx ts (i + 2) = mm) := hmm.symm
  have htn : tb ≠ w.heap.size := by omega
  have hi3 : (i : Int) + 2 < (ts.length : Int) := by omega
  have hi4 : (0 : Int) ≤ (i : Int) + 2 := by omega
  have hi5 : (i : Int) < (ts.length : Int) := by omega
  have hi6 : (0 : Int) ≤ (i : Int) := by omega
  have wr2 : IntKind.i64.wrap ((i : Int) + 2) = (i : Int) + 2 := by rw [IntKind.wrap_i64]; omega
  have wr3 : IntKind.i64.wrap ((i : Int) + 3) = (i : Int) + 3 := by rw [IntKind.wrap_i64]; omega
  rw [← hnn] at k1
  rw [← hmm] at k2
  have HK : Hid (∀ (x y : Obj), ((w.alloc x).alloc y).drew.cell? ⟨tb, o + i * 3 + 1, none⟩ = some (.string nn) ∧ ((w.alloc x).alloc y).drew.cell? ⟨tb, o + ((i : Int) + 2).toNat * 3 + 1, none⟩ = some (.string mm)) := fun x y => by
    have B2 : Below w.heap.size w ((w.alloc x).alloc y) := (bel1 _ _).alloc (by simp) _
    rw [show ((i : Int) + 2).toNat = i + 2 by omega]
    exact ⟨(B2.cell (p := ⟨tb, o + i * 3 + 1, none⟩) tlt).trans k1, (B2.cell (p := ⟨tb, o + (i + 2) * 3 + 1, none⟩) tlt).trans k2⟩
  clear k1 k2 hct hnn hmm h
  go_enter Tryz.func74, Tryz.ntmps74
  go_wp2_with fail
  refine (m_isb HMS.out (i := i) (rfl) (l := sInt) q0 rfl (by decide)).mono ?_
  rintro e w' ⟨rfl, rfl⟩
  go_wp2_with fail
  refine (m_isb HMS.out (i := i) (rfl) (l := sBool) q1 rfl (by decide)).mono ?_
  rintro e w' ⟨rfl, rfl⟩
  go_wp2_with fail
  refine (m_isb HMS.out (i := i) (rfl) (l := sAny) q2 rfl (by decide)).mono ?_
  rintro e w' ⟨rfl, rfl⟩
  go_wp2_with fail
  refine (m_isN HMS.out (i := i) (rfl) hc).mono ?_
  rintro e w' ⟨rfl, rfl⟩
  go_wp2_with fail
  refine (m_isb HMS.out (i := i + 1) (by omega) (l := sColon) p1 rfl (by decide)).mono ?_
  rintro e w' ⟨rfl, rfl⟩
  go_wp2_with fail
  refine (m_isN HMS.out (i := i + 2) (by omega) p2).mono ?_
  rintro e w' ⟨rfl, rfl⟩
  go_wp2
  go_region_held3 (fun w' => w'.cell? ⟨tb, o + i * 3 + 1, none⟩ = some (.string nn) ∧ w'.cell? ⟨tb, o + ((i : Int) + 2).toNat * 3 + 1, none⟩ = some (.string mm)) (first | exact HK.out _ _ | go_keep) (fail)
  go_wp2
  have R := (row2 w (.slice (some ⟨w.heap.size + 1, 0, none⟩) 1 1) (.int .i64 ((i : Int) + 3)) 74).alloc (.cells #[.int .i64 4, .string nn, .string mm, .slice none 0 0] 99)
  have R := row_drew R
  have L := rt_lit (w.alloc (.cells #[.slice (some ⟨w.heap.size + 1, 0, none⟩) 1 1, .int .i64 ((i : Int) + 3)] 74)) (B := w.heap.size) (by simp) 4 nn mm
  simp only [World.size_alloc] at L
  refine bodyPost_ret (ret_ty (k := 4) rfl (R.cell (i := 0) (by omega)) (R.cell (i := 1) (by omega)) _ rfl) rfl ?_
  rw [HR.out, HNN.out, HMM.out]
  exact ⟨((bel1 _ _).alloc (by simp) _).drew, some ⟨w.heap.size + 1, 0, none⟩, 1, 1, _, _, rfl, by omega, L.drew, rfl⟩

end Go.Proofs.YtcehppndpccldaaGreatDoor

namespace Go.Proofs.YtcehppndpccldaaGreatDoor
open Go.RowKit

set_option maxRecDepth 100000 in
set_option maxHeartbeats 1000000 in
theorem e_eitem (w : World) {B1 B2 : Nat} (op num : Int) (md nm : ByteArray) {ns : List ByteArray} {p q : NPl} (h1 : NmOK B1 w ns p) (h2 : NmOK B2 w ns q) {n : Nat} (hn : n = ns.length) (hl : n ≤ 1000000) {v1 v2 : Value} {xs ys : List (TI × NPl)} (t1 : RT B1 w v1 xs) (t2 : RT B2 w v2 ys) (he : xs.map Prod.fst = ys.map Prod.fst) (hs : ∀ x, x ∈ xs → SmT 1000000 x.1) (hl2 : xs.length ≤ 1000000) :
    Calls Tryz.prog 117 #[.agg #[.int .i64 op, .int .i64 num, .string md, .string nm, .slice p.a n p.c, v1], .agg #[.int .i64 op, .int .i64 num, .string md, .string nm, .slice q.a n q.c, v2]] w fun e w' => e = .returned (.bool true) ∧ Below w.heap.size w w' := by
  have HB : Hid (∀ w', Below w.heap.size w w' → (NmOK B1 w' ns p ∧ NmOK B2 w' ns q) ∧ RT B1 w' v1 xs ∧ RT B2 w' v2 ys) := fun w' hb => ⟨⟨h1.below hb, h2.below hb⟩, t1.below hb, t2.below hb⟩
  have HN : Hid (n = ns.length) := hn
  have HE : Hid (xs.map Prod.fst = ys.map Prod.fst ∧ ∀ x, x ∈ xs → SmT 1000000 x.1) := ⟨he, hs⟩
  have HT : Hid (∀ W, Below w.heap.size w W → Calls Tryz.prog 84 #[v1, v2] W fun e w' => e = .returned (.bool true) ∧ Below W.heap.size W w') := fun W hb => e_titems W (t1.below hb) (t2.below hb) he hs hl2
  obtain ⟨a1, c1, hv1⟩ := own_form t1.own
  obtain ⟨a2, c2, hv2⟩ := own_form t2.own
  obtain ⟨n1, hn1⟩ : ∃ n1, n1 = xs.length := ⟨_, rfl⟩
  obtain ⟨n2, hn2⟩ : ∃ n2, n2 = ys.length := ⟨_, rfl⟩
  rw [← hn1] at hv1
  rw [← hn2] at hv2
  subst hv1 hv2
  clear h1 h2 hn t1 t2 he hs hn1 hn2 hl2
  go_enter Tryz.func117, Tryz.ntmps117
  go_wp2_with fail
  refine (e_names _ (by exact (HB.out _ (bel2 _ _ _)).1.1) (by exact (HB.out _ (bel2 _ _ _)).1.2) HN.out hl).mono ?_
  rintro e w' ⟨rfl, k, rfl⟩
  go_wp2_with fail
  refine (HT.out _ (bel2d _ _ _ _)).mono ?_
  rintro e w' ⟨rfl, hb'⟩
  have HW : Hid (Below w.heap.size w w') := (bel2d w _ _ k).trans (hb'.mono (bel2d w _ _ k).size)
  clear hb'
  go_wp2
  go_ret
  exact ⟨rfl, HW⟩

set_option maxRecDepth 100000 in
set_option maxHeartbeats 1000000 in
theorem e_eitems (w : World) {B1 B2 : Nat} {v1 v2 : Value} {xs ys : List (EI × EPl)} (h1 : RE B1 w v1 xs) (h2 : RE B2 w v2 ys) (he : xs.map Prod.fst = ys.map Prod.fst) (hs : ∀ x, x ∈ xs → SmE 1000000 x.1) (hl : xs.length ≤ 1000000) :
    Calls Tryz.prog 85 #[v1, v2] w fun e w' => e = .returned (.bool true) ∧ Below w.heap.size w w' := by
  obtain ⟨a1, c1, rfl⟩ := own_form h1.own
  obtain ⟨a2, c2, rfl⟩ := own_form h2.own
  have hxy : ys.length = xs.length := by have := congrArg List.length he; simpa using this.symm
  rw [hxy]
  have HB : Hid (∀ w', Below w.heap.size w w' → RE B1 w' (.slice a1 xs.length c1) xs ∧ RE B2 w' (.slice a2 ys.length c2) ys) := fun w' hb => ⟨h1.below hb, h2.below hb⟩
  have HL : Hid (ys.length = xs.length) := hxy
  obtain ⟨n, hn⟩ : ∃ n, n = xs.length := ⟨_, rfl⟩
  rw [← hn] at hl ⊢
  have HN : Hid (n = xs.length) := hn
  have HIT : Hid (∀ k, k < n → ∀ wr, Below w.heap.size w wr → ∃ (g1 g2 : Nat) (x : EI) (p q : NPl) (ml : Nat) (u1 u2 : Option Addr) (m1 m2 d1 d2 : Nat), a1 = some ⟨g1, 0, none⟩ ∧ a2 = some ⟨g2, 0, none⟩ ∧ wr.cell? ⟨g1, k * 6, none⟩ = some (Value.int .i64 x.op) ∧ wr.cell? ⟨g1, k * 6 + 1, none⟩ = some (Value.int .i64 x.num) ∧ wr.cell? ⟨g1, k * 6 + 2, none⟩ = some (Value.string x.md) ∧ wr.cell? ⟨g1, k * 6 + 3, none⟩ = some (Value.string x.nm) ∧ wr.cell? ⟨g1, k * 6 + 4, none⟩ = some (Value.slice p.a ml p.c) ∧ wr.cell? ⟨g1, k * 6 + 5, none⟩ = some (Value.slice u1 m1 d1) ∧ wr.cell? ⟨g2, k * 6, none⟩ = some (Value.int .i64 x.op) ∧ wr.cell? ⟨g2, k * 6 + 1, none⟩ = some (Value.int .i64 x.num) ∧ wr.cell? ⟨g2, k * 6 + 2, none⟩ = some (Value.string x.md) ∧ wr.cell? ⟨g2, k * 6 + 3, none⟩ = some (Value.string x.nm) ∧ wr.cell? ⟨g2, k * 6 + 4, none⟩ = some (Value.slice q.a ml q.c) ∧ wr.cell? ⟨g2, k * 6 + 5, none⟩ = some (Value.slice u2 m2 d2) ∧ Hid (Calls Tryz.prog 117 #[.agg #[.int .i64 x.op, .int .i64 x.num, .string x.md, .string x.nm, .slice p.a ml p.c, .slice u1 m1 d1], .agg #[.int .i64 x.op, .int .i64 x.num, .string x.md, .string x.nm, .slice q.a ml q.c, .slice u2 m2 d2]] wr.drew fun e w' => e = .returned (.bool true) ∧ Below w.heap.size w w')) := fun k hk wr hb => by
    have k1 : k < xs.length := by omega
    have k2 : k < ys.length := by omega
    obtain ⟨R1, R2⟩ := HB.out wr hb
    obtain ⟨g1, gc1, ev1, _⟩ := own_blk R1.own (show 0 < xs.length by omega)
    obtain ⟨g2, gc2, ev2, _⟩ := own_blk R2.own (show 0 < ys.length by omega)
    simp only [Value.slice.injEq] at ev1 ev2
    obtain ⟨rfl, -, rfl⟩ := ev1
    obtain ⟨rfl, -, rfl⟩ := ev2
    have ee := map_get he k1 k2
    have hx := List.getElem_mem k1
    have hy := List.getElem_mem k2
    have N1 := R1.ok _ hx
    have N2 := R2.ok _ hy
    obtain ⟨u1, d1, e1⟩ := own_form N1.ty.own
    obtain ⟨u2, d2, e2⟩ := own_form N2.ty.own
    have is2 := N2.is
    have nm2 := N2.nm
    rw [← ee] at is2 nm2
    have sm := hs _ hx
    have C := e_eitem wr.drew xs[k].1.op xs[k].1.num xs[k].1.md xs[k].1.nm N1.nm.drew nm2.drew rfl sm.1 N1.ty.drew N2.ty.drew (N1.is.trans is2.symm) (fun x hx => sm.2.2 _ (by rw [← N1.is]; exact List.mem_map_of_mem hx)) (by have := congrArg List.length N1.is; rw [List.length_map] at this; rw [this]; exact sm.2.1)
    rw [e1, e2] at C
    refine ⟨g1, g2, xs[k].1, xs[k].2.np, ys[k].2.np, xs[k].1.ns.length, u1, u2, _, _, d1, d2, rfl, rfl, own_at (f := eiC) eiC_len R1.own (j := k) (r := 0) rfl k1 (by omega) rfl, own_at (f := eiC) eiC_len R1.own rfl k1 (by omega) rfl, own_at (f := eiC) eiC_len R1.own rfl k1 (by omega) rfl, own_at (f := eiC) eiC_len R1.own rfl k1 (by omega) rfl, own_at (f := eiC) eiC_len R1.own rfl k1 (by omega) rfl, own_at (f := eiC) eiC_len R1.own rfl k1 (by omega) (by rw [← e1]; rfl), ?_, ?_, ?_, ?_, ?_, ?_, C.mono (fun e w' h => ⟨h.1, hb.drew.trans (h.2.mono hb.size)⟩)⟩
    · rw [ee]; exact own_at (f := eiC) eiC_len R2.own (j := k) (r := 0) rfl k2 (by omega) rfl
    · rw [ee]; exact own_at (f := eiC) eiC_len R2.own rfl k2 (by omega) rfl
    · rw [ee]; exact own_at (f := eiC) eiC_len R2.own rfl k2 (by omega) rfl
    · rw [ee]; exact own_at (f := eiC) eiC_len R2.own rfl k2 (by omega) rfl
    · rw [ee]; exact own_at (f := eiC) eiC_len R2.own rfl k2 (by omega) rfl
    · exact own_at (f := eiC) eiC_len R2.own rfl k2 (by omega) (by rw [← e2]; rfl)
  clear h1 h2 he hs hxy hn
  go_enter Tryz.func85, Tryz.ntmps85
  go_wp2
  go_loopw [5] (fun i wr => ∃ k : Nat, k ≤ n ∧ i = .int .i64 k ∧ Below w.heap.size w wr) (fun i _ => n - (intOf i).toNat)
  case atStart => exact ⟨0, Nat.zero_le _, rfl, Below.refl _ _⟩
  case round =>
    obtain ⟨k, hk, rfl, hb⟩ := hrel
    by_cases hlt : k < n
    · obtain ⟨g1, g2, x, p, q, ml, u1, u2, m1, m2, d1, d2, rfl, rfl, y0, y1, y2, y3, y4, y5, z0, z1, z2, z3, z4, z5, C0⟩ := HIT.out k hlt wr hb
      clear HB HIT
      go_wp2
      go_region_with (go_at_call 117; refine C0.out.mono ?_; rintro e w' ⟨rfl, hb'⟩)
      all_goals
        go_wp2
        go_roundw
        case rel => exact ⟨k + 1, by omega, by go_num, hb'⟩
        case measure => simp [intOf]; omega
    · go_wp2
      go_ret
      exact ⟨rfl, hb⟩

set_option maxRecDepth 100000 in
set_option maxHeartbeats 1000000 in
theorem e_decl (w : World) {B1 B2 : Nat} {d : DC} {p q : DPl} (h1 : RdOK B1 w d p) (h2 : RdOK B2 w d q) (sm : SmD 1000000 d) :
    Calls Tryz.prog 53 #[.agg #[.int .i64 d.kind, .string d.nm, p.tv, p.ev], .agg #[.int .i64 d.kind, .string d.nm, q.tv, q.ev]] w fun e w' => e = .returned (.bool true) ∧ Below w.heap.size w w' := by
  have HT : Hid (∀ W, Below w.heap.size w W → Calls Tryz.prog 84 #[p.tv, q.tv] W fun e w' => e = .returned (.bool true) ∧ Below W.heap.size W w') := fun W hb => e_titems W (h1.ty.below hb) (h2.ty.below hb) (h1.isT.trans h2.isT.symm) (fun x hx => sm.2.1 _ (by rw [← h1.isT]; exact List.mem_map_of_mem hx)) (by have := congrArg List.length h1.isT; rw [List.length_map] at this; rw [this]; exact sm.1)
  have HE : Hid (∀ W, Below w.heap.size w W → Calls Tryz.prog 85 #[p.ev, q.ev] W fun e w' => e = .returned (.bool true) ∧ Below W.heap.size W w') := fun W hb => e_eitems W (h1.ex.below hb) (h2.ex.below hb) (h1.isE.trans h2.isE.symm) (fun x hx => sm.2.2.2 _ (by rw [← h1.isE]; exact List.mem_map_of_mem hx)) (by have := congrArg List.length h1.isE; rw [List.length_map] at this; rw [this]; exact sm.2.2.1)
  obtain ⟨a1, c1, e1⟩ := own_form h1.ty.own
  obtain ⟨a2, c2, e2⟩ := own_form h2.ty.own
  obtain ⟨a3, c3, e3⟩ := own_form h1.ex.own
  obtain ⟨a4, c4, e4⟩ := own_form h2.ex.own
  obtain ⟨kd, hkd⟩ : ∃ kd, kd = d.kind := ⟨_, rfl⟩
  obtain ⟨nm, hnm⟩ : ∃ nm, nm = d.nm := ⟨_, rfl⟩
  rw [e1, e2] at HT
  rw [e3, e4] at HE
  rw [e1, e2, e3, e4, ← hkd, ← hnm]
  clear h1 h2 sm e1 e2 e3 e4 hkd hnm
  go_enter Tryz.func53, Tryz.ntmps53
  go_wp2_with fail
  refine (HT.out _ (bel2 _ _ _)).mono ?_
  rintro e w2 ⟨rfl, hb2⟩
  have HB2 : Hid (Below w.heap.size w w2) := (bel2 _ _ _).trans (hb2.mono (bel2 _ _ _).size)
  have R1 := (row4 w (.int .i64 kd) (.string nm) (.slice a1 p.zs.length c1) (.slice a3 p.es.length c3) 46).alloc (.cells #[.int .i64 kd, .string nm, .slice a2 q.zs.length c2, .slice a4 q.es.length c4] 46)
  have R2 := row4 (w.alloc (.cells #[.int .i64 kd, .string nm, .slice a1 p.zs.length c1, .slice a3 p.es.length c3] 46)) (.int .i64 kd) (.string nm) (.slice a2 q.zs.length c2) (.slice a4 q.es.length c4) 46
  have s1 : w2.cell? ⟨w.heap.size, 3, none⟩ = some (.slice a3 p.es.length c3) := (R1.of_block (hb2.block _ R1.lt)).cell (i := 3) (by omega)
  have s2 : w2.cell? ⟨w.heap.size + 1, 3, none⟩ = some (.slice a4 q.es.length c4) := by
    have := (R2.of_block (hb2.block _ R2.lt)).cell (i := 3) (by omega)
    rw [World.size_alloc] at this
    exact this
  clear R1 R2 hb2
  go_wp2_with fail
  refine (HE.out _ HB2.out).mono ?_
  rintro e w3 ⟨rfl, hb3⟩
  have HB3 : Hid (Below w.heap.size w w3) := HB2.out.trans (hb3.mono HB2.out.size)
  clear hb3
  go_wp2
  go_ret
  exact ⟨rfl, HB3⟩

set_option maxRecDepth 100000 in
set_option maxHeartbeats 1000000 in
theorem e_decls (w : World) {B1 B2 : Nat} {v1 v2 : Value} {xs ys : List (DC × DPl)} (h1 : RD B1 w v1 xs) (h2 : RD B2 w v2 ys) (he : xs.map Prod.fst = ys.map Prod.fst) (hs : ∀ x, x ∈ xs → SmD 1000000 x.1) (hl : xs.length ≤ 1000000) :
    Calls Tryz.prog 28 #[v1, v2] w fun e w' => e = .returned (.bool true) ∧ Below w.heap.size w w' := by
  obtain ⟨a1, c1, rfl⟩ := own_form h1.own
  obtain ⟨a2, c2, rfl⟩ := own_form h2.own
  have hxy : ys.length = xs.length := by have := congrArg List.length he; simpa using this.symm
  rw [hxy]
  have HB : Hid (∀ w', Below w.heap.size w w' → RD B1 w' (.slice a1 xs.length c1) xs ∧ RD B2 w' (.slice a2 ys.length c2) ys) := fun w' hb => ⟨h1.below hb, h2.below hb⟩
  have HL : Hid (ys.length = xs.length) := hxy
  obtain ⟨n, hn⟩ : ∃ n, n = xs.length := ⟨_, rfl⟩
  rw [← hn] at hl ⊢
  have HN : Hid (n = xs.length) := hn
  have HIT : Hid (∀ k, k < n → ∀ wr, Below w.heap.size w wr → ∃ (g1 g2 : Nat) (x : DC) (u1 u2 u3 u4 : Option Addr) (m1 m2 m3 m4 d1 d2 d3 d4 : Nat), a1 = some ⟨g1, 0, none⟩ ∧ a2 = some ⟨g2, 0, none⟩ ∧ wr.cell? ⟨g1, k * 4, none⟩ = some (Value.int .i64 x.kind) ∧ wr.cell? ⟨g1, k * 4 + 1, none⟩ = some (Value.string x.nm) ∧ wr.cell? ⟨g1, k * 4 + 2, none⟩ = some (Value.slice u1 m1 d1) ∧ wr.cell? ⟨g1, k * 4 + 3, none⟩ = some (Value.slice u3 m3 d3) ∧ wr.cell? ⟨g2, k * 4, none⟩ = some (Value.int .i64 x.kind) ∧ wr.cell? ⟨g2, k * 4 + 1, none⟩ = some (Value.string x.nm) ∧ wr.cell? ⟨g2, k * 4 + 2, none⟩ = some (Value.slice u2 m2 d2) ∧ wr.cell? ⟨g2, k * 4 + 3, none⟩ = some (Value.slice u4 m4 d4) ∧ Hid (Calls Tryz.prog 53 #[.agg #[.int .i64 x.kind, .string x.nm, .slice u1 m1 d1, .slice u3 m3 d3], .agg #[.int .i64 x.kind, .string x.nm, .slice u2 m2 d2, .slice u4 m4 d4]] wr.drew fun e w' => e = .returned (.bool true) ∧ Below w.heap.size w w')) := fun k hk wr hb => by
    have k1 : k < xs.length := by omega
    have k2 : k < ys.length := by omega
    obtain ⟨R1, R2⟩ := HB.out wr hb
    obtain ⟨g1, gc1, ev1, _⟩ := own_blk R1.own (show 0 < xs.length by omega)
    obtain ⟨g2, gc2, ev2, _⟩ := own_blk R2.own (show 0 < ys.length by omega)
    simp only [Value.slice.injEq] at ev1 ev2
    obtain ⟨rfl, -, rfl⟩ := ev1
    obtain ⟨rfl, -, rfl⟩ := ev2
    have ee := map_get he k1 k2
    have hx := List.getElem_mem k1
    have hy := List.getElem_mem k2
    have N1 := R1.ok _ hx
    have N2 := R2.ok _ hy
    obtain ⟨u1, d1, e1⟩ := own_form N1.ty.own
    obtain ⟨u2, d2, e2⟩ := own_form N2.ty.own
    obtain ⟨u3, d3, e3⟩ := own_form N1.ex.own
    obtain ⟨u4, d4, e4⟩ := own_form N2.ex.own
    have N2' : RdOK B2 wr xs[k].1 ys[k].2 := by rw [ee]; exact N2
    have C := e_decl wr.drew (d := xs[k].1) (p := xs[k].2) (q := ys[k].2) ⟨N1.ty.drew, N1.isT, N1.ex.drew, N1.isE⟩ ⟨N2'.ty.drew, N2'.isT, N2'.ex.drew, N2'.isE⟩ (hs _ hx)
    rw [e1, e2, e3, e4] at C
    refine ⟨g1, g2, xs[k].1, u1, u2, u3, u4, _, _, _, _, d1, d2, d3, d4, rfl, rfl, own_at (f := dcC) dcC_len R1.own (j := k) (r := 0) rfl k1 (by omega) rfl, own_at (f := dcC) dcC_len R1.own rfl k1 (by omega) rfl, own_at (f := dcC) dcC_len R1.own rfl k1 (by omega) (by rw [← e1]; rfl), own_at (f := dcC) dcC_len R1.own rfl k1 (by omega) (by rw [← e3]; rfl), ?_, ?_, ?_, ?_, C.mono (fun e w' h => ⟨h.1, hb.drew.trans (h.2.mono hb.size)⟩)⟩
    · rw [ee]; exact own_at (f := dcC) dcC_len R2.own (j := k) (r := 0) rfl k2 (by omega) rfl
    · rw [ee]; exact own_at (f := dcC) dcC_len R2.own rfl k2 (by omega) rfl
    · exact own_at (f := dcC) dcC_len R2.own rfl k2 (by omega) (by rw [← e2]; rfl)
    · exact own_at (f := dcC) dcC_len R2.own rfl k2 (by omega) (by rw [← e4]; rfl)
  clear h1 h2 he hs hxy hn
  go_enter Tryz.func28, Tryz.ntmps28
  go_wp2
  go_loopw [5] (fun i wr => ∃ k : Nat, k ≤ n ∧ i = .int .i64 k ∧ Below w.heap.size w wr) (fun i _ => n - (intOf i).toNat)
  case atStart => exact ⟨0, Nat.zero_le _, rfl, Below.refl _ _⟩
  case round =>
    obtain ⟨k, hk, rfl, hb⟩ := hrel
    by_cases hlt : k < n
    · obtain ⟨g1, g2, x, u1, u2, u3, u4, m1, m2, m3, m4, d1, d2, d3, d4, rfl, rfl, y0, y1, y2, y3, z0, z1, z2, z3, C0⟩ := HIT.out k hlt wr hb
      clear HB HIT
      go_wp2
      go_region_with (go_at_call 53; refine C0.out.mono ?_; rintro e w' ⟨rfl, hb'⟩)
      all_goals
        go_wp2
        go_roundw
        case rel => exact ⟨k + 1, by omega, by go_num, hb'⟩
        case measure => simp [intOf]; omega
    · go_wp2
      go_ret
      exact ⟨rfl, hb⟩

set_option maxRecDepth 100000 in
set_option maxHeartbeats 1000000 in
theorem e_module (w : World) {B1 B2 : Nat} {v1 v2 : Value} {xs ys : List (DC × DPl)} (h1 : RD B1 w v1 xs) (h2 : RD B2 w v2 ys) (he : xs.map Prod.fst = ys.map Prod.fst) (hs : ∀ x, x ∈ xs → SmD 1000000 x.1) (hl : xs.length ≤ 1000000) :
    Calls Tryz.prog 9 #[.agg #[v1], .agg #[v2]] w fun e w' => e = .returned (.bool true) ∧ Below w.heap.size w w' := by
  have HT : Hid (∀ W, Below w.heap.size w W → Calls Tryz.prog 28 #[v1, v2] W fun e w' => e = .returned (.bool true) ∧ Below W.heap.size W w') := fun W hb => e_decls W (h1.below hb) (h2.below hb) he hs hl
  obtain ⟨a1, c1, e1⟩ := own_form h1.own
  obtain ⟨a2, c2, e2⟩ := own_form h2.own
  rw [e1, e2] at HT ⊢
  clear h1 h2 he hs hl e1 e2
  go_enter Tryz.func9, Tryz.ntmps9
  go_wp2_with fail
  refine (HT.out _ (bel2 _ _ _)).mono ?_
  rintro e w2 ⟨rfl, hb2⟩
  have HB2 : Hid (Below w.heap.size w w2) := (bel2 _ _ _).trans (hb2.mono (bel2 _ _ _).size)
  clear hb2
  go_wp2
  go_ret
  exact ⟨rfl, HB2⟩

end Go.Proofs.YtcehppndpccldaaGreatDoor

namespace Go.Proofs.YtcehppndpccldaaGreatDoor
open Go.RowKit

/-- The digits of a number, ahead of what is there. -/
def mdig (k : Nat) (acc : List UInt8) : List UInt8 := if k = 0 then acc else mdig (k / 10) (UInt8.ofNat (48 + k % 10) :: acc)
termination_by k
decreasing_by omega
theorem mdig_zero (acc : List UInt8) : mdig 0 acc = acc := by rw [mdig, if_pos rfl]
theorem mdig_step {k : Nat} (h : k ≠ 0) (acc : List UInt8) : mdig k acc = mdig (k / 10) (UInt8.ofNat (48 + k % 10) :: acc) := by
  rw [mdig, if_neg h]

/-- The text that marks a number above 0. -/
def mt (k : Nat) : ByteArray := ⟨(109 :: mdig k []).toArray⟩

theorem conv_one (W : World) (n : Int) : (convert 29 9 (.slice (some ⟨W.heap.size, 0, none⟩) 1 1)).run Tryz.prog (W.alloc (.cells #[.int .u8 n] 5)) = .ok (.string ⟨#[UInt8.ofNat n.toNat]⟩) (W.alloc (.cells #[.int .u8 n] 5)) := by
  rw [run_convert_bytes_string _ 29 9 5 _ 1 1 Tryz.underlying29 Tryz.underlying5 Tryz.underlying9]
  have := run_bytesToString (P := Tryz.prog) (W.alloc (.cells #[.int .u8 n] 5)) ⟨W.heap.size, 0, none⟩ 1 1 [n] (run_loadCells_list _ ⟨W.heap.size, 0, none⟩ [.int .u8 n] (cell_one_new W (.int .u8 n) 5))
  exact this

set_option maxRecDepth 100000 in
set_option maxHeartbeats 2000000 in
theorem c23 (k : Nat) (w : World) (hk : 0 < k) (hk2 : k ≤ 1000000) :
    Calls Tryz.prog 54 #[.int .i64 (k : Int)] w fun e w' => e = .returned (.string (mt k)) ∧ Below w.heap.size w w' := by
  have h0 : ¬ (k : Int) ≤ 0 := by omega
  go_enter Tryz.func54, Tryz.ntmps54
  go_wp2
  go_loopw [3, 0] (fun o i wr => ∃ (j : Nat) (acc : ByteArray), i = .int .i64 j ∧ o = .string acc ∧ Hid (mdig j acc.data.toList = mdig k []) ∧ acc.size + j ≤ k ∧ Below w.heap.size w wr) (fun _ i _ => (intOf i).toNat)
  case atStart => exact ⟨k, ⟨#[]⟩, rfl, rfl, by show _ = _; rfl, by show 0 + k ≤ k; omega, Below.refl _ _⟩
  case round =>
    obtain ⟨j, acc, rfl, rfl, HM, hsz, hb⟩ := hrel
    by_cases hlt : 0 < j
    · have hlt' : (0 : Int) < (j : Int) := by omega
      have hcv := conv_one wr (48 + (j : Int) % 10)
      obtain ⟨sx, hsx⟩ : ∃ sx : ByteArray, sx = ⟨#[UInt8.ofNat (48 + (j : Int) % 10).toNat]⟩ := ⟨_, rfl⟩
      rw [← hsx] at hcv
      have hq : (j : Int).tdiv 10 = ((j / 10 : Nat) : Int) := by rw [Int.tdiv_eq_ediv_of_nonneg (by omega)]; omega
      have hq2 : IntKind.i64.wrap ((j / 10 : Nat) : Int) = ((j / 10 : Nat) : Int) := by rw [IntKind.wrap_i64]; omega
      have HN : Hid (mdig (j / 10) (sx ++ acc).data.toList = mdig k []) := by
        show _ = _
        rw [← HM.out, mdig_step (k := j) (by omega), hsx]
        have : (48 + (j : Int) % 10).toNat = 48 + j % 10 := by omega
        rw [this]
        simp [ByteArray.data_append]
      have one : sx.size = 1 := by rw [hsx]; rfl
      have hsz2 : (sx ++ acc).size = 1 + acc.size := by
        rw [ByteArray.size_append, one]
      have hadd := fun W => run_string_add_sum (P := Tryz.prog) (w := W) sx acc (by rw [one]; omega)
      clear hsx
      go_wp2
      go_roundw
      case rel => exact ⟨j / 10, _, by first | rfl | (rw [hq, hq2]) | simp, rfl, HN, by omega, hb.alloc hb.size _⟩
      case measure => simp [intOf]; omega
    · have hj : j = 0 := by omega
      subst hj
      have HE : Hid (mt k = (⟨#[109]⟩ : ByteArray) ++ acc) := by
        show _ = _
        have := HM.out
        rw [mdig_zero] at this
        unfold mt
        rw [← this]
        apply ByteArray.ext
        simp [ByteArray.data_append]
      go_wp2
      go_ret
      exact ⟨by rw [HE.out]; rfl, hb⟩

end Go.Proofs.YtcehppndpccldaaGreatDoor

namespace Go.Proofs.YtcehppndpccldaaGreatDoor
open Go.RowKit

/-- A cell that a mark goes into: the block, the place, whether it holds a text. -/
abbrev LA := Nat × Nat × Bool
def ad (a : LA) : Nat × Nat := (a.1, a.2.1)
def lad (a : LA) : Addr := ⟨a.1, a.2.1, none⟩
def mv (a : LA) (k : Nat) : Value := if a.2.2 then .string (mt k) else .int .i64 (k : Int)

/-- A block that may be written. -/
def Wr (w : World) (b : Nat) : Prop := ∃ t n f, w.rowIs b t n f
theorem Wr.lt {w : World} {b : Nat} (h : Wr w b) : b < w.heap.size := by obtain ⟨t, n, f, h⟩ := h; exact h.lt
theorem Wr.frozen {w : World} {b : Nat} (h : Wr w b) (o : Nat) : w.frozen? ⟨b, o, none⟩ = false := by obtain ⟨t, n, f, h⟩ := h; exact h.frozen o
theorem Wr.of {w w' : World} {b : Nat} (h : Wr w b) (e : w'.heap[b]? = w.heap[b]?) : Wr w' b := by obtain ⟨t, n, f, h⟩ := h; exact ⟨t, n, f, h.of_block e⟩

def Lv (w : World) (A : List LA) : Prop := ∀ a, a ∈ A → Wr w a.1 ∧ ∃ v, w.cell? (lad a) = some v
/-- The marks stand. -/
def Hm (w : World) : List LA → Nat → Prop
  | [], _ => True
  | a :: A, x => w.cell? (lad a) = some (mv a x) ∧ Hm w A (x + 1)
theorem Hm.app {w : World} : ∀ {A B : List LA} {x : Nat}, Hm w (A ++ B) x ↔ Hm w A x ∧ Hm w B (x + A.length)
  | [], B, x => by simp [Hm]
  | a :: A, B, x => by
    rw [List.cons_append, Hm, Hm, Hm.app (A := A), List.length_cons, show x + 1 + A.length = x + (A.length + 1) by omega]
    exact and_assoc.symm
theorem Hm.cong {w w' : World} : ∀ {A : List LA} {x : Nat}, (∀ a, a ∈ A → w'.cell? (lad a) = w.cell? (lad a)) → Hm w A x → Hm w' A x
  | [], _, _, _ => trivial
  | a :: _, _, h, hm => ⟨(h a (List.mem_cons_self ..)).trans hm.1, Hm.cong (fun b hb => h b (List.mem_cons_of_mem _ hb)) hm.2⟩
theorem Hm.some {w : World} : ∀ {A : List LA} {x : Nat}, Hm w A x → ∀ a, a ∈ A → ∃ v, w.cell? (lad a) = some v
  | [], _, _, a, ha => by cases ha
  | b :: _, x, hm, a, ha => by
    rcases List.mem_cons.1 ha with z | z
    · rw [z]; exact ⟨_, hm.1⟩
    · exact Hm.some hm.2 a z

/-- Cells apart. -/
def Ds (A B : List LA) : Prop := ∀ a, a ∈ A → ∀ b, b ∈ B → ad a ≠ ad b
def Nd (A : List LA) : Prop := (A.map ad).Nodup
theorem Nd.app {A B : List LA} : Nd (A ++ B) ↔ Nd A ∧ Nd B ∧ Ds A B := by
  unfold Nd
  rw [List.map_append, List.nodup_append]
  refine ⟨fun h => ⟨h.1, h.2.1, fun a ha b hb => h.2.2 _ (List.mem_map_of_mem ha) _ (List.mem_map_of_mem hb)⟩, fun h => ⟨h.1, h.2.1, fun x hx y hy => ?_⟩⟩
  obtain ⟨a, ha, rfl⟩ := List.mem_map.1 hx
  obtain ⟨b, hb, rfl⟩ := List.mem_map.1 hy
  exact h.2.2 a ha b hb

structure Mkd (w w' : World) (A : List LA) (x : Nat) : Prop where
  os : w'.os = w.os
  tape : w'.tape = w.tape
  output : w'.output = w.output
  size : w.heap.size ≤ w'.heap.size
  block : ∀ b, b < w.heap.size → (∀ a, a ∈ A → a.1 ≠ b) → w'.heap[b]? = w.heap[b]?
  cell : ∀ c : Nat × Nat, c.1 < w.heap.size → (∀ a, a ∈ A → ad a ≠ c) → w'.cell? ⟨c.1, c.2, none⟩ = w.cell? ⟨c.1, c.2, none⟩
  at_ : Hm w' A x
  wr : ∀ b, Wr w b → Wr w' b

theorem mkd_of_below {w w' : World} (h : Below w.heap.size w w') (x : Nat) : Mkd w w' [] x :=
  ⟨h.os, h.tape, h.output, h.size, fun b hb _ => h.block b hb, fun c hc _ => h.cell (p := ⟨c.1, c.2, none⟩) hc, trivial, fun _ hb => hb.of (h.block _ hb.lt)⟩
theorem Mkd.app {w w1 w2 : World} {A B : List LA} {x y : Nat} (h1 : Mkd w w1 A x) (h2 : Mkd w1 w2 B y) (hy : y = x + A.length) (hd : Ds A B) : Mkd w w2 (A ++ B) x := by
  refine ⟨h2.os.trans h1.os, h2.tape.trans h1.tape, h2.output.trans h1.output, Nat.le_trans h1.size h2.size, fun b hb hn => ?_, fun c hc hn => ?_, ?_, fun b hb => h2.wr b (h1.wr b hb)⟩
  · rw [h2.block b (Nat.lt_of_lt_of_le hb h1.size) (fun a ha => hn a (List.mem_append_right _ ha)), h1.block b hb (fun a ha => hn a (List.mem_append_left _ ha))]
  · rw [h2.cell c (Nat.lt_of_lt_of_le hc h1.size) (fun a ha => hn a (List.mem_append_right _ ha)), h1.cell c hc (fun a ha => hn a (List.mem_append_left _ ha))]
  · rw [Hm.app]
    refine ⟨h1.at_.cong (fun a ha => ?_), by rw [← hy]; exact h2.at_⟩
    obtain ⟨v, hv⟩ := h1.at_.some a ha
    exact h2.cell (ad a) (World.block_lt_of_cell? _ _ hv) (fun b hb e => hd a ha b hb e.symm)
theorem Mkd.below {w w1 w2 : World} {A : List LA} {x : Nat} (h1 : Mkd w w1 A x) (hb : Below w1.heap.size w1 w2) : Mkd w w2 A x := by
  have := h1.app (mkd_of_below hb (x + A.length)) rfl (fun a _ b hb => by cases hb)
  rw [List.append_nil] at this
  exact this
theorem mkd_one {w : World} {b o : Nat} (t : Bool) (x : Nat) (hW : Wr w b) (hv : ∃ v, w.cell? ⟨b, o, none⟩ = some v) : Mkd w (w.setCell ⟨b, o, none⟩ (mv (b, o, t) x)) [(b, o, t)] x := by
  obtain ⟨v, hv⟩ := hv
  refine ⟨rfl, rfl, rfl, by rw [World.size_setCell]; exact Nat.le_refl _, fun k hk hn => Below.heap_setCell _ _ _ _ (by show k ≠ b; exact fun e => hn _ (List.mem_singleton.2 rfl) e.symm), fun c hc hn => World.cell?_setCell_other _ _ _ _ (fun e => ?_), ⟨World.cell?_setCell_same' _ _ _ (by rw [hv]; rfl), trivial⟩, fun k hk => ?_⟩
  · refine hn _ (List.mem_singleton.2 rfl) ?_
    have e1 := congrArg Addr.block e
    have e2 := congrArg Addr.off e
    obtain ⟨c1, c2⟩ := c
    simp only at e1 e2
    show (b, o) = (c1, c2)
    rw [e1, e2]
  · by_cases e : k = b
    · subst e
      obtain ⟨t, n, f, h⟩ := hW
      exact ⟨t, n, _, h.set o _⟩
    · exact hk.of (Below.heap_setCell _ _ _ _ (by show k ≠ b; exact e))
/-- A cell that is still to be marked. -/
theorem Mkd.look {w w1 : World} {A L : List LA} {x : Nat} (h : Mkd w w1 A x) (hl : Lv w L) {a : LA} (ha : a ∈ L) (hn : ∀ b, b ∈ A → ad b ≠ ad a) : Wr w1 a.1 ∧ ∃ v, w1.cell? (lad a) = some v := by
  obtain ⟨h1, v, hv⟩ := hl a ha
  exact ⟨h.wr _ h1, v, (h.cell (ad a) h1.lt hn).trans hv⟩
theorem Mkd.lv {w w1 : World} {A L : List LA} {x : Nat} (h : Mkd w w1 A x) (hl : Lv w L) (hd : Ds A L) : Lv w1 L := fun a ha => h.look hl ha (fun b hb => hd b hb a ha)

/-- Cells that lead on, and what they hold. -/
def HH (w : World) (H : List (Nat × Nat × Value)) : Prop := ∀ h, h ∈ H → w.cell? ⟨h.1, h.2.1, none⟩ = some h.2.2
def Sp (H : List (Nat × Nat × Value)) (A : List LA) : Prop := ∀ h, h ∈ H → ∀ a, a ∈ A → ad a ≠ (h.1, h.2.1)
theorem Mkd.hh {w w1 : World} {A : List LA} {x : Nat} (h : Mkd w w1 A x) {H : List (Nat × Nat × Value)} (hh : HH w H) (hs : Sp H A) : HH w1 H := fun c hc =>
  (h.cell (c.1, c.2.1) (World.block_lt_of_cell? _ _ (hh c hc)) (fun a ha => hs c hc a ha)).trans (hh c hc)
theorem HH.below {w w1 : World} {H : List (Nat × Nat × Value)} (hh : HH w H) (hb : Below w.heap.size w w1) : HH w1 H := fun c hc =>
  (hb.cell (p := ⟨c.1, c.2.1, none⟩) (World.block_lt_of_cell? _ _ (hh c hc))).trans (hh c hc)
theorem Hm.below {w w1 : World} {A : List LA} {x : Nat} (hm : Hm w A x) (hb : Below w.heap.size w w1) : Hm w1 A x := hm.cong fun a ha => by
  obtain ⟨v, hv⟩ := hm.some a ha
  exact hb.cell (p := lad a) (World.block_lt_of_cell? _ _ hv)

theorem mdig_len : ∀ (j k : Nat) (acc : List UInt8), k ≤ j → (mdig k acc).length ≤ k + acc.length := by
  intro j
  induction j with
  | zero => intro k acc h; have : k = 0 := by omega
            subst this; rw [mdig_zero]; omega
  | succ j ih =>
    intro k acc h
    by_cases e : k = 0
    · subst e; rw [mdig_zero]; omega
    · rw [mdig_step e]
      have := ih (k / 10) (UInt8.ofNat (48 + k % 10) :: acc) (by omega)
      rw [List.length_cons] at this
      omega

set_option maxRecDepth 100000 in
set_option maxHeartbeats 2000000 in
theorem t_markText (z : Int) (k : Nat) (w : World) (hz : z = (k : Int)) (hk : 0 < k) (hk2 : k ≤ 4611686018427387904) :
    Calls Tryz.prog 54 #[.int .i64 z] w fun e w' => e = .returned (.string (mt k)) ∧ Below w.heap.size w w' := by
  subst hz
  have h0 : ¬ (k : Int) ≤ 0 := by omega
  go_enter Tryz.func54, Tryz.ntmps54
  go_wp2
  go_loopw [3, 0] (fun o i wr => ∃ (j : Nat) (acc : ByteArray), i = .int .i64 j ∧ o = .string acc ∧ Hid (mdig j acc.data.toList = mdig k []) ∧ acc.size + j ≤ k ∧ Below w.heap.size w wr) (fun _ i _ => (intOf i).toNat)
  case atStart => exact ⟨k, ⟨#[]⟩, rfl, rfl, by show _ = _; rfl, by show 0 + k ≤ k; omega, Below.refl _ _⟩
  case round =>
    obtain ⟨j, acc, rfl, rfl, HM, hsz, hb⟩ := hrel
    by_cases hlt : 0 < j
    · have hlt' : (0 : Int) < (j : Int) := by omega
      have hcv := conv_one wr (48 + (j : Int) % 10)
      obtain ⟨sx, hsx⟩ : ∃ sx : ByteArray, sx = ⟨#[UInt8.ofNat (48 + (j : Int) % 10).toNat]⟩ := ⟨_, rfl⟩
      rw [← hsx] at hcv
      have hq : (j : Int).tdiv 10 = ((j / 10 : Nat) : Int) := by rw [Int.tdiv_eq_ediv_of_nonneg (by omega)]; omega
      have hq2 : IntKind.i64.wrap ((j / 10 : Nat) : Int) = ((j / 10 : Nat) : Int) := by rw [IntKind.wrap_i64]; omega
      have HN : Hid (mdig (j / 10) (sx ++ acc).data.toList = mdig k []) := by
        show _ = _
        rw [← HM.out, mdig_step (k := j) (by omega), hsx]
        have : (48 + (j : Int) % 10).toNat = 48 + j % 10 := by omega
        rw [this]
        simp [ByteArray.data_append]
      have one : sx.size = 1 := by rw [hsx]; rfl
      have hsz2 : (sx ++ acc).size = 1 + acc.size := by
        rw [ByteArray.size_append, one]
      have hadd := fun W => run_string_add_sum (P := Tryz.prog) (w := W) sx acc (by rw [one]; omega)
      clear hsx
      go_wp2
      go_roundw
      case rel => exact ⟨j / 10, _, by first | rfl | (rw [hq, hq2]) | simp, rfl, HN, by omega, hb.alloc hb.size _⟩
      case measure => simp [intOf]; omega
    · have hj : j = 0 := by omega
      subst hj
      have HE : Hid (mt k = (⟨#[109]⟩ : ByteArray) ++ acc) := by
        show _ = _
        have := HM.out
        rw [mdig_zero] at this
        unfold mt
        rw [← this]
        apply ByteArray.ext
        simp [ByteArray.data_append]
      go_wp2
      go_ret
      exact ⟨by rw [HE.out]; rfl, hb⟩

/-- The cells of names. -/
def lN (p : NPl) (n : Nat) : List LA := (List.range n).map fun j => (p.b, j, true)
theorem lN_succ (p : NPl) (n : Nat) : lN p (n + 1) = lN p n ++ [(p.b, n, true)] := by unfold lN; rw [List.range_succ, List.map_append]; rfl
theorem lN_len (p : NPl) (n : Nat) : (lN p n).length = n := by unfold lN; rw [List.length_map, List.length_range]
theorem mem_lN {p : NPl} {n : Nat} {a : LA} (h : a ∈ lN p n) : a.1 = p.b ∧ a.2.1 < n ∧ a.2.2 = true := by
  obtain ⟨j, hj, rfl⟩ := List.mem_map.1 h
  exact ⟨rfl, List.mem_range.1 hj, rfl⟩
theorem lN_mem {p : NPl} {n j : Nat} (h : j < n) : (p.b, j, true) ∈ lN p n := List.mem_map.2 ⟨j, List.mem_range.2 h, rfl⟩
theorem lN_sub {p : NPl} {n m : Nat} (h : n ≤ m) {a : LA} (ha : a ∈ lN p n) : a ∈ lN p m := by
  obtain ⟨j, hj, rfl⟩ := List.mem_map.1 ha
  exact lN_mem (Nat.lt_of_lt_of_le (List.mem_range.1 hj) h)
theorem lN_ds (p : NPl) (n : Nat) : Ds (lN p n) [(p.b, n, true)] := fun a ha b hb e => by
  obtain ⟨_, h2, _⟩ := mem_lN ha
  rw [List.mem_singleton.1 hb] at e
  have := congrArg Prod.snd e
  simp only [ad] at this
  omega
theorem lN_nd (p : NPl) : ∀ n, Nd (lN p n)
  | 0 => List.nodup_nil
  | n + 1 => by rw [lN_succ, Nd.app]; exact ⟨lN_nd p n, by simp [Nd], lN_ds p n⟩

set_option maxRecDepth 100000 in
set_option maxHeartbeats 2000000 in
theorem t_markNames (z : Int) (p : NPl) (n : Nat) (x : Nat) (w : World) (hz : z = (x : Int)) (ha : 0 < n → p.a = some ⟨p.b, 0, none⟩) (hl : Lv w (lN p n)) (hx1 : 1 ≤ x) (hx2 : x + n ≤ 2305843009213693952) :
    Calls Tryz.prog 86 #[.slice p.a n p.c, .int .i64 z] w fun e w' => e = .returned (.int .i64 ((x + n : Nat) : Int)) ∧ Mkd w w' (lN p n) x := by
  subst hz
  have HA : Hid (0 < n → p.a = some ⟨p.b, 0, none⟩) := ha
  have HL : Hid (Lv w (lN p n)) := hl
  have ST : Mkd w w (lN p 0) x := mkd_of_below (Below.refl _ _) x
  clear hl ha
  go_enter Tryz.func86, Tryz.ntmps86
  go_wp2
  go_loopw [1, 5] (fun y i wr => ∃ k : Nat, k ≤ n ∧ i = .int .i64 k ∧ y = .int .i64 ((x + k : Nat) : Int) ∧ Mkd w wr (lN p k) x) (fun _ i _ => n - (intOf i).toNat)
  case atStart => exact ⟨0, Nat.zero_le _, rfl, rfl, ST⟩
  case round =>
    obtain ⟨k, hk, rfl, rfl, hM⟩ := hrel
    clear ST
    by_cases hlt : k < n
    · have e1 := HA.out (by omega)
      rw [e1]
      clear e1
      have HM : Hid (Mkd w wr (lN p k) x) := hM
      obtain ⟨y, hy⟩ : ∃ y : Nat, y = x + k := ⟨_, rfl⟩
      have HX : Hid (y = x + k) := hy
      have hy1 : 1 ≤ y := by omega
      have hy2 : y ≤ 2305843009215791104 := by omega
      rw [← hy]
      clear hM hy
      go_wp2_with fail
      refine (t_markText _ y _ (by omega) (by omega) (by omega)).mono ?_
      rintro e w2 ⟨rfl, hb2⟩
      have M2 := HM.out.below hb2
      obtain ⟨W2, v0, k0⟩ := M2.look HL.out (lN_mem hlt) (fun b hb => lN_ds p k b hb _ (List.mem_singleton.2 rfl))
      have f0 := W2.frozen k
      have k0 : w2.cell? ⟨p.b, k, none⟩ = some v0 := k0
      have HN : Hid (Mkd w (w2.setCell ⟨p.b, k, none⟩ (.string (mt y))) (lN p (k + 1)) x) := by
        have := M2.app (mkd_one (o := k) true y W2 ⟨v0, k0⟩) (by rw [lN_len]; exact HX.out) (lN_ds p k)
        rw [← lN_succ] at this
        exact this
      clear W2 M2 hb2 HM
      go_wp2
      go_roundw
      case rel => exact ⟨k + 1, by omega, by go_num, by have := HX.out; first | (congr 1; omega) | (simp; omega), HN.out⟩
      case measure => simp [intOf]; omega
    · have hkn : k = n := by omega
      subst hkn
      have FIN : Hid (Mkd w wr (lN p k) x) := hM
      clear hM
      go_wp2
      go_ret
      exact ⟨rfl, FIN.out⟩

theorem hm_name {w : World} {p : NPl} {n x k : Nat} (h : Hm w (lN p n) x) (hk : k < n) : w.cell? ⟨p.b, k, none⟩ = some (.string (mt (x + k))) := by
  have e : lN p n = lN p k ++ (p.b, k, true) :: (List.range' (k + 1) (n - (k + 1))).map fun j => (p.b, j, true) := by
    unfold lN
    rw [show List.range n = List.range k ++ k :: List.range' (k + 1) (n - (k + 1)) by
      rw [List.range_eq_range', List.range_eq_range', show n = k + ((n - (k + 1)) + 1) by omega, ← List.range'_append_1, List.range'_succ]
      simp
      omega]
    rw [List.map_append, List.map_cons]
  rw [e, Hm.app, lN_len] at h
  exact h.2.1

set_option maxRecDepth 100000 in
set_option maxHeartbeats 2000000 in
theorem t_heldNames (z : Int) (p : NPl) (n : Nat) (x : Nat) (w : World) (hz : z = (x : Int)) (ha : 0 < n → p.a = some ⟨p.b, 0, none⟩) (hm : Hm w (lN p n) x) (hx1 : 1 ≤ x) (hx2 : x + n ≤ 2305843009213693952) :
    Calls Tryz.prog 87 #[.slice p.a n p.c, .int .i64 z] w fun e w' => e = .returned (.int .i64 ((x + n : Nat) : Int)) ∧ Below w.heap.size w w' := by
  subst hz
  have HA : Hid (0 < n → p.a = some ⟨p.b, 0, none⟩) := ha
  have HB : Hid (∀ w', Below w.heap.size w w' → ∀ k, k < n → w'.cell? ⟨p.b, k, none⟩ = some (.string (mt (x + k)))) := fun w' hb k hk => hm_name (hm.below hb) hk
  clear hm ha
  go_enter Tryz.func87, Tryz.ntmps87
  go_wp2
  go_loopw [1, 5] (fun y i wr => ∃ k : Nat, k ≤ n ∧ i = .int .i64 k ∧ y = .int .i64 ((x + k : Nat) : Int) ∧ Below w.heap.size w wr) (fun _ i _ => n - (intOf i).toNat)
  case atStart => exact ⟨0, Nat.zero_le _, rfl, rfl, Below.refl _ _⟩
  case round =>
    obtain ⟨k, hk, rfl, rfl, hb⟩ := hrel
    by_cases hlt : k < n
    · have e1 := HA.out (by omega)
      rw [e1]
      clear e1
      have g0 := HB.out wr hb k hlt
      obtain ⟨y, hy⟩ : ∃ y : Nat, y = x + k := ⟨_, rfl⟩
      have HX : Hid (y = x + k) := hy
      have hy1 : 1 ≤ y := by omega
      have hy2 : y ≤ 2305843009215791104 := by omega
      rw [← hy] at g0 ⊢
      have CM : Hid (∀ W, Below w.heap.size w W → Calls Tryz.prog 54 #[.int .i64 (y : Int)] W fun e w' => e = .returned (.string (mt y)) ∧ Below w.heap.size w w' ∧ w'.cell? ⟨p.b, k, none⟩ = some (.string (mt y))) := fun W hW => (t_markText _ y W rfl (by omega) (by omega)).mono (fun e w' h => ⟨h.1, hW.trans (h.2.mono hW.size), by have := HB.out w' (hW.trans (h.2.mono hW.size)) k hlt; rw [← hy] at this; exact this⟩)
      clear hy
      have CM' := CM.out wr.drew hb.drew
      go_wp2
      go_region_held3 (fun w' => w'.cell? ⟨p.b, k, none⟩ = some (.string (mt y))) (first | go_keep | assumption) ((go_at_call 54; (first | (with_reducible refine CM'.mono ?_) | (with_reducible refine (CM.out wr hb).mono ?_)); rintro e w2 ⟨rfl, hb2, g2⟩))
      all_goals
        go_wp2
        go_roundw
        case rel => exact ⟨k + 1, by omega, by go_num, by have := HX.out; first | (congr 1; omega) | (simp; omega), hb2⟩
        case measure => simp [intOf]; omega
    · have hkn : k = n := by omega
      subst hkn
      go_wp2
      go_ret
      exact ⟨rfl, hb⟩

end Go.Proofs.YtcehppndpccldaaGreatDoor

