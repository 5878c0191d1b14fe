/-
  Tables: an entry put in between (slices.Insert), where there is room.
-/
import Derived.Test.YtpbebpcoeeednaaTabQ2
import Derived.Test.YtpbebpcoeeednaaTabX
import Derived.Lib.Overlaps
import Derived.Laws.Externs
import Derived.Laws.IdiomCopy
import Derived.Deep.RegionLaw
namespace Go.Proofs.Ytpbebpcoeeednaa
open Go.RowKit

/-- A function with a value put in. -/
def insF {α : Type} (i : Nat) (x : α) (f : Nat → α) (j : Nat) : α := if j < i then f j else if j = i then x else f (j - 1)
theorem insF_lt {α : Type} {i j : Nat} {x : α} {f : Nat → α} (h : j < i) : insF i x f j = f j := by unfold insF; rw [if_pos h]
theorem insF_at {α : Type} {i : Nat} {x : α} {f : Nat → α} : insF i x f i = x := by unfold insF; rw [if_neg (by omega), if_pos rfl]
theorem insF_gt {α : Type} {i j : Nat} {x : α} {f : Nat → α} (h : i < j) : insF i x f j = f (j - 1) := by unfold insF; rw [if_neg (by omega), if_neg (by omega)]

/-- Elements of any width go over: all is read before anything is written. -/
theorem run_copy_wide {P : Program} (w : World) (dT sT ty elem : TypeId) (s b o dLen dCap : Nat) (a : Addr) (sLen sCap : Nat) (cs : List Value)
    (hu : P.underlying dT = some (.slice elem)) (hs : (P.info? elem).map (·.size) = some s) (k : Nat) (hk : Nat.min sLen dLen = k) (hn : cs.length = k * s)
    (hsrc : ∀ j v, cs[j]? = some v → w.cell? (a.add j) = some v) (hc : ∀ j, j < cs.length → (w.cell? ⟨b, o + j, none⟩).isSome = true) (hf : ∀ j, j < cs.length → w.frozen? ⟨b, o + j, none⟩ = false) (h1 : ∀ v ∈ cs, v.oneCell' = true) :
    (Builtin.copy_ #[dT, sT] ty #[.slice (some ⟨b, o, none⟩) dLen dCap, .slice (some a) sLen sCap]).run P w = .ok (goInt k) (w.setCells b o cs) := by
  have hl := run_loadCells_list (P := P) w a cs hsrc
  have hst := run_storeCells_cells (P := P) b o cs 0 w (by simpa using hc) (by simpa using hf) h1
  cases hq : P.info? elem with
  | none => simp [hq] at hs
  | some i =>
    have hi : i.size = s := by simpa [hq] using hs
    simp [Builtin.copy_, run_underlying hu, Builtin.lenOf, Builtin.firstCells, sizeOf, typeInfo, hq, hi, hk, ← hn, hl, hst]

theorem wp_copy_w {P : Program} (w : World) {o : Oper} {a : Act} {K : Act → World → Prop} {Q : Exit → Act → World → Prop} (d s : Operand) (t t' : TypeId)
    (ho : o.op = .call { callee := .builtin .copy, args := #[d, s], argTypes := #[t, t'] }) (v u : Value) (hd : a.eval d = v) (hs : a.eval s = u) {v' : Value} {w' : World}
    (hr : (Builtin.copy_ #[t, t'] o.type #[v, u]).run P w = .ok v' w') (h : K (a.put o.dst v') w') : o.wp P a w K Q := by
  unfold Oper.wp execOp
  simp only [ho, resolve, invoke, builtin, Sem.run_bind, Sem.run_pure, Result.andThen_ok, List.map_toArray, List.map_cons, List.map_nil, hd, hs, hr]
  exact h
theorem wpList_copy_w {P : Program} (w : World) {ops : Array Oper} {rest : List Oper} {o : Oper} {a : Act} {Q : Exit → Act → World → Prop} (hgd : o.guard = none) (d s : Operand) (t t' : TypeId)
    (ho : o.op = .call { callee := .builtin .copy, args := #[d, s], argTypes := #[t, t'] }) (v u : Value) (hd : a.eval d = v) (hs : a.eval s = u) {v' : Value} {w' : World}
    (hr : (Builtin.copy_ #[t, t'] o.type #[v, u]).run P w = .ok v' w') (h : wpList P ops Q rest (a.put o.dst v') w') : wpList P ops Q (o :: rest) a w :=
  wpList_plain hgd fun _ hK => wp_copy_w w d s t t' ho v u hd hs hr (hK _ _ h)
theorem step_copy_w {P : Program} {ops : Array Oper} {o : Oper} {a : Act} {w : World} {K : Act → World → Prop} {Q : Exit → Act → World → Prop} {E : Prop}
    (hg : o.guard = none) (d x : Operand) (dT sT : TypeId) (hop : o.op = Op.call { callee := Callee.builtin Builtin.copy, args := #[d, x], argTypes := #[dT, sT] })
    (v u : Value) (hd : a.eval d = v) (hx : a.eval x = u) {v' : Value} {w' : World} (hr : (Builtin.copy_ #[dT, sT] o.type #[v, u]).run P w = .ok v' w') (hK : K (a.put o.dst v') w') :
    if Region.wanted o (yielded ops a.tmps) = true then Oper.wp P o a w K Q else E := by
  have hw : Region.wanted o (yielded ops a.tmps) = true := by simp [Region.wanted, hg]
  rw [if_pos hw]
  exact wp_copy_w w d x dT sT hop v u hd hx hr hK

/-- A row under a list of stores. -/
theorem rowW_setCells {g : Nat} {t : TypeId} {N : Nat} : ∀ (vs : List Value) (o : Nat) (w : World) (f : Nat → Value), w.rowIs g t N f → (w.setCells g o vs).rowIs g t N (fun j => if o ≤ j ∧ j < o + vs.length then vs[j - o]! else f j)
  | [], o, w, f, h => h.congr (fun j _ => by rw [if_neg (fun e => by have := e.1; have := e.2; simp at this; omega)])
  | v :: r, o, w, f, h => by
    rw [World.setCells]
    refine (rowW_setCells r (o + 1) _ _ (h.set o v)).congr (fun j _ => ?_)
    by_cases c1 : o + 1 ≤ j ∧ j < o + 1 + r.length
    · rw [if_pos c1, if_pos (by simp; omega)]
      obtain ⟨k, hk⟩ : ∃ k, j - o = k + 1 := ⟨j - o - 1, by omega⟩
      rw [hk, show j - (o + 1) = k by omega]
      simp
    · rw [if_neg c1]
      by_cases c2 : j = o
      · subst c2
        rw [if_pos (by simp)]
        simp
      · rw [if_neg c2, if_neg (fun e => by have h1 := e.1; have h2 := e.2; rw [List.length_cons] at h2; omega)]

theorem spanW_setCells {g : Nat} : ∀ (vs : List Value) (o : Nat) (w : World), Span g (g + 1) w (w.setCells g o vs)
  | [], _, w => Span.refl _ _ _
  | v :: r, o, w => by
    rw [World.setCells]
    exact ((Span.refl g (g + 1) w).set o (Nat.le_refl _) (Nat.lt_succ_self _) v).trans (spanW_setCells r (o + 1) _)

theorem ecells_congr {p p' : Nat → SP} {D D' : Nat → SD} : ∀ {n : Nat}, (∀ j, j < n → p j = p' j ∧ D j = D' j) → ecells p D n = ecells p' D' n
  | 0, _ => rfl
  | n + 1, h => by
    show ecells p D n ++ ec (p n) (D n) = ecells p' D' n ++ ec (p' n) (D' n)
    rw [ecells_congr (fun j hj => h j (by omega)), (h n (by omega)).1, (h n (by omega)).2]

theorem ecells_end (p : Nat → SP) (D : Nat → SD) (q : SP) (d : SD) (n : Nat) : ecells (insF n q p) (insF n d D) (n + 1) = ecells p D n ++ ec q d := by
  show ecells (insF n q p) (insF n d D) n ++ ec (insF n q p n) (insF n d D n) = _
  rw [insF_at, insF_at, ecells_congr (p' := p) (D' := D) (fun j hj => ⟨insF_lt hj, insF_lt hj⟩)]

theorem ec_one (q : SP) (d : SD) : ∀ v ∈ ec q d, v.oneCell' = true := by simp [ec, Value.oneCell']
theorem ecells_one (p : Nat → SP) (D : Nat → SD) : ∀ n, ∀ v ∈ ecells p D n, v.oneCell' = true
  | 0, _, h => by cases h
  | n + 1, v, h => by
    rcases List.mem_append.1 h with h | h
    · exact ecells_one p D n v h
    · exact ec_one _ _ v h

theorem row_ec {w : World} {vb : Nat} {q : SP} {d : SD} (h : w.rowIs vb 81 9 (ecf q d)) : ∀ j u, (ec q d)[j]? = some u → w.cell? ((⟨vb, 0, none⟩ : Addr).add j) = some u := fun j u hu => by
  have hj : j < 9 := by
    have := (List.getElem?_eq_some_iff.1 hu).1
    exact this
  rw [add0, h.cell hj]
  rw [ec_at q d j hj] at hu
  exact hu

/-- What the stores of Insert leave. -/
theorem ins_row {w : World} {g cap n i : Nat} {p : Nat → SP} {D : Nat → SD} {q : SP} {d : SD} {base : Nat} (h : w.ownsRow base 81 9 (.slice (some ⟨g, 0, none⟩) n cap) n (ecells p D n)) (hi : i ≤ n) (hrm : n + 1 ≤ cap) :
    ((w.setCells g ((i + 1) * 9) ((ecells p D n).drop (i * 9))).setCells g (i * 9) (ec q d)).ownsRow base 81 9 (.slice (some ⟨g, 0, none⟩) (n + 1) cap) (n + 1) (ecells (insF i q p) (insF i d D) (n + 1)) := by
  obtain ⟨f, h1, h2, h3, h4, h5, h6⟩ := row_of_own h
  have r1 := rowW_setCells (ec q d) (i * 9) _ _ (rowW_setCells ((ecells p D n).drop (i * 9)) ((i + 1) * 9) w f h1)
  refine own_of_row r1 hrm h3 h4 (ecells_len _ _ _) (fun j hj => ?_)
  obtain ⟨a, b, rfl, hb⟩ : ∃ a b, j = a * 9 + b ∧ b < 9 := ⟨j / 9, j % 9, by omega, by omega⟩
  have ha : a < n + 1 := by omega
  rw [ecells_at _ _ (n + 1) a b ha hb]
  have hl : (ec q d).length = 9 := rfl
  have hl2 : ((ecells p D n).drop (i * 9)).length = n * 9 - i * 9 := by rw [List.length_drop, ecells_len]
  rw [hl, hl2]
  rcases Nat.lt_trichotomy a i with c | c | c
  · rw [if_neg (by omega), if_neg (by omega), insF_lt c, insF_lt c, ec_at _ _ _ hb]
    have := h6 (a * 9 + b) (by omega)
    rw [ecells_at p D n a b (by omega) hb, ec_at _ _ _ hb] at this
    exact this
  · subst c
    rw [if_pos (by omega), insF_at, insF_at, Nat.add_sub_cancel_left, ec_at _ _ _ hb]
    have : (ec q d)[b]? = some (ecf q d b) := ec_at _ _ _ hb
    rw [List.getElem!_eq_getElem?_getD, this]
    rfl
  · rw [if_neg (by omega), if_pos (by omega), insF_gt c, insF_gt c, List.getElem!_eq_getElem?_getD, List.getElem?_drop]
    obtain ⟨a', rfl⟩ : ∃ a', a = a' + 1 := ⟨a - 1, by omega⟩
    rw [show i * 9 + ((a' + 1) * 9 + b - (i + 1) * 9) = a' * 9 + b by omega, ecells_at p D n a' b (by omega) hb, Nat.add_sub_cancel, ec_at _ _ _ hb]
    rfl

set_option maxRecDepth 100000 in
set_option maxHeartbeats 4000000 in
theorem t_insEnd (base g n cap vb vc : Nat) (p : Nat → SP) (D : Nat → SD) (q : SP) (d : SD) (w : World) (hown : w.ownsRow base 81 9 (.slice (some ⟨g, 0, none⟩) n cap) n (ecells p D n)) (hv : w.rowIs vb 81 9 (ecf q d)) (hrm : n + 1 ≤ cap) :
    Calls Try.prog 102 #[.slice (some ⟨g, 0, none⟩) n cap, .int .i64 (n : Int), .slice (some ⟨vb, 0, none⟩) 1 vc] w fun e w' =>
      e = .returned (.slice (some ⟨g, 0, none⟩) (n + 1) cap) ∧ w'.ownsRow base 81 9 (.slice (some ⟨g, 0, none⟩) (n + 1) cap) (n + 1) (ecells (insF n q p) (insF n d D) (n + 1)) ∧ Span g (g + 1) w w' := by
  obtain ⟨i0, hi0, hz0, hz1, hz2⟩ := info_parts' Try.info81
  have HV : Hid (∀ j u, (ec q d)[j]? = some u → w.cell? ((⟨vb, 0, none⟩ : Addr).add j) = some u) := row_ec hv
  have hcn : n ≤ cap := by omega
  clear hv
  go_enter Try.func102, Try.ntmps102
  go_wp2_with (at_builtin; refine wpList_append_stays _ rfl _ _ 105 rfl base 81 i0 9 Try.underlying105 hi0 hz1 g cap n (ecells p D n) rfl hown ⟨vb, 0, none⟩ 1 vc (ec q d) rfl rfl HV.out (ec_one q d) hrm ?_; intro w3 ho3 hg3)
  go_ret
  refine ⟨rfl, ?_, ⟨hg3.os, hg3.tape, hg3.output, hg3.size, fun x hx hn => hg3.block x hx (fun e => by cases e; omega)⟩⟩
  rw [ecells_end]
  exact ho3

theorem Try.size78 (w : World) : (Go.sizeOf 81).run Try.prog w = .ok 9 w := by
  obtain ⟨i0, hi0, hz0, hz1, hz2⟩ := info_parts' Try.info81
  simp [Go.sizeOf, typeInfo, hi0, hz1]

set_option maxRecDepth 100000 in
set_option maxHeartbeats 4000000 in
theorem t_insMid (base g n cap i vb vc : Nat) (p : Nat → SP) (D : Nat → SD) (q : SP) (d : SD) (w : World) (hown : w.ownsRow base 81 9 (.slice (some ⟨g, 0, none⟩) n cap) n (ecells p D n)) (hv : w.rowIs vb 81 9 (ecf q d)) (hne : vb ≠ g) (hi : i < n) (hrm : n + 1 ≤ cap) (hcc : cap ≤ 1048578) :
    Calls Try.prog 102 #[.slice (some ⟨g, 0, none⟩) n cap, .int .i64 (i : Int), .slice (some ⟨vb, 0, none⟩) 1 vc] w fun e w' =>
      e = .returned (.slice (some ⟨g, 0, none⟩) (n + 1) cap) ∧ w'.ownsRow base 81 9 (.slice (some ⟨g, 0, none⟩) (n + 1) cap) (n + 1) (ecells (insF i q p) (insF i d D) (n + 1)) ∧ Span g (g + 1) w w' := by
  obtain ⟨f, hr1, hr2, hr3, hr4, hr5, hr6⟩ := row_of_own hown
  have HO : Hid (w.ownsRow base 81 9 (.slice (some ⟨g, 0, none⟩) n cap) n (ecells p D n)) := hown
  have HV : Hid (∀ j u, (ec q d)[j]? = some u → w.cell? ((⟨vb, 0, none⟩ : Addr).add j) = some u) := row_ec hv
  obtain ⟨i0, hi0, hz0, hz1, hz2⟩ := info_parts' Try.info81
  have hsz : (Try.prog.info? 81).map (·.size) = some 9 := by rw [hi0]; simp [hz1]
  have hov : ∀ o lb cb, (callFunc 110 #[.slice (some ⟨vb, 0, none⟩) 1 vc, .slice (some ⟨g, o, none⟩) lb cb]).run Try.prog w = .ok (.value (.bool false)) w := fun o lb cb => by
    obtain ⟨cur, hh, hs, _⟩ := hr1
    obtain ⟨cu2, hh2, hs2, _⟩ := id hv
    rw [run_callFunc_extern Try.func110 (by kernel_rfl) (by kernel_rfl) (by kernel_rfl) (e := Extern.SlicesOverlaps.overlaps #[105, 105] #[4]) (by kernel_rfl),
      Lib.run_overlaps_apart w 105 4 81 Try.underlying105 9 Try.size78 ⟨vb, 0, none⟩ ⟨g, o, none⟩ 1 vc lb cb hne 81 81 9 (cap * 9) (by simp [World.shape?, hh2, hs2]) (by simp [World.shape?, hh, hs]) (by omega) (hv.frozen 0) (hv.frozen 9)]
    rfl
  have hdl : ((ecells p D n).drop (i * 9)).length = (n - i) * 9 := by rw [List.length_drop, ecells_len]; omega
  have hz2' : ¬ ((i : Int) = (n : Int)) := by omega
  have hw1 : IntKind.i64.wrap ((n : Int) + 1) = (n : Int) + 1 := by rw [IntKind.wrap_i64]; omega
  have hw2 : IntKind.i64.wrap ((i : Int) + 1) = (i : Int) + 1 := by rw [IntKind.wrap_i64]; omega
  have hb0 : i ≤ n := by omega
  have hb1 : (0 : Int) ≤ (i : Int) + 1 := by omega
  have htn : ((i : Int) + 1).toNat = i + 1 := by omega
  have hb2 : ¬ (cap = i + 1) := by omega
  have hb3 : (i : Int) ≤ (n : Int) + 1 := by omega
  have hb4 : ¬ (cap = i) := by omega
  have hb5 : (n : Int) + 1 ≤ (cap : Int) := by omega
  have hb6 : ((n : Int) + 1).toNat = n + 1 := by omega
  have hb7 : (0 : Int) ≤ (n : Int) + 1 := by omega
  have hcp1 : ∀ ty lx dc ly sc, Nat.min ly lx = n - i → (Builtin.copy_ #[105, 105] ty #[.slice (some ⟨g, (i + 1) * 9, none⟩) lx dc, .slice (some ⟨g, i * 9, none⟩) ly sc]).run Try.prog w.drew = .ok (goInt ((n - i : Nat) : Int)) (w.drew.setCells g ((i + 1) * 9) ((ecells p D n).drop (i * 9))) := fun ty lx dc ly sc hmin =>
    run_copy_wide w.drew 105 105 ty 81 9 g ((i + 1) * 9) lx dc ⟨g, i * 9, none⟩ ly sc _ Try.underlying105 hsz (n - i) hmin hdl
      (fun j v hj => by
        rw [List.getElem?_drop] at hj
        have hlt := (List.getElem?_eq_some_iff.1 hj).1
        rw [ecells_len] at hlt
        rw [hr6 _ hlt] at hj
        rw [Addr.add_lit]
        show w.cell? ⟨g, i * 9 + j, none⟩ = some v
        rw [hr1.cell (by omega), hj])
      (fun j hj => by
        rw [hdl] at hj
        show (w.cell? ⟨g, (i + 1) * 9 + j, none⟩).isSome = true
        rw [hr1.cell (by omega)]; rfl)
      (fun j hj => hr1.frozen _)
      (fun v hv => ecells_one p D n v (List.mem_of_mem_drop hv))
  obtain ⟨W1, hW1⟩ : ∃ W1, W1 = w.drew.setCells g ((i + 1) * 9) ((ecells p D n).drop (i * 9)) := ⟨_, rfl⟩
  obtain ⟨f2, hr1W⟩ : ∃ f2, W1.rowIs g 81 (cap * 9) f2 := by rw [hW1]; exact ⟨_, rowW_setCells _ _ w.drew f hr1⟩
  have hvW : W1.rowIs vb 81 9 (ecf q d) := by rw [hW1]; exact hv.of_block ((spanW_setCells _ _ w.drew).block vb hv.lt (by omega))
  have hcp2 : ∀ (W : World), (∀ x, W.cell? x = W1.cell? x) → (∀ x, W.frozen? x = W1.frozen? x) → ∀ ty lx dc, Nat.min 1 lx = 1 → (Builtin.copy_ #[105, 105] ty #[.slice (some ⟨g, i * 9, none⟩) lx dc, .slice (some ⟨vb, 0, none⟩) 1 vc]).run Try.prog W = .ok (goInt 1) (W.setCells g (i * 9) (ec q d)) := fun W hWc hWf ty lx dc hmin =>
    run_copy_wide W 105 105 ty 81 9 g (i * 9) lx dc ⟨vb, 0, none⟩ 1 vc _ Try.underlying105 hsz 1 hmin rfl
      (fun j v hj => by rw [hWc]; exact row_ec hvW j v hj)
      (fun j hj => by
        have hj9 : j < 9 := hj
        rw [hWc, hr1W.cell (by omega)]; rfl)
      (fun j hj => by rw [hWf]; exact hr1W.frozen _)
      (ec_one q d)
  rw [← hW1] at hcp1
  have hcpA := hcp1 3 (n - i) (cap - (i + 1)) (n + 1 - i) (cap - i) (by simp only [Nat.min_def]; split <;> omega)
  have hcpB := hcp2 W1 (fun _ => rfl) (fun _ => rfl) 3 (n + 1 - i) (cap - i) (by simp only [Nat.min_def]; split <;> omega)
  have HW1 : Hid (W1 = w.drew.setCells g ((i + 1) * 9) ((ecells p D n).drop (i * 9))) := hW1
  clear hown hr1 hr6 hr1W hvW hW1
  go_enter Try.func102, Try.ntmps102
  go_wp2_with (simp only [hov])
  go_region_law (refine step_copy_w rfl _ _ 105 105 rfl _ _ (by simp [Act.eval, Act.put]) (by simp [Act.eval, Act.put]) hcpA ?_)
  all_goals
    go_wp2_with (simp only [hcpB])
    go_ret
    refine ⟨rfl, ?_, ?_⟩
    · rw [HW1.out]
      exact ins_row (w := w.drew) HO.out hb0 hrm
    · rw [HW1.out]
      exact ((Span.of_below (Below.refl _ _).drew).trans (spanW_setCells _ _ w.drew)).trans (spanW_setCells _ _ _)

theorem t_Insert (base g n cap i vb vc : Nat) (p : Nat → SP) (D : Nat → SD) (q : SP) (d : SD) (w : World) (hown : w.ownsRow base 81 9 (.slice (some ⟨g, 0, none⟩) n cap) n (ecells p D n)) (hv : w.rowIs vb 81 9 (ecf q d)) (hne : vb ≠ g) (hi : i ≤ n) (hrm : n + 1 ≤ cap) (hcc : cap ≤ 1048578) :
    Calls Try.prog 102 #[.slice (some ⟨g, 0, none⟩) n cap, .int .i64 (i : Int), .slice (some ⟨vb, 0, none⟩) 1 vc] w fun e w' =>
      e = .returned (.slice (some ⟨g, 0, none⟩) (n + 1) cap) ∧ w'.ownsRow base 81 9 (.slice (some ⟨g, 0, none⟩) (n + 1) cap) (n + 1) (ecells (insF i q p) (insF i d D) (n + 1)) ∧ Span g (g + 1) w w' := by
  by_cases e : i = n
  · subst e
    exact t_insEnd base g i cap vb vc p D q d w hown hv hrm
  · exact t_insMid base g n cap i vb vc p D q d w hown hv hne (by omega) hrm hcc

end Go.Proofs.Ytpbebpcoeeednaa
