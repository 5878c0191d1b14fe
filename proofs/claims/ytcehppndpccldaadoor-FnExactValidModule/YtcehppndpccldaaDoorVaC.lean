/-
  How long printed texts are. No program here.
-/
import Derived.Test.YtcehppndpccldaaDoorM6
namespace Go.Proofs.YtcehppndpccldaaDoor

def szs (ns : List ByteArray) : Nat := (ns.map ByteArray.size).sum
def cN (ns : List ByteArray) : Nat := ns.length + szs ns
def cT (t : TI) : Nat := t.md.size + t.nm.size + cN t.ns
def cTs (ts : List TI) : Nat := ts.length + (ts.map cT).sum
def cE (e : EI) : Nat := e.md.size + e.nm.size + cN e.ns + cTs e.ty
def cEs (es : List EI) : Nat := es.length + (es.map cE).sum
def cD (d : DC) : Nat := d.nm.size + cTs d.ty + cEs d.ex
def cDs (ds : List DC) : Nat := ds.length + (ds.map cD).sum

theorem sum_take {α : Type} (f : α → Nat) (l : List α) (k : Nat) : ((l.take k).map f).sum ≤ (l.map f).sum := by
  conv => rhs; rw [← List.take_append_drop k l]
  rw [List.map_append, List.sum_append]
  omega
theorem mem_sum {α : Type} (f : α → Nat) {l : List α} {x : α} (h : x ∈ l) : f x ≤ (l.map f).sum := by
  induction l with
  | nil => cases h
  | cons y l ih =>
    rw [List.map_cons, List.sum_cons]
    rcases List.mem_cons.1 h with e | e
    · rw [e]; omega
    · have := ih e; omega

theorem ltF_cons (t : ByteArray) (ts : List ByteArray) : ltF (t :: ts) = t.size + ltF ts := by simp [ltF]
theorem ltF_nil : ltF [] = 0 := rfl
theorem ltF_brT (sign : ByteArray) (hs : sign.size ≤ 3) : ∀ (ah : ByteArray) (ns : List ByteArray), ah.size ≤ 2 → ltF (brT sign ah ns) ≤ 5 * ns.length + szs ns + 1
  | ah, [], _ => by rw [brT, ltF_cons, ltF_nil]; show (1 : Nat) + 0 ≤ _; omega
  | ah, n :: ns, ha => by
    rw [brT, ltF_cons, ByteArray.size_append, ByteArray.size_append, List.length_cons]
    have := ltF_brT sign hs xCm ns (by show 2 ≤ 2; omega)
    have e : szs (n :: ns) = n.size + szs ns := by simp [szs]
    omega
theorem ltF_brc (ns : List ByteArray) (sign : ByteArray) (lev : Nat) (hs : sign.size ≤ 3) : ltF (brc ns sign lev).texts ≤ 5 * ns.length + szs ns + 2 ∧ 1 ≤ ltF (brc ns sign lev).texts := by
  unfold brc
  split
  · show ltF [xOC] ≤ _ ∧ _
    rw [show ltF [xOC] = 2 from rfl]
    exact ⟨by omega, by show 1 ≤ ltF [xOC]; rw [show ltF [xOC] = 2 from rfl]; omega⟩
  · refine ⟨Nat.le_trans (ltF_brT sign hs xO ns (by show 1 ≤ 2; omega)) (by omega), ?_⟩
    show 1 ≤ ltF (brT sign xO ns)
    cases ns with
    | nil => rw [brT, ltF_cons]; show 1 ≤ 1 + _; omega
    | cons n ns =>
      rw [brT, ltF_cons, ByteArray.size_append, ByteArray.size_append]
      show 1 ≤ 1 + _ + _ + _
      omega
theorem gn_size {s : ByteArray} (h : gn s = true) : 1 ≤ s.size ∧ s.size ≤ 12 := by
  by_cases z : s.size < 1 ∨ 12 < s.size
  · rw [gn_short z] at h; cases h
  · omega
theorem fT_wt {t : TI} {f : Fm} (h : fT t = some f) : ltF f.texts + 2 * f.needs.length ≤ 8 * (1 + cT t) ∧ 1 ≤ ltF f.texts := by
  have hc : cT t = t.md.size + t.nm.size + (t.ns.length + szs t.ns) := rfl
  unfold fT at h
  refine if_some2 h (fun z h => if_some2 h (fun y e => ?_) fun _ h => none_some h) fun z4 h => ?_
  · cases e
    have hg : gn t.nm = true := by
      simp only [Bool.and_eq_true] at y
      have := y.1
      unfold gPth at this
      simp only [Bool.and_eq_true] at this
      exact this.1
    have := gn_size hg
    have e1 : ltF [pth t.md t.nm] = (pth t.md t.nm).size := by rw [ltF_cons, ltF_nil]; omega
    show ltF [pth t.md t.nm] + 2 * 0 ≤ _ ∧ 1 ≤ ltF [pth t.md t.nm]
    rw [e1]
    unfold pth
    split
    · omega
    · rw [ByteArray.size_append, ByteArray.size_append]
      have : xColon.size = 1 := rfl
      omega
  refine if_some h (fun h => ?_) none_some
  refine if_some h (fun h => if_some h (fun e => ?_) none_some) fun h => ?_
  · cases e
    have := ltF_brc t.ns xCs 1 (by show 2 ≤ 3; omega)
    rw [(brc_ok _ _ _).2.1]
    omega
  refine if_some h (fun h => ?_) none_some
  refine if_some h (fun e => by cases e; show 3 + 0 ≤ _ ∧ 1 ≤ 3; omega) fun h => ?_
  refine if_some h (fun e => by cases e; show 4 + 0 ≤ _ ∧ 1 ≤ 4; omega) fun h => ?_
  refine if_some h (fun e => by cases e; show 1 + 0 ≤ _ ∧ 1 ≤ 1; omega) fun h => ?_
  exact if_some h (fun e => by cases e; show 4 + 4 ≤ _ ∧ 1 ≤ 4; omega) none_some

/-- The stack's letters, from below and above. -/
theorem stk_len_le {F : Nat → Fm} {wt : Nat → Nat} : ∀ {k : Nat}, (∀ i, i < k → FOk (F i) ∧ ltF (F i).texts + 2 * (F i).needs.length ≤ wt i ∧ 1 ≤ ltF (F i).texts) → Vk (fun i => (F i).needs.length) k → k ≤ szW (stk F k) ∧ szW (stk F k) ≤ ((List.range k).map wt).sum
  | 0, _, _ => ⟨Nat.zero_le _, by simp [stk, szW]⟩
  | k + 1, hF, hv => by
    obtain ⟨h1, h2⟩ := stk_len_le (fun i hi => hF i (Nat.lt_succ_of_lt hi)) (hv.mono (Nat.le_succ _))
    obtain ⟨o1, o2, o3⟩ := hF k (Nat.lt_succ_self _)
    have st := stk_step o1 (by rw [stk_len]; exact hv k (Nat.lt_succ_self _))
    rw [List.range_succ, List.map_append, List.sum_append]
    have e : ([k].map wt).sum = wt k := by simp
    omega
theorem pw_le {F : Nat → Fm} {k : Nat} : (pw F k).1.size ≤ szW (stk F k) := by
  cases k with
  | zero => show (0 : Nat) ≤ _; exact Nat.zero_le _
  | succ k =>
    rw [stk, szW_app, szW_one]
    show (arnd _ _ _).size ≤ _ + (arnd _ _ _).size
    omega
theorem range_sum {α : Type} (f : α → Nat) (l : List α) (d : Nat) : ∀ k, k ≤ l.length → ((List.range k).map fun i => ((l[i]?).map f).getD d).sum = ((l.take k).map f).sum
  | 0, _ => by simp
  | k + 1, hk => by
    rw [List.range_succ, List.map_append, List.sum_append, range_sum f l d k (by omega), List.take_add_one, List.getElem?_eq_getElem (by omega), List.map_append, List.sum_append]
    have e : ((l[k]?).map f).getD d = f (l[k]'(by omega)) := by rw [List.getElem?_eq_getElem (by omega)]; rfl
    simp [e]
/-- Types. -/
theorem prT_le {ts : List TI} {k : Nat} (hk : k ≤ ts.length) (har : ∀ j, j < k → aT ts j = some (FT ts j).needs.length) (hv : Vk (fun i => (FT ts i).needs.length) k) : k ≤ szW (stk (FT ts) k) ∧ (pw (FT ts) k).1.size ≤ 8 * cTs ts ∧ szW (stk (FT ts) k) ≤ 8 * cTs ts := by
  have h := stk_len_le (F := FT ts) (wt := fun i => ((ts[i]?).map fun t => 8 * (1 + cT t)).getD 0) (k := k) (fun i hi => by
    have hit : i < ts.length := by omega
    have h1 := har i hi
    unfold aT at h1
    rw [List.getElem?_eq_getElem hit] at h1
    dsimp only [Option.bind_some] at h1
    cases hf : fT ts[i] with
    | none => rw [hf] at h1; cases h1
    | some f =>
      have e : FT ts i = f := by unfold FT; rw [List.getElem?_eq_getElem hit]; show (fT ts[i]).getD fm0 = f; rw [hf]; rfl
      rw [e, List.getElem?_eq_getElem hit]
      exact ⟨fT_ok hf, (fT_wt hf).1, (fT_wt hf).2⟩) hv
  rw [range_sum _ _ _ _ hk] at h
  have h2 := sum_take (fun t => 8 * (1 + cT t)) ts k
  have h3 : (ts.map fun t => 8 * (1 + cT t)).sum = 8 * cTs ts := by
    unfold cTs
    clear h h2 hk har hv
    induction ts with
    | nil => rfl
    | cons t ts ih => rw [List.map_cons, List.sum_cons, ih, List.map_cons, List.sum_cons, List.length_cons]; omega
  have h4 := pw_le (F := FT ts) (k := k)
  omega

theorem digs_pos (n : Nat) : 1 ≤ (digs n).size := by
  rw [digs]
  split
  · rename_i h; rw [dig_one n h]; omega
  · rw [ByteArray.size_append, dig_one _ (Nat.mod_lt _ (by omega))]; omega
theorem okT_of {ts : List TI} (h : okT ts = true) : Vk (fun i => (FT ts i).needs.length) ts.length ∧ (∀ j, j < ts.length → aT ts j = some (FT ts j).needs.length) ∧ 0 < ts.length ∧ szW (stk (FT ts) ts.length) = (prT ts).size := by
  have hvl : vld (aT ts) ts.length = some 1 := by unfold okT at h; exact beq_iff_eq.1 h
  obtain ⟨k1, k2, k3⟩ := vld_en (a := fun i => (FT ts i).needs.length) (fun j n _ hj => aT_F hj) hvl
  have hp : 0 < ts.length := by
    cases ts with
    | nil => cases h
    | cons x y => simp
  refine ⟨k1, k3, hp, ?_⟩
  obtain ⟨m, hm⟩ : ∃ m, ts.length = m + 1 := ⟨ts.length - 1, by omega⟩
  unfold prT
  have hl : (stk (FT ts) ts.length).length = 1 := by rw [stk_len, k2]
  rw [hm] at hl ⊢
  rw [stk] at hl ⊢
  have : (stk (FT ts) m).take ((stk (FT ts) m).length - (FT ts m).needs.length) = [] := List.length_eq_zero_iff.1 (by rw [List.length_append] at hl; simp only [List.length_singleton] at hl; omega)
  rw [this, List.nil_append, szW_one]
  rfl
theorem fE_wt {t : EI} {f : Fm} (h : fE t = some f) : ltF f.texts + 2 * f.needs.length ≤ 32 * (1 + cE t) ∧ 1 ≤ ltF f.texts := by
  have hc : cE t = t.md.size + t.nm.size + (t.ns.length + szs t.ns) + cTs t.ty := rfl
  have two : ∀ a : ByteArray, ltF [a] = a.size := fun a => by rw [ltF_cons, ltF_nil]; omega
  rcases fE_cases h with ⟨_, z1, z2, rfl⟩ | ⟨_, _, rfl⟩ | ⟨_, _, rfl⟩ | ⟨z, rfl⟩ | ⟨_, rfl⟩ | ⟨z, rfl⟩ | ⟨z, zt, rfl⟩ | ⟨_, rfl⟩ | ⟨_, rfl⟩ | ⟨_, rfl⟩ | ⟨_, rfl⟩
  · show ltF [shN t.num.toNat] + 2 * 0 ≤ _ ∧ 1 ≤ ltF [shN t.num.toNat]
    rw [two]
    have h1 := digs_pos t.num.toNat
    have h2 := digs_size 9 t.num.toNat (by omega) (by omega)
    unfold shN
    omega
  · show 5 + 0 ≤ _ ∧ 1 ≤ 5
    omega
  · show 4 + 0 ≤ _ ∧ 1 ≤ 4
    omega
  · have hg : gn t.nm = true := by
      unfold fE at h
      rw [if_pos z] at h
      refine if_some2 h (fun y _ => ?_) fun _ h => none_some h
      simp only [Bool.and_eq_true] at y
      have := y.1.1.1
      unfold gPth at this
      simp only [Bool.and_eq_true] at this
      exact this.1
    have := gn_size hg
    show ltF [pth t.md t.nm] + 2 * 0 ≤ _ ∧ 1 ≤ ltF [pth t.md t.nm]
    rw [two]
    unfold pth
    split
    · omega
    · rw [ByteArray.size_append, ByteArray.size_append]
      have : xColon.size = 1 := rfl
      omega
  · have := ltF_brc t.ns xEs 4 (by show 3 ≤ 3; omega)
    rw [(brc_ok _ _ _).2.1]
    omega
  · show ltF [e0, xDot ++ t.nm] + 2 * 1 ≤ _ ∧ 1 ≤ ltF [e0, xDot ++ t.nm]
    rw [ltF_cons, two, ByteArray.size_append]
    have : xDot.size = 1 := rfl
    have : e0.size = 0 := rfl
    omega
  · show ltF [xFun ++ t.nm ++ xCs ++ prT t.ty ++ xFn2, e0] + 2 * 1 ≤ _ ∧ 1 ≤ ltF [xFun ++ t.nm ++ xCs ++ prT t.ty ++ xFn2, e0]
    rw [ltF_cons, two, ByteArray.size_append, ByteArray.size_append, ByteArray.size_append, ByteArray.size_append]
    have : xFun.size = 4 := rfl
    have : xCs.size = 2 := rfl
    have : xFn2.size = 2 := rfl
    have : e0.size = 0 := rfl
    obtain ⟨k1, k2, k3, k4⟩ := okT_of zt
    have := (prT_le (Nat.le_refl _) k2 k1).2.2
    omega
  · show 2 + 4 ≤ _ ∧ 1 ≤ 2
    omega
  · show 15 + 6 ≤ _ ∧ 1 ≤ 15
    omega
  · show 3 + 4 ≤ _ ∧ 1 ≤ 3
    omega
  · show 3 + 4 ≤ _ ∧ 1 ≤ 3
    omega
theorem prE_le {ts : List EI} {k : Nat} (hk : k ≤ ts.length) (har : ∀ j, j < k → aE ts j = some (FE ts j).needs.length) (hv : Vk (fun i => (FE ts i).needs.length) k) : k ≤ szW (stk (FE ts) k) ∧ (pw (FE ts) k).1.size ≤ 32 * cEs ts ∧ szW (stk (FE ts) k) ≤ 32 * cEs ts := by
  have h := stk_len_le (F := FE ts) (wt := fun i => ((ts[i]?).map fun t => 32 * (1 + cE t)).getD 0) (k := k) (fun i hi => by
    have hit : i < ts.length := by omega
    have h1 := har i hi
    unfold aE at h1
    rw [List.getElem?_eq_getElem hit] at h1
    dsimp only [Option.bind_some] at h1
    cases hf : fE ts[i] with
    | none => rw [hf] at h1; cases h1
    | some f =>
      have e : FE ts i = f := by unfold FE; rw [List.getElem?_eq_getElem hit]; show (fE ts[i]).getD fm0 = f; rw [hf]; rfl
      rw [e, List.getElem?_eq_getElem hit]
      exact ⟨fE_ok hf, (fE_wt hf).1, (fE_wt hf).2⟩) hv
  rw [range_sum _ _ _ _ hk] at h
  have h2 := sum_take (fun t => 32 * (1 + cE t)) ts k
  have h3 : (ts.map fun t => 32 * (1 + cE t)).sum = 32 * cEs ts := by
    unfold cEs
    clear h h2 hk har hv
    induction ts with
    | nil => rfl
    | cons t ts ih => rw [List.map_cons, List.sum_cons, ih, List.map_cons, List.sum_cons, List.length_cons]; omega
  have h4 := pw_le (F := FE ts) (k := k)
  omega
theorem okE_of {ts : List EI} (h : okE ts = true) : Vk (fun i => (FE ts i).needs.length) ts.length ∧ (∀ j, j < ts.length → aE ts j = some (FE ts j).needs.length) ∧ 0 < ts.length ∧ szW (stk (FE ts) ts.length) = (prE ts).size := by
  have hvl : vld (aE ts) ts.length = some 1 := by unfold okE at h; exact beq_iff_eq.1 h
  obtain ⟨k1, k2, k3⟩ := vld_en (a := fun i => (FE ts i).needs.length) (fun j n _ hj => aE_F hj) hvl
  have hp : 0 < ts.length := by
    cases ts with
    | nil => cases h
    | cons x y => simp
  refine ⟨k1, k3, hp, ?_⟩
  obtain ⟨m, hm⟩ : ∃ m, ts.length = m + 1 := ⟨ts.length - 1, by omega⟩
  unfold prE
  have hl : (stk (FE ts) ts.length).length = 1 := by rw [stk_len, k2]
  rw [hm] at hl ⊢
  rw [stk] at hl ⊢
  have : (stk (FE ts) m).take ((stk (FE ts) m).length - (FE ts m).needs.length) = [] := List.length_eq_zero_iff.1 (by rw [List.length_append] at hl; simp only [List.length_singleton] at hl; omega)
  rw [this, List.nil_append, szW_one]
  rfl
/-- A declaration's text: from below by what the model counts first, from above by its cost. -/
theorem prD_le {d : DC} (h : okD d = true) : 4 + d.ty.length + d.ex.length ≤ (prD d).size ∧ (prD d).size ≤ 32 * cD d + 32 := by
  have hc : cD d = d.nm.size + cTs d.ty + cEs d.ex := rfl
  have x1 : xImp.size = 7 := rfl
  have x2 : xTyp.size = 5 := rfl
  have x3 : xVal.size = 4 := rfl
  have x4 : xEs.size = 3 := rfl
  have x5 : xCs.size = 2 := rfl
  have x6 : xEnd.size = 2 := rfl
  unfold okD at h
  rw [Bool.and_eq_true] at h
  obtain ⟨hg, h⟩ := h
  unfold prD
  split at h
  case isTrue z =>
    rw [if_pos z, ByteArray.size_append, ByteArray.size_append]
    simp only [Bool.and_eq_true, decide_eq_true_eq] at h
    omega
  case isFalse z =>
    rw [if_neg z]
    split at h
    case isTrue z2 =>
      rw [if_pos z2, ByteArray.size_append, ByteArray.size_append, ByteArray.size_append, ByteArray.size_append]
      simp only [Bool.and_eq_true, decide_eq_true_eq] at h
      obtain ⟨k1, k2, k3, k4⟩ := okT_of h.1
      have := prT_le (Nat.le_refl _) k2 k1
      omega
    case isFalse z2 =>
      rw [if_neg z2, ByteArray.size_append, ByteArray.size_append, ByteArray.size_append, ByteArray.size_append, ByteArray.size_append, ByteArray.size_append]
      simp only [Bool.and_eq_true, decide_eq_true_eq] at h
      obtain ⟨k1, k2, k3, k4⟩ := okT_of h.1.2
      have := prT_le (Nat.le_refl _) k2 k1
      obtain ⟨m1, m2, m3, m4⟩ := okE_of h.2
      have := prE_le (Nat.le_refl _) m2 m1
      omega

end Go.Proofs.YtcehppndpccldaaDoor
