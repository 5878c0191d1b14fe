/-
  What exprForm gives, written as the program asks for it; numbers as texts.
-/
import Derived.Test.YtcehppndpccldaaDoorVeK
import Derived.Lib.AppendIntMem
namespace Go.Proofs.YtcehppndpccldaaDoor
open Go.RowKit

/-- What is left of an item must be zero. -/
def lft (ok : Bool) (num : Int) (md nm : ByteArray) (n m : Nat) : Bool := ok && decide (num = 0) && decide (md.size = 0) && decide (nm.size = 0) && decide (n = 0) && decide (m = 0)
theorem fE_1 {lim : Nat} {e : EI} (ho : e.op = 1) : fEp lim e = if lft (decide (0 ≤ e.num) && decide (e.num ≤ 999999999)) 0 e.md e.nm e.ns.length e.ty.length then some ⟨4, [], [shN e.num.toNat]⟩ else none := by
  unfold fEp fE lft
  rw [ho]
  by_cases h1 : e.md.size = 0 <;> by_cases h2 : e.ty.length = 0 <;> by_cases h3 : e.nm.size = 0 <;> by_cases h4 : e.ns.length = 0 <;> by_cases h5 : 0 ≤ e.num <;> by_cases h6 : e.num ≤ 999999999 <;> simp [h1, h2, h3, h4, h5, h6]
theorem fE_2 {lim : Nat} {e : EI} (ho : e.op = 2) : fEp lim e = if lft (decide (e.num = 0) || decide (e.num = 1)) 0 e.md e.nm e.ns.length e.ty.length then some ⟨4, [], [if e.num = 0 then xFalse else xTrue]⟩ else none := by
  unfold fEp fE lft
  rw [ho]
  by_cases h1 : e.md.size = 0 <;> by_cases h2 : e.ty.length = 0 <;> by_cases h3 : e.nm.size = 0 <;> by_cases h4 : e.ns.length = 0 <;> by_cases h5 : e.num = 0 <;> by_cases h6 : e.num = 1 <;> simp [h1, h2, h3, h4, h5, h6]
theorem fE_3 {lim : Nat} {e : EI} (ho : e.op = 3) : fEp lim e = if lft (gPth e.md e.nm) e.num ⟨#[]⟩ ⟨#[]⟩ e.ns.length e.ty.length then some ⟨4, [], [pth e.md e.nm]⟩ else none := by
  unfold fEp fE lft
  rw [ho, show decide ((⟨#[]⟩ : ByteArray).size = 0) = true from rfl]
  cases hg : gPth e.md e.nm <;> by_cases h2 : e.ty.length = 0 <;> by_cases h4 : e.ns.length = 0 <;> by_cases h5 : e.num = 0 <;> simp [h2, h4, h5]
theorem fE_4 {lim : Nat} {e : EI} (ho : e.op = 4) : fEp lim e = if lft (nmOk e.ns) e.num e.md e.nm 0 e.ty.length then some (brc e.ns xEs 4) else none := by
  unfold fEp fE lft
  rw [ho]
  cases hg : nmOk e.ns <;> by_cases h1 : e.md.size = 0 <;> by_cases h2 : e.ty.length = 0 <;> by_cases h3 : e.nm.size = 0 <;> by_cases h5 : e.num = 0 <;> simp [h1, h2, h3, h5]
theorem fE_5 {lim : Nat} {e : EI} (ho : e.op = 5) : fEp lim e = if lft (gn e.nm) e.num e.md ⟨#[]⟩ e.ns.length e.ty.length then some ⟨3, [3], [e0, xDot ++ e.nm]⟩ else none := by
  unfold fEp fE lft
  rw [ho, show decide ((⟨#[]⟩ : ByteArray).size = 0) = true from rfl]
  cases hg : gn e.nm <;> by_cases h1 : e.md.size = 0 <;> by_cases h2 : e.ty.length = 0 <;> by_cases h4 : e.ns.length = 0 <;> by_cases h5 : e.num = 0 <;> simp [h1, h2, h4, h5]
theorem fE_6 {lim : Nat} {e : EI} (ho : e.op = 6) : fEp lim e = if lft (funF e.nm (plF (fun i => (e.ty[i]?).bind fT) lim e.ty.length)).isSome e.num e.md ⟨#[]⟩ e.ns.length 0 then some ⟨0, [0], [xFun ++ e.nm ++ xCs ++ prT e.ty ++ xFn2, e0]⟩ else none := by
  rw [pl_T]
  unfold fEp fE lft
  rw [ho, show decide ((⟨#[]⟩ : ByteArray).size = 0) = true from rfl]
  cases hg : gn e.nm <;> cases hk : okT e.ty <;> by_cases h1 : e.md.size = 0 <;> by_cases h4 : e.ns.length = 0 <;> by_cases h5 : e.num = 0 <;> by_cases h6 : (prT e.ty).size ≤ lim <;> simp [h1, h4, h5, h6, funF, hg] <;> omega
theorem fE_6f {lim : Nat} {e : EI} {f : Fm} (h : funF e.nm (plF (fun i => (e.ty[i]?).bind fT) lim e.ty.length) = some f) : f = ⟨0, [0], [xFun ++ e.nm ++ xCs ++ prT e.ty ++ xFn2, e0]⟩ := by
  rw [pl_T] at h
  unfold funF at h
  split at h
  · rename_i x hx
    split at hx
    · cases hx
      split at h
      · cases h; rfl
      · cases h
    · cases hx
  · cases h
theorem fE_b {lim : Nat} {e : EI} {o : Int} (ho : e.op = o) : (o = 7 → fEp lim e = if lft true e.num e.md e.nm e.ns.length e.ty.length then some ⟨3, [3, 0], [e0, sL, sR]⟩ else none) ∧ (o = 8 → fEp lim e = if lft true e.num e.md e.nm e.ns.length e.ty.length then some ⟨0, [0, 0, 0], [xIf, xThen, xElse, e0]⟩ else none) ∧ (o = 9 → fEp lim e = if lft true e.num e.md e.nm e.ns.length e.ty.length then some ⟨2, [2, 3], [e0, xAdd, e0]⟩ else none) ∧ (o = 10 → fEp lim e = if lft true e.num e.md e.nm e.ns.length e.ty.length then some ⟨1, [2, 2], [e0, xLess, e0]⟩ else none) := by
  unfold fEp fE lft
  rw [ho]
  refine ⟨?_, ?_, ?_, ?_⟩ <;>
  · intro z
    subst z
    by_cases h1 : e.md.size = 0 <;> by_cases h2 : e.ty.length = 0 <;> by_cases h3 : e.nm.size = 0 <;> by_cases h4 : e.ns.length = 0 <;> by_cases h5 : e.num = 0 <;> simp [h1, h2, h3, h4, h5]
theorem fE_else {lim : Nat} {e : EI} (h : ¬ e.op = 1 ∧ ¬ e.op = 2 ∧ ¬ e.op = 3 ∧ ¬ e.op = 4 ∧ ¬ e.op = 5 ∧ ¬ e.op = 6 ∧ ¬ e.op = 7 ∧ ¬ e.op = 8 ∧ ¬ e.op = 9 ∧ ¬ e.op = 10) : fEp lim e = none := by
  obtain ⟨h1, h2, h3, h4, h5, h6, h7, h8, h9, h10⟩ := h
  unfold fEp fE
  simp [h1, h2, h3, h4, h5, h6, h7, h8, h9, h10]
theorem ite_isSome {c : Bool} {F : Fm} {ff : Option Fm} (h : ff = if c then some F else none) : c = ff.isSome := by
  rw [h]
  cases c <;> rfl
theorem ite_eq {c : Bool} {F f : Fm} {ff : Option Fm} (h : ff = if c then some F else none) (hf : ff = some f) : f = F := by
  rw [h] at hf
  split at hf
  · cases hf; rfl
  · cases hf

theorem grow_below (w : World) (k : Nat) (os : Array Obj) : Below w.heap.size w (Go.Sort.grow (w.drewN k) os) := by
  refine ⟨rfl, rfl, rfl, ?_, fun x hx => ?_⟩
  · show w.heap.size ≤ (w.heap ++ os).size
    simp
  · show (w.heap ++ os)[x]? = _
    exact Array.getElem?_append_left hx
/-- Numbers as texts. -/
def i64R (n : Int) : Prop := -9223372036854775808 ≤ n ∧ n ≤ 9223372036854775807
def Ten (w : World) : Prop := Lib.TabIs Tryd.prog w "internal/strconv.uint64pow10" .u64 Lib.pow10Tab
theorem Ten.below {w w' : World} (h : Ten w) (hb : Below w.heap.size w w') : Ten w' := Lib.tabBelow_of_tabIs h w' hb
theorem digs_dec : ∀ n : Nat, (digs n).data.toList = Lib.decDigits n := by
  intro n
  induction n using Nat.strongRecOn with
  | _ n ih =>
    have one : ∀ d, d < 10 → (digits10.extract d (d + 1)).data.toList = [UInt8.ofNat (48 + d)] := by
      intro d hd
      have : ∀ d : Fin 10, (digits10.extract d.val (d.val + 1)).data.toList = [UInt8.ofNat (48 + d.val)] := by decide
      exact this ⟨d, hd⟩
    rw [digs, Lib.decDigits]
    by_cases h : n < 10
    · rw [if_pos h, dif_pos h]; exact one n h
    · rw [if_neg h, dif_neg h, ByteArray.data_append, Array.toList_append, ih (n / 10) (by omega), one (n % 10) (by omega)]
theorem itoa_digs {n : Int} (h : 0 ≤ n) : (⟨(Lib.itoa n).toArray⟩ : ByteArray) = shN n.toNat := by
  apply ByteArray.ext
  show (Lib.itoa n).toArray = _
  rw [← Array.toArray_toList (xs := (shN n.toNat).data)]
  congr 1
  unfold Lib.itoa shN
  rw [if_neg (by omega), digs_dec]
theorem p_itoa (n : Int) (h : i64R n) (w : World) (ht : Ten w) :
    Calls Tryd.prog 65 #[.int .i64 n] w fun e w' => (∃ x : ByteArray, e = .returned (.string x) ∧ (0 ≤ n → x = shN n.toNat)) ∧ Below w.heap.size w w' := by
  refine (Tryd.strconv_Itoa n h.1 h.2 w ht).mono ?_
  rintro e w' ⟨rfl, k, os, rfl⟩
  exact ⟨⟨_, rfl, fun h0 => itoa_digs h0⟩, grow_below w k os⟩

end Go.Proofs.YtcehppndpccldaaDoor
