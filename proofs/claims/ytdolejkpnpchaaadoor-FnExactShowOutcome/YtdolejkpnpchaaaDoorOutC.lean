/-
  Outcomes as text: what the text is, without a program; how long it may be.
-/
import Derived.Test.YtdolejkpnpchaaaDoorOutB
namespace Go.Proofs.YtdolejkpnpchaaaDoor
open Go.RowKit

/-- An answer: the call, the name, the revision, whether it is full, what was found. -/
structure AD where
  call : Int
  name : ByteArray
  rev : Int
  full : Bool
  nd : Nat
  dg : Nat → Int × Int
/-- A key that ran. -/
structure RD where
  kind : Int
  mod : ByteArray
  rev : Int
  wk : Int

def sp : ByteArray := ⟨#[32]⟩
def nl : ByteArray := ⟨#[10]⟩
def ahead (a : AD) : ByteArray := (((((⟨#[97, 110, 115, 119, 101, 114, 32]⟩ : ByteArray) ++ shw a.call) ++ sp) ++ a.name) ++ sp) ++ shw a.rev
def dgT (d : Int × Int) : ByteArray := ((sp ++ shw d.1) ++ ⟨#[58]⟩) ++ shw d.2
def dgsT (dg : Nat → Int × Int) : Nat → ByteArray
  | 0 => ⟨#[]⟩
  | j + 1 => dgsT dg j ++ dgT (dg j)
def fullT (a : AD) : ByteArray := if a.full = true then ⟨#[32, 102, 117, 108, 108]⟩ else ⟨#[]⟩
def ansT (A : Nat → AD) : Nat → ByteArray
  | 0 => ⟨#[]⟩
  | i + 1 => (((ansT A i ++ ahead (A i)) ++ fullT (A i)) ++ dgsT (A i).dg (A i).nd) ++ nl
def ranT1 (r : RD) : ByteArray := ((((((((⟨#[114, 97, 110, 32]⟩ : ByteArray) ++ kw r.kind) ++ sp) ++ r.mod) ++ sp) ++ shw r.rev) ++ sp) ++ shw r.wk) ++ nl
def ransT (R : Nat → RD) : Nat → ByteArray
  | 0 => ⟨#[]⟩
  | i + 1 => ransT R i ++ ranT1 (R i)
def endT (code rev drops slots : Int) : ByteArray := (((((((((⟨#[101, 110, 100, 32]⟩ : ByteArray) ++ shw code) ++ sp) ++ shw rev) ++ sp) ++ shw drops) ++ sp) ++ shw slots)) ++ nl
/-- The whole text. -/
def outT (A : Nat → AD) (n : Nat) (R : Nat → RD) (m : Nat) (code rev drops slots : Int) : ByteArray := (ansT A n ++ ransT R m) ++ endT code rev drops slots

def i64R (n : Int) : Prop := -9223372036854775808 ≤ n ∧ n ≤ 9223372036854775807
theorem shw_size {n : Int} (h : i64R n) : (shw n).size ≤ 21 := by
  have := digs_size 20 n.natAbs (by unfold i64R at h; omega) (by omega)
  unfold shw
  split
  · rw [ByteArray.size_append]; have : (⟨#[45]⟩ : ByteArray).size = 1 := rfl; omega
  · omega
theorem kw_size (k : Int) : (kw k).size ≤ 5 := by
  unfold kw
  split
  · decide
  · split
    · decide
    · split <;> decide
theorem sp_size : sp.size = 1 := rfl
theorem nl_size : nl.size = 1 := rfl
theorem dgT_size {d : Int × Int} (h : i64R d.1 ∧ i64R d.2) : (dgT d).size ≤ 44 := by
  have h1 := shw_size h.1
  have h2 := shw_size h.2
  have h3 : (⟨#[58]⟩ : ByteArray).size = 1 := rfl
  unfold dgT
  simp only [ByteArray.size_append, sp_size, h3]
  omega
theorem dgsT_size (dg : Nat → Int × Int) : ∀ j, (∀ i, i < j → i64R (dg i).1 ∧ i64R (dg i).2) → (dgsT dg j).size ≤ 44 * j
  | 0, _ => Nat.le_refl _
  | j + 1, h => by
    have h1 := dgsT_size dg j (fun i hi => h i (by omega))
    have h2 := dgT_size (h j (by omega))
    show (dgsT dg j ++ dgT (dg j)).size ≤ _
    rw [ByteArray.size_append]; omega
theorem ahead_size {a : AD} (h1 : i64R a.call) (h2 : i64R a.rev) (h3 : a.name.size ≤ 1048576) : (ahead a).size ≤ 1048700 := by
  have c1 := shw_size h1
  have c2 := shw_size h2
  have c3 : (⟨#[97, 110, 115, 119, 101, 114, 32]⟩ : ByteArray).size = 7 := rfl
  unfold ahead
  simp only [ByteArray.size_append, sp_size, c3]
  omega
theorem fullT_size (a : AD) : (fullT a).size ≤ 5 := by
  unfold fullT
  split <;> decide
/-- What an answer of the law's argument keeps. -/
structure AOk (a : AD) : Prop where
  call : i64R a.call
  rev : i64R a.rev
  name : a.name.size ≤ 1048576
  nd : a.nd ≤ 1048576
  dg : ∀ i, i < a.nd → i64R (a.dg i).1 ∧ i64R (a.dg i).2
structure ROk (r : RD) : Prop where
  kind : i64R r.kind
  rev : i64R r.rev
  wk : i64R r.wk
  mod : r.mod.size ≤ 1048576
theorem ansT_size (A : Nat → AD) : ∀ i, (∀ j, j < i → AOk (A j)) → (ansT A i).size ≤ 47200000 * i
  | 0, _ => Nat.le_refl _
  | i + 1, h => by
    have h1 := ansT_size A i (fun j hj => h j (by omega))
    have k := h i (by omega)
    have h2 := ahead_size k.call k.rev k.name
    have h3 := fullT_size (A i)
    have h4 := dgsT_size (A i).dg (A i).nd k.dg
    have h5 := k.nd
    show ((((ansT A i ++ ahead (A i)) ++ fullT (A i)) ++ dgsT (A i).dg (A i).nd) ++ nl).size ≤ _
    simp only [ByteArray.size_append, nl_size]
    omega
theorem ranT1_size {r : RD} (h : ROk r) : (ranT1 r).size ≤ 1048700 := by
  have c1 := shw_size h.rev
  have c2 := shw_size h.wk
  have c3 := kw_size r.kind
  have c4 := h.mod
  have c5 : (⟨#[114, 97, 110, 32]⟩ : ByteArray).size = 4 := rfl
  unfold ranT1
  simp only [ByteArray.size_append, sp_size, nl_size, c5]
  omega
theorem ransT_size (R : Nat → RD) : ∀ i, (∀ j, j < i → ROk (R j)) → (ransT R i).size ≤ 1048700 * i
  | 0, _ => Nat.le_refl _
  | i + 1, h => by
    have h1 := ransT_size R i (fun j hj => h j (by omega))
    have h2 := ranT1_size (h i (by omega))
    show (ransT R i ++ ranT1 (R i)).size ≤ _
    rw [ByteArray.size_append]; omega
theorem endT_size {a b c d : Int} (h1 : i64R a) (h2 : i64R b) (h3 : i64R c) (h4 : i64R d) : (endT a b c d).size ≤ 100 := by
  have c1 := shw_size h1
  have c2 := shw_size h2
  have c3 := shw_size h3
  have c4 := shw_size h4
  have c5 : (⟨#[101, 110, 100, 32]⟩ : ByteArray).size = 4 := rfl
  unfold endT
  simp only [ByteArray.size_append, sp_size, nl_size, c5]
  omega
/-- The whole text fits. -/
theorem outT_size {A : Nat → AD} {n : Nat} {R : Nat → RD} {m : Nat} {code rev drops slots : Int} (hn : n ≤ 1048576) (hm : m ≤ 1048576) (hA : ∀ j, j < n → AOk (A j)) (hR : ∀ j, j < m → ROk (R j)) (h1 : i64R code) (h2 : i64R rev) (h3 : i64R drops) (h4 : i64R slots) : (outT A n R m code rev drops slots).size ≤ 140000000000000 := by
  have a := ansT_size A n hA
  have b := ransT_size R m hR
  have c := endT_size h1 h2 h3 h4
  unfold outT
  simp only [ByteArray.size_append]
  omega
end Go.Proofs.YtdolejkpnpchaaaDoor
