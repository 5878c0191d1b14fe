/-
  Merged for the claim: RcM Src SrcEq NdA NdB.
-/
import Derived.Test.YtdjkgilohhjfoaaGreatDoorM02
import Derived.Test.YtdjkgilohhjfoaaGreatDoorM14
import Derived.Test.YtdjkgilohhjfoaaGreatDoorM00
import Derived.WalkKit
import Derived.WalkSmall
import Derived.Deep.OwnRows
import Derived.Deep.Draws
import Derived.Test.YtdjkgilohhjfoaaGreatDoorProg
import Derived.WalkSpells
import Derived.WalkLawsBesides
import Derived.Deep.QuietTactic
import Derived.BigQuiet
import Derived.Deep.RegionWith
namespace Go.Proofs.YtdjkgilohhjfoaaGreatDoor
open Go.RowKit

/-- A cell that a mark goes into: the block, the place, whether it holds a text. -/
abbrev LA := Nat × Nat × Bool
def ad (a : LA) : Nat × Nat := (a.1, a.2.1)
def lad (a : LA) : Addr := ⟨a.1, a.2.1, none⟩
def mv (a : LA) (k : Nat) : Value := if a.2.2 then .string (mt k) else .int .i64 (k : Int)

/-- A block that may be written. -/
def Wr (w : World) (b : Nat) : Prop := ∃ t n f, w.rowIs b t n f
theorem Wr.lt {w : World} {b : Nat} (h : Wr w b) : b < w.heap.size := by obtain ⟨t, n, f, h⟩ := h; exact h.lt
theorem Wr.frozen {w : World} {b : Nat} (h : Wr w b) (o : Nat) : w.frozen? ⟨b, o, none⟩ = false := by obtain ⟨t, n, f, h⟩ := h; exact h.frozen o
theorem Wr.of {w w' : World} {b : Nat} (h : Wr w b) (e : w'.heap[b]? = w.heap[b]?) : Wr w' b := by obtain ⟨t, n, f, h⟩ := h; exact ⟨t, n, f, h.of_block e⟩

def Lv (w : World) (A : List LA) : Prop := ∀ a, a ∈ A → Wr w a.1 ∧ ∃ v, w.cell? (lad a) = some v
/-- The marks stand. -/
def Hm (w : World) : List LA → Nat → Prop
  | [], _ => True
  | a :: A, x => w.cell? (lad a) = some (mv a x) ∧ Hm w A (x + 1)
theorem Hm.app {w : World} : ∀ {A B : List LA} {x : Nat}, Hm w (A ++ B) x ↔ Hm w A x ∧ Hm w B (x + A.length)
  | [], B, x => by simp [Hm]
  | a :: A, B, x => by
    rw [List.cons_append, Hm, Hm, Hm.app (A := A), List.length_cons, show x + 1 + A.length = x + (A.length + 1) by omega]
    exact and_assoc.symm
theorem Hm.cong {w w' : World} : ∀ {A : List LA} {x : Nat}, (∀ a, a ∈ A → w'.cell? (lad a) = w.cell? (lad a)) → Hm w A x → Hm w' A x
  | [], _, _, _ => trivial
  | a :: _, _, h, hm => ⟨(h a (List.mem_cons_self ..)).trans hm.1, Hm.cong (fun b hb => h b (List.mem_cons_of_mem _ hb)) hm.2⟩
theorem Hm.some {w : World} : ∀ {A : List LA} {x : Nat}, Hm w A x → ∀ a, a ∈ A → ∃ v, w.cell? (lad a) = some v
  | [], _, _, a, ha => by cases ha
  | b :: _, x, hm, a, ha => by
    rcases List.mem_cons.1 ha with z | z
    · rw [z]; exact ⟨_, hm.1⟩
    · exact Hm.some hm.2 a z

/-- Cells apart. -/
def Ds (A B : List LA) : Prop := ∀ a, a ∈ A → ∀ b, b ∈ B → ad a ≠ ad b
def Nd (A : List LA) : Prop := (A.map ad).Nodup
theorem Nd.app {A B : List LA} : Nd (A ++ B) ↔ Nd A ∧ Nd B ∧ Ds A B := by
  unfold Nd
  rw [List.map_append, List.nodup_append]
  refine ⟨fun h => ⟨h.1, h.2.1, fun a ha b hb => h.2.2 _ (List.mem_map_of_mem ha) _ (List.mem_map_of_mem hb)⟩, fun h => ⟨h.1, h.2.1, fun x hx y hy => ?_⟩⟩
  obtain ⟨a, ha, rfl⟩ := List.mem_map.1 hx
  obtain ⟨b, hb, rfl⟩ := List.mem_map.1 hy
  exact h.2.2 a ha b hb

structure Mkd (w w' : World) (A : List LA) (x : Nat) : Prop where
  os : w'.os = w.os
  tape : w'.tape = w.tape
  output : w'.output = w.output
  size : w.heap.size ≤ w'.heap.size
  block : ∀ b, b < w.heap.size → (∀ a, a ∈ A → a.1 ≠ b) → w'.heap[b]? = w.heap[b]?
  cell : ∀ c : Nat × Nat, c.1 < w.heap.size → (∀ a, a ∈ A → ad a ≠ c) → w'.cell? ⟨c.1, c.2, none⟩ = w.cell? ⟨c.1, c.2, none⟩
  at_ : Hm w' A x
  wr : ∀ b, Wr w b → Wr w' b

theorem mkd_of_below {w w' : World} (h : Below w.heap.size w w') (x : Nat) : Mkd w w' [] x :=
  ⟨h.os, h.tape, h.output, h.size, fun b hb _ => h.block b hb, fun c hc _ => h.cell (p := ⟨c.1, c.2, none⟩) hc, trivial, fun _ hb => hb.of (h.block _ hb.lt)⟩
theorem Mkd.app {w w1 w2 : World} {A B : List LA} {x y : Nat} (h1 : Mkd w w1 A x) (h2 : Mkd w1 w2 B y) (hy : y = x + A.length) (hd : Ds A B) : Mkd w w2 (A ++ B) x := by
  refine ⟨h2.os.trans h1.os, h2.tape.trans h1.tape, h2.output.trans h1.output, Nat.le_trans h1.size h2.size, fun b hb hn => ?_, fun c hc hn => ?_, ?_, fun b hb => h2.wr b (h1.wr b hb)⟩
  · rw [h2.block b (Nat.lt_of_lt_of_le hb h1.size) (fun a ha => hn a (List.mem_append_right _ ha)), h1.block b hb (fun a ha => hn a (List.mem_append_left _ ha))]
  · rw [h2.cell c (Nat.lt_of_lt_of_le hc h1.size) (fun a ha => hn a (List.mem_append_right _ ha)), h1.cell c hc (fun a ha => hn a (List.mem_append_left _ ha))]
  · rw [Hm.app]
    refine ⟨h1.at_.cong (fun a ha => ?_), by rw [← hy]; exact h2.at_⟩
    obtain ⟨v, hv⟩ := h1.at_.some a ha
    exact h2.cell (ad a) (World.block_lt_of_cell? _ _ hv) (fun b hb e => hd a ha b hb e.symm)
theorem Mkd.below {w w1 w2 : World} {A : List LA} {x : Nat} (h1 : Mkd w w1 A x) (hb : Below w1.heap.size w1 w2) : Mkd w w2 A x := by
  have := h1.app (mkd_of_below hb (x + A.length)) rfl (fun a _ b hb => by cases hb)
  rw [List.append_nil] at this
  exact this
theorem mkd_one {w : World} {b o : Nat} (t : Bool) (x : Nat) (hW : Wr w b) (hv : ∃ v, w.cell? ⟨b, o, none⟩ = some v) : Mkd w (w.setCell ⟨b, o, none⟩ (mv (b, o, t) x)) [(b, o, t)] x := by
  obtain ⟨v, hv⟩ := hv
  refine ⟨rfl, rfl, rfl, by rw [World.size_setCell]; exact Nat.le_refl _, fun k hk hn => Below.heap_setCell _ _ _ _ (by show k ≠ b; exact fun e => hn _ (List.mem_singleton.2 rfl) e.symm), fun c hc hn => World.cell?_setCell_other _ _ _ _ (fun e => ?_), ⟨World.cell?_setCell_same' _ _ _ (by rw [hv]; rfl), trivial⟩, fun k hk => ?_⟩
  · refine hn _ (List.mem_singleton.2 rfl) ?_
    have e1 := congrArg Addr.block e
    have e2 := congrArg Addr.off e
    obtain ⟨c1, c2⟩ := c
    simp only at e1 e2
    show (b, o) = (c1, c2)
    rw [e1, e2]
  · by_cases e : k = b
    · subst e
      obtain ⟨t, n, f, h⟩ := hW
      exact ⟨t, n, _, h.set o _⟩
    · exact hk.of (Below.heap_setCell _ _ _ _ (by show k ≠ b; exact e))
/-- A cell that is still to be marked. -/
theorem Mkd.look {w w1 : World} {A L : List LA} {x : Nat} (h : Mkd w w1 A x) (hl : Lv w L) {a : LA} (ha : a ∈ L) (hn : ∀ b, b ∈ A → ad b ≠ ad a) : Wr w1 a.1 ∧ ∃ v, w1.cell? (lad a) = some v := by
  obtain ⟨h1, v, hv⟩ := hl a ha
  exact ⟨h.wr _ h1, v, (h.cell (ad a) h1.lt hn).trans hv⟩
theorem Mkd.lv {w w1 : World} {A L : List LA} {x : Nat} (h : Mkd w w1 A x) (hl : Lv w L) (hd : Ds A L) : Lv w1 L := fun a ha => h.look hl ha (fun b hb => hd b hb a ha)

/-- Cells that lead on, and what they hold. -/
def HH (w : World) (H : List (Nat × Nat × Value)) : Prop := ∀ h, h ∈ H → w.cell? ⟨h.1, h.2.1, none⟩ = some h.2.2
def Sp (H : List (Nat × Nat × Value)) (A : List LA) : Prop := ∀ h, h ∈ H → ∀ a, a ∈ A → ad a ≠ (h.1, h.2.1)
theorem Mkd.hh {w w1 : World} {A : List LA} {x : Nat} (h : Mkd w w1 A x) {H : List (Nat × Nat × Value)} (hh : HH w H) (hs : Sp H A) : HH w1 H := fun c hc =>
  (h.cell (c.1, c.2.1) (World.block_lt_of_cell? _ _ (hh c hc)) (fun a ha => hs c hc a ha)).trans (hh c hc)
theorem HH.below {w w1 : World} {H : List (Nat × Nat × Value)} (hh : HH w H) (hb : Below w.heap.size w w1) : HH w1 H := fun c hc =>
  (hb.cell (p := ⟨c.1, c.2.1, none⟩) (World.block_lt_of_cell? _ _ (hh c hc))).trans (hh c hc)
theorem Hm.below {w w1 : World} {A : List LA} {x : Nat} (hm : Hm w A x) (hb : Below w.heap.size w w1) : Hm w1 A x := hm.cong fun a ha => by
  obtain ⟨v, hv⟩ := hm.some a ha
  exact hb.cell (p := lad a) (World.block_lt_of_cell? _ _ hv)

theorem mdig_len : ∀ (j k : Nat) (acc : List UInt8), k ≤ j → (mdig k acc).length ≤ k + acc.length := by
  intro j
  induction j with
  | zero => intro k acc h; have : k = 0 := by omega
            subst this; rw [mdig_zero]; omega
  | succ j ih =>
    intro k acc h
    by_cases e : k = 0
    · subst e; rw [mdig_zero]; omega
    · rw [mdig_step e]
      have := ih (k / 10) (UInt8.ofNat (48 + k % 10) :: acc) (by omega)
      rw [List.length_cons] at this
      omega

set_option maxRecDepth 100000 in
set_option maxHeartbeats 2000000 in
theorem t_markText (z : Int) (k : Nat) (w : World) (hz : z = (k : Int)) (hk : 0 < k) (hk2 : k ≤ 4611686018427387904) :
    Calls Tryz.prog 28 #[.int .i64 z] w fun e w' => e = .returned (.string (mt k)) ∧ Below w.heap.size w w' := by
  subst hz
  have h0 : ¬ (k : Int) ≤ 0 := by omega
  go_enter Tryz.func28, Tryz.ntmps28
  go_wp2
  go_loopw [3, 0] (fun o i wr => ∃ (j : Nat) (acc : ByteArray), i = .int .i64 j ∧ o = .string acc ∧ Hid (mdig j acc.data.toList = mdig k []) ∧ acc.size + j ≤ k ∧ Below w.heap.size w wr) (fun _ i _ => (intOf i).toNat)
  case atStart => exact ⟨k, ⟨#[]⟩, rfl, rfl, by show _ = _; rfl, by show 0 + k ≤ k; omega, Below.refl _ _⟩
  case round =>
    obtain ⟨j, acc, rfl, rfl, HM, hsz, hb⟩ := hrel
    by_cases hlt : 0 < j
    · have hlt' : (0 : Int) < (j : Int) := by omega
      have hcv := conv_one wr (48 + (j : Int) % 10)
      obtain ⟨sx, hsx⟩ : ∃ sx : ByteArray, sx = ⟨#[UInt8.ofNat (48 + (j : Int) % 10).toNat]⟩ := ⟨_, rfl⟩
      rw [← hsx] at hcv
      have hq : (j : Int).tdiv 10 = ((j / 10 : Nat) : Int) := by rw [Int.tdiv_eq_ediv_of_nonneg (by omega)]; omega
      have hq2 : IntKind.i64.wrap ((j / 10 : Nat) : Int) = ((j / 10 : Nat) : Int) := by rw [IntKind.wrap_i64]; omega
      have HN : Hid (mdig (j / 10) (sx ++ acc).data.toList = mdig k []) := by
        show _ = _
        rw [← HM.out, mdig_step (k := j) (by omega), hsx]
        have : (48 + (j : Int) % 10).toNat = 48 + j % 10 := by omega
        rw [this]
        simp [ByteArray.data_append]
      have one : sx.size = 1 := by rw [hsx]; rfl
      have hsz2 : (sx ++ acc).size = 1 + acc.size := by
        rw [ByteArray.size_append, one]
      have hadd := fun W => run_string_add_sum (P := Tryz.prog) (w := W) sx acc (by rw [one]; omega)
      clear hsx
      go_wp2
      go_roundw
      case rel => exact ⟨j / 10, _, by first | rfl | (rw [hq, hq2]) | simp, rfl, HN, by omega, hb.alloc hb.size _⟩
      case measure => simp [intOf]; omega
    · have hj : j = 0 := by omega
      subst hj
      have HE : Hid (mt k = (⟨#[109]⟩ : ByteArray) ++ acc) := by
        show _ = _
        have := HM.out
        rw [mdig_zero] at this
        unfold mt
        rw [← this]
        apply ByteArray.ext
        simp [ByteArray.data_append]
      go_wp2
      go_ret
      exact ⟨by rw [HE.out]; rfl, hb⟩

/-- The cells of names. -/
def lN (p : NPl) (n : Nat) : List LA := (List.range n).map fun j => (p.b, j, true)
theorem lN_succ (p : NPl) (n : Nat) : lN p (n + 1) = lN p n ++ [(p.b, n, true)] := by unfold lN; rw [List.range_succ, List.map_append]; rfl
theorem lN_len (p : NPl) (n : Nat) : (lN p n).length = n := by unfold lN; rw [List.length_map, List.length_range]
theorem mem_lN {p : NPl} {n : Nat} {a : LA} (h : a ∈ lN p n) : a.1 = p.b ∧ a.2.1 < n ∧ a.2.2 = true := by
  obtain ⟨j, hj, rfl⟩ := List.mem_map.1 h
  exact ⟨rfl, List.mem_range.1 hj, rfl⟩
theorem lN_mem {p : NPl} {n j : Nat} (h : j < n) : (p.b, j, true) ∈ lN p n := List.mem_map.2 ⟨j, List.mem_range.2 h, rfl⟩
theorem lN_sub {p : NPl} {n m : Nat} (h : n ≤ m) {a : LA} (ha : a ∈ lN p n) : a ∈ lN p m := by
  obtain ⟨j, hj, rfl⟩ := List.mem_map.1 ha
  exact lN_mem (Nat.lt_of_lt_of_le (List.mem_range.1 hj) h)
theorem lN_ds (p : NPl) (n : Nat) : Ds (lN p n) [(p.b, n, true)] := fun a ha b hb e => by
  obtain ⟨_, h2, _⟩ := mem_lN ha
  rw [List.mem_singleton.1 hb] at e
  have := congrArg Prod.snd e
  simp only [ad] at this
  omega
theorem lN_nd (p : NPl) : ∀ n, Nd (lN p n)
  | 0 => List.nodup_nil
  | n + 1 => by rw [lN_succ, Nd.app]; exact ⟨lN_nd p n, by simp [Nd], lN_ds p n⟩

end Go.Proofs.YtdjkgilohhjfoaaGreatDoor

namespace Go.Proofs.YtdjkgilohhjfoaaGreatDoor
open Go.RowKit

/-- One source, with those before it. -/
def sok (S T : Nat → ByteArray) (i : Nat) : Bool :=
  (gn (S i) && decide ((T i).size ≤ 1000)) && allTo i fun j => !((S i).toList == (S j).toList)
/-- Sources are valid. -/
def vsr (n : Nat) (S T : Nat → ByteArray) : Bool := decide (n ≤ 8) && allTo n (sok S T)

theorem vsr_big {n : Nat} {S T : Nat → ByteArray} (h : 8 < n) : vsr n S T = false := by unfold vsr; rw [decide_eq_false (by omega), Bool.false_and]
theorem vsr_no {n : Nat} {S T : Nat → ByteArray} (k : Nat) (hk : k < n) (h : sok S T k = false) : vsr n S T = false := by unfold vsr; rw [allTo_false k hk h, Bool.and_false]
theorem vsr_yes {n : Nat} {S T : Nat → ByteArray} (hn : n ≤ 8) (h : ∀ j, j < n → sok S T j = true) : vsr n S T = true := by unfold vsr; rw [decide_eq_true hn, allTo_true h]; rfl
theorem sok_name {S T : Nat → ByteArray} {i : Nat} (h : gn (S i) = false) : sok S T i = false := by unfold sok; rw [h]; simp
theorem sok_text {S T : Nat → ByteArray} {i : Nat} (h : 1000 < (T i).size) : sok S T i = false := by unfold sok; rw [decide_eq_false (by omega)]; simp
theorem sok_twice {S T : Nat → ByteArray} {i : Nat} (j : Nat) (hj : j < i) (h : (S i).toList = (S j).toList) : sok S T i = false := by
  unfold sok; rw [allTo_false j hj (by simp [h]), Bool.and_false]
theorem sok_yes {S T : Nat → ByteArray} {i : Nat} (h1 : gn (S i) = true) (h2 : (T i).size ≤ 1000) (h3 : ∀ j, j < i → (S i).toList ≠ (S j).toList) : sok S T i = true := by
  unfold sok; rw [h1, decide_eq_true h2, allTo_true (fun j hj => by simpa using h3 j hj)]; rfl

/-- A slice of sources. -/
structure SrcsAt (w : World) (ao : Option Addr) (b o n : Nat) (S T : Nat → ByteArray) : Prop where
  at_ : 0 < n → ao = some ⟨b, o, none⟩
  c0 : ∀ i, i < n → w.cell? ⟨b, o + i * 2, none⟩ = some (.string (S i))
  c1 : ∀ i, i < n → w.cell? ⟨b, o + i * 2 + 1, none⟩ = some (.string (T i))
  sizeS : ∀ i, i < n → (S i).size ≤ 9223372036854775807
  sizeT : ∀ i, i < n → (T i).size ≤ 9223372036854775807
  len : n ≤ 9223372036854775807

theorem SrcsAt.below {w w' : World} {ao : Option Addr} {b o n : Nat} {S T : Nat → ByteArray} (h : SrcsAt w ao b o n S T) (hb : Below w.heap.size w w') : SrcsAt w' ao b o n S T :=
  ⟨h.at_, fun i hi => by rw [hb.cell (p := ⟨b, o + i * 2, none⟩) (World.block_lt_of_cell? _ _ (h.c0 i hi))]; exact h.c0 i hi,
    fun i hi => by rw [hb.cell (p := ⟨b, o + i * 2 + 1, none⟩) (World.block_lt_of_cell? _ _ (h.c1 i hi))]; exact h.c1 i hi, h.sizeS, h.sizeT, h.len⟩

theorem SrcsAt.lt {w : World} {ao : Option Addr} {b o n : Nat} {S T : Nat → ByteArray} (h : SrcsAt w ao b o n S T) (hn : 0 < n) : b < w.heap.size :=
  World.block_lt_of_cell? _ _ (h.c0 0 hn)

end Go.Proofs.YtdjkgilohhjfoaaGreatDoor

namespace Go.Proofs.YtdjkgilohhjfoaaGreatDoor
open Go.RowKit

theorem sbel1 (w : World) (o1 : Obj) : Below w.heap.size w (w.alloc o1) := (Below.refl _ _).alloc (Nat.le_refl _) _
theorem sbel2 (w : World) (o1 o2 : Obj) : Below w.heap.size w ((w.alloc o1).alloc o2) := (sbel1 w o1).alloc (by simp) _
theorem sbel3 (w : World) (o1 o2 o3 : Obj) : Below w.heap.size w (((w.alloc o1).alloc o2).alloc o3) := (sbel2 w o1 o2).alloc (by simp; omega) _

set_option maxHeartbeats 1000000 in
theorem sc15 (s t : ByteArray) (w : World) :
    Calls Tryz.prog 27 #[.agg #[.string s, .string t], .agg #[.string s, .string t]] w fun e w' => e = .returned (.bool true) ∧ Below w.heap.size w w' := by
  go_enter Tryz.func27, Tryz.ntmps27
  go_wp2
  go_ret
  exact ⟨rfl, sbel2 _ _ _⟩

set_option maxHeartbeats 2000000 in
theorem sc8 (ao ao' : Option Addr) (b o c b' o' c' n : Nat) (S T : Nat → ByteArray) (w : World) (h1 : SrcsAt w ao b o n S T) (h2 : SrcsAt w ao' b' o' n S T) :
    Calls Tryz.prog 11 #[.slice ao n c, .slice ao' n c'] w fun e w' => e = .returned (.bool true) ∧ Below w.heap.size w w' := by
  have hlen := h1.len
  have HB : Hid (∀ w', Below w.heap.size w w' → SrcsAt w' ao b o n S T ∧ SrcsAt w' ao' b' o' n S T) := fun w' hb => ⟨h1.below hb, h2.below hb⟩
  have A1 := h1.at_
  have A2 := h2.at_
  clear h1 h2
  go_enter Tryz.func11, Tryz.ntmps11
  go_wp2
  go_loopw [5] (fun i wr => ∃ k : Nat, k ≤ n ∧ i = .int .i64 k ∧ Below w.heap.size w wr) (fun i _ => n - (intOf i).toNat)
  case atStart => exact ⟨0, Nat.zero_le _, rfl, Below.refl _ _⟩
  case round =>
    obtain ⟨k, hk, rfl, hb⟩ := hrel
    by_cases hlt : k < n
    · have e1 := A1 (by omega)
      have e2 := A2 (by omega)
      obtain ⟨q1, q2⟩ := HB.out wr hb
      have g0 := q1.c0 k hlt
      have g1 := q1.c1 k hlt
      have f0 := q2.c0 k hlt
      have f1 := q2.c1 k hlt
      clear q1 q2 HB
      subst e1 e2
      go_wp2
      go_region_with (go_at_call 27; refine (sc15 (S k) (T k) _).mono ?_; rintro e w' ⟨rfl, hb'⟩)
      all_goals
        go_wp2
        go_roundw
        case rel => exact ⟨k + 1, by omega, by go_num, hb.trans (Below.trans (Below.refl _ _).drew (hb'.mono hb.size))⟩
        case measure => simp [intOf]; omega
    · go_wp2
      go_ret
      exact ⟨rfl, hb⟩

/-- What a count gives: it never grows, and where it is not below 0 the thing was small. -/
structure Left (L r : Int) (q : Prop) : Prop where
  lo : -1 ≤ r
  hi : r ≤ L
  ok : 0 ≤ r → q

theorem Left.no {L : Int} {q : Prop} (h : 0 ≤ L) : Left L (-1) q := ⟨by omega, by omega, fun h => by omega⟩

set_option maxHeartbeats 1000000 in
theorem sc9 (s t : ByteArray) (L : Int) (w : World) (hL : 0 ≤ L) (hL2 : L ≤ 1048576) (hs : s.size ≤ 9223372036854775807) (ht : t.size ≤ 9223372036854775807) :
    Calls Tryz.prog 15 #[.agg #[.string s, .string t], .int .i64 L] w fun e w' => ∃ r, e = .returned (.int .i64 r) ∧ Left L r (s.size ≤ 1048576 ∧ t.size ≤ 1048576) ∧ Below w.heap.size w w' := by
  by_cases h : L - s.size < 0
  · go_enter Tryz.func15, Tryz.ntmps15
    go_wp2
    go_ret
    exact ⟨-1, rfl, Left.no hL, sbel1 _ _⟩
  · by_cases h' : L - s.size - t.size < 0
    · go_enter Tryz.func15, Tryz.ntmps15
      go_wp2
      go_ret
      exact ⟨-1, rfl, Left.no hL, sbel1 _ _⟩
    · go_enter Tryz.func15, Tryz.ntmps15
      go_wp2
      go_ret
      exact ⟨L - s.size - t.size, rfl, ⟨by omega, by omega, fun _ => by omega⟩, sbel1 _ _⟩

set_option maxHeartbeats 1000000 in
theorem sc4 (ao : Option Addr) (b o n c : Nat) (S T : Nat → ByteArray) (L : Int) (w : World) (hL : 0 ≤ L) (hL2 : L ≤ 1048576) (h1 : SrcsAt w ao b o n S T) :
    Calls Tryz.prog 4 #[.slice ao n c, .int .i64 L] w fun e w' => ∃ r, e = .returned (.int .i64 r) ∧ Left L r (n ≤ 1048576 ∧ ∀ i, i < n → (S i).size ≤ 1048576 ∧ (T i).size ≤ 1048576) ∧ Below w.heap.size w w' := by
  have HB : Hid (∀ w', Below w.heap.size w w' → SrcsAt w' ao b o n S T) := fun w' hb => h1.below hb
  have hn := h1.len
  have A1 := h1.at_
  clear h1
  by_cases h : L - n < 0
  · go_enter Tryz.func4, Tryz.ntmps4
    go_wp2
    go_ret
    exact ⟨-1, rfl, Left.no hL, Below.refl _ _⟩
  · go_enter Tryz.func4, Tryz.ntmps4
    go_wp2
    go_loopw [1, 5] (fun l i wr => ∃ (k : Nat) (x : Int), k ≤ n ∧ i = .int .i64 k ∧ l = .int .i64 x ∧ 0 ≤ x ∧ x ≤ L ∧ Below w.heap.size w wr ∧ Hid (∀ i, i < k → (S i).size ≤ 1048576 ∧ (T i).size ≤ 1048576)) (fun _ i _ => n - (intOf i).toNat)
    case atStart => exact ⟨0, L - n, Nat.zero_le _, rfl, rfl, by omega, by omega, Below.refl _ _, fun i hi => absurd hi (Nat.not_lt_zero _)⟩
    case round =>
      obtain ⟨k, x, hk, rfl, rfl, hx, hx2, hb, HA⟩ := hrel
      by_cases hlt : k < n
      · have e1 := A1 (by omega)
        have q1 := HB.out wr hb
        have g0 := q1.c0 k hlt
        have g1 := q1.c1 k hlt
        have z0 := q1.sizeS k hlt
        have z1 := q1.sizeT k hlt
        clear q1 HB
        subst e1
        go_wp2_with fail
        refine (sc9 (S k) (T k) x _ hx (by omega) z0 z1).mono ?_
        rintro e w' ⟨r, rfl, hr, hb'⟩
        by_cases h3 : r < 0
        · go_wp2
          go_ret
          exact ⟨-1, rfl, Left.no hL, hb.trans (hb'.mono hb.size)⟩
        · have r1 := hr.hi
          have HR : Hid ((S k).size ≤ 1048576 ∧ (T k).size ≤ 1048576) := hr.ok (by omega)
          clear hr
          go_wp2
          go_roundw
          case rel => exact ⟨k + 1, r, by omega, by go_num, rfl, by omega, by omega, hb.trans (hb'.mono hb.size), fun i hi => by
            by_cases e : i = k
            · subst e; exact HR.out
            · exact HA.out i (by omega)⟩
          case measure => simp [intOf]; omega
      · go_wp2
        go_ret
        exact ⟨x, rfl, ⟨by omega, by omega, fun _ => ⟨by omega, fun i hi => HA.out i (by omega)⟩⟩, hb⟩

end Go.Proofs.YtdjkgilohhjfoaaGreatDoor

namespace Go.Proofs.YtdjkgilohhjfoaaGreatDoor
open Go.RowKit

/-- A key is valid. -/
def kv (k : Int) (m : ByteArray) : Bool := decide (1 ≤ k ∧ k ≤ 3) && gn m
theorem kv_no {k : Int} {m : ByteArray} (h : ¬ (1 ≤ k ∧ k ≤ 3)) : kv k m = false := by unfold kv; rw [decide_eq_false h, Bool.false_and]
theorem kv_yes {k : Int} {m : ByteArray} (h : 1 ≤ k ∧ k ≤ 3) : kv k m = gn m := by unfold kv; rw [decide_eq_true h, Bool.true_and]
/-- The cells of keys. -/
def kyC (x : Int × ByteArray) : List Value := [.int .i64 x.1, .string x.2]
theorem kyC_len (x : Int × ByteArray) : (kyC x).length = 2 := rfl
def kysC (ks : List (Int × ByteArray)) : List Value := ks.flatMap kyC
theorem kysC_snoc (ks : List (Int × ByteArray)) (x : Int × ByteArray) : kysC (ks ++ [x]) = kysC ks ++ kyC x := by simp [kysC]
/-- A list of keys of one's own is given back. -/
def KyR (w : World) (ks : List (Int × ByteArray)) (e : Ending) (w' : World) : Prop := Below w.heap.size w w' ∧ ∃ v, e = .returned v ∧ w'.ownsRow w.heap.size 31 2 v ks.length (kysC ks)
theorem ky_cells {B n : Nat} {w : World} {a : Option Addr} {c : Nat} {ks : List (Int × ByteArray)} (h : w.ownsRow B 31 2 (.slice a n c) n (kysC ks)) (hn : n = ks.length) {k : Nat} (hk : k < n) : ∃ g x, a = some ⟨g, 0, none⟩ ∧ B ≤ g ∧ g < w.heap.size ∧ ks[k]? = some x ∧ w.cell? ⟨g, k * 2, none⟩ = some (.int .i64 x.1) ∧ w.cell? ⟨g, k * 2 + 1, none⟩ = some (.string x.2) := by
  subst hn
  obtain ⟨g, gc, ev, hB, hlt, _⟩ := own_blk h (show 0 < ks.length by omega)
  simp only [Value.slice.injEq] at ev
  obtain ⟨rfl, -, rfl⟩ := ev
  refine ⟨g, ks[k], rfl, hB, hlt, List.getElem?_eq_getElem hk, own_at (f := kyC) kyC_len h (j := k) (r := 0) rfl hk (by omega) rfl, own_at (f := kyC) kyC_len h (j := k) (r := 1) rfl hk (by omega) rfl⟩
theorem ownR_below {w w' : World} {B k m : Nat} {t : TypeId} {v : Value} {xs : List Value} (h : w.ownsRow B t k v m xs) (hb : Below w.heap.size w w') : w'.ownsRow B t k v m xs := own_block h (fun b e => hb.block b (h.lt b e.symm).2)

set_option maxHeartbeats 1000000 in
theorem e_key (k : Int) (s : ByteArray) (w : World) :
    Calls Tryz.prog 26 #[.agg #[.int .i64 k, .string s], .agg #[.int .i64 k, .string s]] w fun e w' => e = .returned (.bool true) ∧ Below w.heap.size w w' := by
  go_enter Tryz.func26, Tryz.ntmps26
  go_wp2
  go_ret
  exact ⟨rfl, bel2 _ _ _⟩

set_option maxRecDepth 100000 in
set_option maxHeartbeats 2000000 in
theorem e_keys (w : World) {B1 B2 : Nat} {v u : Value} {ks : List (Int × ByteArray)} (h1 : w.ownsRow B1 31 2 v ks.length (kysC ks)) (h2 : w.ownsRow B2 31 2 u ks.length (kysC ks)) (hl : ks.length ≤ 1000000) :
    Calls Tryz.prog 10 #[v, u] w fun e w' => e = .returned (.bool true) ∧ Below w.heap.size w w' := by
  obtain ⟨a1, c1, rfl⟩ := own_form h1
  obtain ⟨a2, c2, rfl⟩ := own_form h2
  obtain ⟨n, hn⟩ : ∃ n, n = ks.length := ⟨_, rfl⟩
  rw [← hn] at h1 h2 hl ⊢
  have HB : Hid (∀ w', Below w.heap.size w w' → w'.ownsRow B1 31 2 (.slice a1 n c1) n (kysC ks) ∧ w'.ownsRow B2 31 2 (.slice a2 n c2) n (kysC ks)) := fun w' hb => ⟨ownR_below h1 hb, ownR_below h2 hb⟩
  have HN : Hid (n = ks.length) := hn
  clear h1 h2 hn
  go_enter Tryz.func10, Tryz.ntmps10
  go_wp2
  go_loopw [5] (fun i wr => ∃ k : Nat, k ≤ n ∧ i = .int .i64 k ∧ Below w.heap.size w wr) (fun i _ => n - (intOf i).toNat)
  case atStart => exact ⟨0, Nat.zero_le _, rfl, Below.refl _ _⟩
  case round =>
    obtain ⟨k, hk, rfl, hb⟩ := hrel
    by_cases hlt : k < n
    · obtain ⟨q1, q2⟩ := HB.out wr hb
      obtain ⟨g, x, rfl, _, _, hx, g0, g1⟩ := ky_cells q1 HN.out hlt
      obtain ⟨g', x', rfl, _, _, hx', f0, f1⟩ := ky_cells q2 HN.out hlt
      obtain rfl : x = x' := Option.some.inj (hx.symm.trans hx')
      obtain ⟨kk, s⟩ := x
      simp only at g0 g1 f0 f1
      clear q1 q2 hx hx'
      go_wp2
      go_region_with (go_at_call 26; refine (e_key kk s _).mono ?_; rintro e w' ⟨rfl, hb'⟩)
      all_goals
        go_wp2
        go_roundw
        case rel => exact ⟨k + 1, by omega, by go_num, hb.trans (Below.trans (Below.refl _ _).drew (hb'.mono hb.size))⟩
        case measure => simp [intOf]; omega
    · go_wp2
      go_ret
      exact ⟨rfl, hb⟩

set_option maxHeartbeats 1000000 in
theorem z_key (k : Int) (s : ByteArray) (L : Int) (w : World) (hL : 0 ≤ L) (hL2 : L ≤ 1048576) (hs : s.size ≤ 9223372036854775807) :
    Calls Tryz.prog 5 #[.agg #[.int .i64 k, .string s], .int .i64 L] w fun e w' => ∃ r, e = .returned (.int .i64 r) ∧ Left L r (s.size ≤ 1048576) ∧ Below w.heap.size w w' := by
  by_cases h : L - s.size < 0
  · go_enter Tryz.func5, Tryz.ntmps5
    go_wp2
    go_ret
    exact ⟨-1, rfl, ⟨by omega, by omega, fun h => by omega⟩, bel1 _ _⟩
  · go_enter Tryz.func5, Tryz.ntmps5
    go_wp2
    go_ret
    exact ⟨L - s.size, rfl, ⟨by omega, by omega, fun _ => by omega⟩, bel1 _ _⟩

theorem bel3' (w : World) (o1 o2 o3 : Obj) : Below w.heap.size w (((w.alloc o1).alloc o2).alloc o3) := ((bel1 w o1).alloc (by simp) o2).alloc (by simp; omega) o3

set_option maxHeartbeats 1000000 in
theorem t_key (k : Int) (t : ByteArray) (w : World) :
    Calls Tryz.prog 8 #[.agg #[.int .i64 k, .string t]] w fun e w' => e = .returned (.agg #[.int .i64 k, .string t]) ∧ Below w.heap.size w w' := by
  go_enter Tryz.func8, Tryz.ntmps8
  go_wp2
  refine bodyPost_ret (v := .agg #[.int .i64 k, .string t]) (by simp [results, Tryz.results8, go_sem]) rfl ⟨rfl, ?_⟩
  repeat' (first | exact bel3' _ _ _ _ | refine Below.setCell ?_ ?_ _)
  all_goals (simp; try omega)

/-- The cells that the marks on keys go into. -/
def lK (p : NPl) (n : Nat) : List LA := (List.range n).flatMap fun j => [(p.b, j * 2, false), (p.b, j * 2 + 1, true)]
theorem lK_succ (p : NPl) (n : Nat) : lK p (n + 1) = (lK p n ++ [(p.b, n * 2, false)]) ++ [(p.b, n * 2 + 1, true)] := by unfold lK; rw [List.range_succ, List.flatMap_append]; simp
theorem lK_len (p : NPl) : ∀ n, (lK p n).length = n * 2
  | 0 => rfl
  | n + 1 => by rw [lK_succ, List.length_append, List.length_append, lK_len p n]; simp; omega
theorem mem_lK {p : NPl} {n : Nat} {a : LA} (h : a ∈ lK p n) : a.1 = p.b ∧ a.2.1 < n * 2 := by
  obtain ⟨j, hj, ha⟩ := List.mem_flatMap.1 h
  have := List.mem_range.1 hj
  simp only [List.mem_cons, List.not_mem_nil, or_false] at ha
  rcases ha with rfl | rfl
  · exact ⟨rfl, by show j * 2 < n * 2; omega⟩
  · exact ⟨rfl, by show j * 2 + 1 < n * 2; omega⟩
theorem lK_mem0 {p : NPl} {n j : Nat} (h : j < n) : (p.b, j * 2, false) ∈ lK p n := List.mem_flatMap.2 ⟨j, List.mem_range.2 h, by simp⟩
theorem lK_mem1 {p : NPl} {n j : Nat} (h : j < n) : (p.b, j * 2 + 1, true) ∈ lK p n := List.mem_flatMap.2 ⟨j, List.mem_range.2 h, by simp⟩
theorem lK_ds0 (p : NPl) (n : Nat) : Ds (lK p n) [(p.b, n * 2, false)] := fun a ha b hb e => by
  obtain ⟨_, h2⟩ := mem_lK ha
  rw [List.mem_singleton.1 hb] at e
  have := congrArg Prod.snd e
  simp only [ad] at this
  omega
theorem lK_ds1 (p : NPl) (n : Nat) : Ds (lK p n ++ [(p.b, n * 2, false)]) [(p.b, n * 2 + 1, true)] := fun a ha b hb e => by
  rw [List.mem_singleton.1 hb] at e
  have := congrArg Prod.snd e
  simp only [ad] at this
  rcases List.mem_append.1 ha with h | h
  · obtain ⟨_, h2⟩ := mem_lK h
    omega
  · rw [List.mem_singleton.1 h] at this
    simp only at this
    omega
theorem hm_key {w : World} {p : NPl} {x : Nat} : ∀ {n k : Nat}, Hm w (lK p n) x → k < n → w.cell? ⟨p.b, k * 2, none⟩ = some (.int .i64 ((x + k * 2 : Nat) : Int)) ∧ w.cell? ⟨p.b, k * 2 + 1, none⟩ = some (.string (mt (x + k * 2 + 1)))
  | 0, k, _, hk => absurd hk (Nat.not_lt_zero _)
  | n + 1, k, h, hk => by
    rw [lK_succ, Hm.app, Hm.app, List.length_append, lK_len] at h
    by_cases e : k = n
    · subst e
      have h1 := h.1.2.1
      have h2 := h.2.1
      refine ⟨h1, ?_⟩
      have e2 : x + (k * 2 + [(p.b, k * 2, false)].length) = x + k * 2 + 1 := by simp; omega
      rw [e2] at h2
      exact h2
    · exact hm_key h.1.1 (by omega)

end Go.Proofs.YtdjkgilohhjfoaaGreatDoor

namespace Go.Proofs.YtdjkgilohhjfoaaGreatDoor
open Go.RowKit

set_option maxRecDepth 100000 in
set_option maxHeartbeats 2000000 in
theorem t_markKeys (z : Int) (p : NPl) (n : Nat) (x : Nat) (w : World) (hz : z = (x : Int)) (ha : 0 < n → p.a = some ⟨p.b, 0, none⟩) (hl : Lv w (lK p n)) (hx1 : 1 ≤ x) (hx2 : x + n * 2 ≤ 2305843009213693952) :
    Calls Tryz.prog 13 #[.slice p.a n p.c, .int .i64 z] w fun e w' => e = .returned (.int .i64 ((x + n * 2 : Nat) : Int)) ∧ Mkd w w' (lK p n) x := by
  subst hz
  have HA : Hid (0 < n → p.a = some ⟨p.b, 0, none⟩) := ha
  have HL : Hid (Lv w (lK p n)) := hl
  have ST : Mkd w w (lK p 0) x := mkd_of_below (Below.refl _ _) x
  clear hl ha
  go_enter Tryz.func13, Tryz.ntmps13
  go_wp2
  go_loopw [1, 5] (fun y i wr => ∃ k : Nat, k ≤ n ∧ i = .int .i64 k ∧ y = .int .i64 ((x + k * 2 : Nat) : Int) ∧ Mkd w wr (lK p k) x) (fun _ i _ => n - (intOf i).toNat)
  case atStart => exact ⟨0, Nat.zero_le _, rfl, rfl, ST⟩
  case round =>
    obtain ⟨k, hk, rfl, rfl, hM⟩ := hrel
    clear ST
    by_cases hlt : k < n
    · have e1 := HA.out (by omega)
      rw [e1]
      clear e1
      have HM : Hid (Mkd w wr (lK p k) x) := hM
      obtain ⟨y, hy⟩ : ∃ y : Nat, y = x + k * 2 := ⟨_, rfl⟩
      have HX : Hid (y = x + k * 2) := hy
      have hy1 : 1 ≤ y := by omega
      have hy2 : y + 1 ≤ 2305843009215791104 := by omega
      rw [← hy]
      clear hM hy
      obtain ⟨W2, v0, k0⟩ := HM.out.look HL.out (lK_mem0 hlt) (fun b hb => lK_ds0 p k b hb _ (List.mem_singleton.2 rfl))
      have f0 := W2.frozen (k * 2)
      have k0 : wr.cell? ⟨p.b, k * 2, none⟩ = some v0 := k0
      have HN : Hid (Mkd w (wr.setCell ⟨p.b, k * 2, none⟩ (.int .i64 (y : Int))) (lK p k ++ [(p.b, k * 2, false)]) x) := HM.out.app (mkd_one (o := k * 2) false y W2 ⟨v0, k0⟩) (by rw [lK_len]; exact HX.out) (lK_ds0 p k)
      clear W2 HM
      go_wp2_with fail
      refine (t_markText _ (y + 1) _ (by omega) (by omega) (by omega)).mono ?_
      rintro e w3 ⟨rfl, hb3⟩
      have M3 := HN.out.below hb3
      obtain ⟨W3, v1, k1⟩ := M3.look HL.out (lK_mem1 hlt) (fun b hb => lK_ds1 p k b hb _ (List.mem_singleton.2 rfl))
      have f1 := W3.frozen (k * 2 + 1)
      have k1 : w3.cell? ⟨p.b, k * 2 + 1, none⟩ = some v1 := k1
      have HN2 : Hid (Mkd w (w3.setCell ⟨p.b, k * 2 + 1, none⟩ (.string (mt (y + 1)))) (lK p (k + 1)) x) := by
        have := M3.app (mkd_one (o := k * 2 + 1) true (y + 1) W3 ⟨v1, k1⟩) (by rw [List.length_append, lK_len, HX.out]; simp; omega) (lK_ds1 p k)
        rw [← lK_succ] at this
        exact this
      clear W3 M3 hb3 HN
      go_wp2
      go_roundw
      case rel => exact ⟨k + 1, by omega, by go_num, by have := HX.out; first | (congr 1; omega) | (simp; omega), HN2.out⟩
      case measure => simp [intOf]; omega
    · have hkn : k = n := by omega
      subst hkn
      have FIN : Hid (Mkd w wr (lK p k) x) := hM
      clear hM
      go_wp2
      go_ret
      exact ⟨rfl, FIN.out⟩

set_option maxRecDepth 100000 in
set_option maxHeartbeats 2000000 in
theorem t_heldKeys (z : Int) (p : NPl) (n : Nat) (x : Nat) (w : World) (hz : z = (x : Int)) (ha : 0 < n → p.a = some ⟨p.b, 0, none⟩) (hm : Hm w (lK p n) x) (hx1 : 1 ≤ x) (hx2 : x + n * 2 ≤ 2305843009213693952) :
    Calls Tryz.prog 14 #[.slice p.a n p.c, .int .i64 z] w fun e w' => e = .returned (.int .i64 ((x + n * 2 : Nat) : Int)) ∧ Below w.heap.size w w' := by
  subst hz
  have HA : Hid (0 < n → p.a = some ⟨p.b, 0, none⟩) := ha
  have HB : Hid (∀ w', Below w.heap.size w w' → Hm w' (lK p n) x) := fun w' hb => hm.below hb
  clear hm ha
  go_enter Tryz.func14, Tryz.ntmps14
  go_wp2
  go_loopw [1, 5] (fun y i wr => ∃ k : Nat, k ≤ n ∧ i = .int .i64 k ∧ y = .int .i64 ((x + k * 2 : Nat) : Int) ∧ Below w.heap.size w wr) (fun _ i _ => n - (intOf i).toNat)
  case atStart => exact ⟨0, Nat.zero_le _, rfl, rfl, Below.refl _ _⟩
  case round =>
    obtain ⟨k, hk, rfl, rfl, hb⟩ := hrel
    by_cases hlt : k < n
    · have e1 := HA.out (by omega)
      rw [e1]
      clear e1
      obtain ⟨g0, g1⟩ := hm_key (HB.out wr hb) hlt
      obtain ⟨y, hy⟩ : ∃ y : Nat, y = x + k * 2 := ⟨_, rfl⟩
      have HX : Hid (y = x + k * 2) := hy
      have hy1 : 1 ≤ y := by omega
      have hy2 : y ≤ 2305843009215791104 := by omega
      rw [← hy] at g0 g1
      rw [← hy]
      clear hy
      obtain ⟨B, hB⟩ : ∃ B, B = p.b := ⟨_, rfl⟩
      rw [← hB] at g0 g1 ⊢
      have hbl : B < wr.heap.size := World.block_lt_of_cell? _ _ g1
      clear hB
      go_wp2_with fail
      go_region_held3 (fun w' => w'.cell? ⟨B, k * 2 + 1, none⟩ = some (.string (mt (y + 1)))) (first | go_keep | assumption)
        (first | (go_at_call 28; refine (t_markText _ (y + 1) _ (by omega) (by omega) (by omega)).mono ?_; rintro e w2 ⟨rfl, hb2⟩; have z1 : w2.cell? ⟨B, k * 2 + 1, none⟩ = some (.string (mt (y + 1))) := (hb2.cell (p := ⟨B, k * 2 + 1, none⟩) hbl).trans g1))
      all_goals
        have B2 : Below w.heap.size w w2 := (hb.trans ((Below.refl _ _).drew)).trans (hb2.mono hb.size)
        go_wp2
        go_roundw
        case rel => exact ⟨k + 1, by omega, by go_num, by have := HX.out; first | (congr 1; omega) | (simp; omega), B2⟩
        case measure => simp [intOf]; omega
    · have hkn : k = n := by omega
      subst hkn
      have FIN : Hid (Below w.heap.size w wr) := hb
      clear HB
      go_wp2
      go_ret
      exact ⟨rfl, FIN.out⟩

end Go.Proofs.YtdjkgilohhjfoaaGreatDoor

