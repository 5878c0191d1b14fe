/-
  Merged for the claim: Mark RcB RcC.
-/
import Derived.Test.YtmcbmcjbgjnbhaaGreatDoorTokens
import Derived.Laws.BytesString
import Derived.Test.YtmcbmcjbgjnbhaaGreatDoorM28
namespace Go.Proofs.YtmcbmcjbgjnbhaaGreatDoor
open Go.RowKit

/-- The digits of a number, ahead of what is there. -/
def mdig (k : Nat) (acc : List UInt8) : List UInt8 := if k = 0 then acc else mdig (k / 10) (UInt8.ofNat (48 + k % 10) :: acc)
termination_by k
decreasing_by omega
theorem mdig_zero (acc : List UInt8) : mdig 0 acc = acc := by rw [mdig, if_pos rfl]
theorem mdig_step {k : Nat} (h : k ≠ 0) (acc : List UInt8) : mdig k acc = mdig (k / 10) (UInt8.ofNat (48 + k % 10) :: acc) := by
  rw [mdig, if_neg h]

/-- The text that marks a number above 0. -/
def mt (k : Nat) : ByteArray := ⟨(109 :: mdig k []).toArray⟩

theorem conv_one (W : World) (n : Int) : (convert 61 9 (.slice (some ⟨W.heap.size, 0, none⟩) 1 1)).run Tryz.prog (W.alloc (.cells #[.int .u8 n] 5)) = .ok (.string ⟨#[UInt8.ofNat n.toNat]⟩) (W.alloc (.cells #[.int .u8 n] 5)) := by
  rw [run_convert_bytes_string _ 61 9 5 _ 1 1 Tryz.underlying61 Tryz.underlying5 Tryz.underlying9]
  have := run_bytesToString (P := Tryz.prog) (W.alloc (.cells #[.int .u8 n] 5)) ⟨W.heap.size, 0, none⟩ 1 1 [n] (run_loadCells_list _ ⟨W.heap.size, 0, none⟩ [.int .u8 n] (cell_one_new W (.int .u8 n) 5))
  exact this

set_option maxRecDepth 100000 in
set_option maxHeartbeats 2000000 in
theorem c23 (k : Nat) (w : World) (hk : 0 < k) (hk2 : k ≤ 1000000) :
    Calls Tryz.prog 21 #[.int .i64 (k : Int)] w fun e w' => e = .returned (.string (mt k)) ∧ Below w.heap.size w w' := by
  have h0 : ¬ (k : Int) ≤ 0 := by omega
  go_enter Tryz.func21, Tryz.ntmps21
  go_wp2
  go_loopw [3, 0] (fun o i wr => ∃ (j : Nat) (acc : ByteArray), i = .int .i64 j ∧ o = .string acc ∧ Hid (mdig j acc.data.toList = mdig k []) ∧ acc.size + j ≤ k ∧ Below w.heap.size w wr) (fun _ i _ => (intOf i).toNat)
  case atStart => exact ⟨k, ⟨#[]⟩, rfl, rfl, by show _ = _; rfl, by show 0 + k ≤ k; omega, Below.refl _ _⟩
  case round =>
    obtain ⟨j, acc, rfl, rfl, HM, hsz, hb⟩ := hrel
    by_cases hlt : 0 < j
    · have hlt' : (0 : Int) < (j : Int) := by omega
      have hcv := conv_one wr (48 + (j : Int) % 10)
      obtain ⟨sx, hsx⟩ : ∃ sx : ByteArray, sx = ⟨#[UInt8.ofNat (48 + (j : Int) % 10).toNat]⟩ := ⟨_, rfl⟩
      rw [← hsx] at hcv
      have hq : (j : Int).tdiv 10 = ((j / 10 : Nat) : Int) := by rw [Int.tdiv_eq_ediv_of_nonneg (by omega)]; omega
      have hq2 : IntKind.i64.wrap ((j / 10 : Nat) : Int) = ((j / 10 : Nat) : Int) := by rw [IntKind.wrap_i64]; omega
      have HN : Hid (mdig (j / 10) (sx ++ acc).data.toList = mdig k []) := by
        show _ = _
        rw [← HM.out, mdig_step (k := j) (by omega), hsx]
        have : (48 + (j : Int) % 10).toNat = 48 + j % 10 := by omega
        rw [this]
        simp [ByteArray.data_append]
      have one : sx.size = 1 := by rw [hsx]; rfl
      have hsz2 : (sx ++ acc).size = 1 + acc.size := by
        rw [ByteArray.size_append, one]
      have hadd := fun W => run_string_add_sum (P := Tryz.prog) (w := W) sx acc (by rw [one]; omega)
      clear hsx
      go_wp2
      go_roundw
      case rel => exact ⟨j / 10, _, by first | rfl | (rw [hq, hq2]) | simp, rfl, HN, by omega, hb.alloc hb.size _⟩
      case measure => simp [intOf]; omega
    · have hj : j = 0 := by omega
      subst hj
      have HE : Hid (mt k = (⟨#[109]⟩ : ByteArray) ++ acc) := by
        show _ = _
        have := HM.out
        rw [mdig_zero] at this
        unfold mt
        rw [← this]
        apply ByteArray.ext
        simp [ByteArray.data_append]
      go_wp2
      go_ret
      exact ⟨by rw [HE.out]; rfl, hb⟩

end Go.Proofs.YtmcbmcjbgjnbhaaGreatDoor

namespace Go.Proofs.YtmcbmcjbgjnbhaaGreatDoor
open Go.RowKit

/-- A cell that a mark goes into: the block, the place, whether it holds a text. -/
abbrev LA := Nat × Nat × Bool
def ad (a : LA) : Nat × Nat := (a.1, a.2.1)
def lad (a : LA) : Addr := ⟨a.1, a.2.1, none⟩
def mv (a : LA) (k : Nat) : Value := if a.2.2 then .string (mt k) else .int .i64 (k : Int)

/-- A block that may be written. -/
def Wr (w : World) (b : Nat) : Prop := ∃ t n f, w.rowIs b t n f
theorem Wr.lt {w : World} {b : Nat} (h : Wr w b) : b < w.heap.size := by obtain ⟨t, n, f, h⟩ := h; exact h.lt
theorem Wr.frozen {w : World} {b : Nat} (h : Wr w b) (o : Nat) : w.frozen? ⟨b, o, none⟩ = false := by obtain ⟨t, n, f, h⟩ := h; exact h.frozen o
theorem Wr.of {w w' : World} {b : Nat} (h : Wr w b) (e : w'.heap[b]? = w.heap[b]?) : Wr w' b := by obtain ⟨t, n, f, h⟩ := h; exact ⟨t, n, f, h.of_block e⟩

def Lv (w : World) (A : List LA) : Prop := ∀ a, a ∈ A → Wr w a.1 ∧ ∃ v, w.cell? (lad a) = some v
/-- The marks stand. -/
def Hm (w : World) : List LA → Nat → Prop
  | [], _ => True
  | a :: A, x => w.cell? (lad a) = some (mv a x) ∧ Hm w A (x + 1)
theorem Hm.app {w : World} : ∀ {A B : List LA} {x : Nat}, Hm w (A ++ B) x ↔ Hm w A x ∧ Hm w B (x + A.length)
  | [], B, x => by simp [Hm]
  | a :: A, B, x => by
    rw [List.cons_append, Hm, Hm, Hm.app (A := A), List.length_cons, show x + 1 + A.length = x + (A.length + 1) by omega]
    exact and_assoc.symm
theorem Hm.cong {w w' : World} : ∀ {A : List LA} {x : Nat}, (∀ a, a ∈ A → w'.cell? (lad a) = w.cell? (lad a)) → Hm w A x → Hm w' A x
  | [], _, _, _ => trivial
  | a :: _, _, h, hm => ⟨(h a (List.mem_cons_self ..)).trans hm.1, Hm.cong (fun b hb => h b (List.mem_cons_of_mem _ hb)) hm.2⟩
theorem Hm.some {w : World} : ∀ {A : List LA} {x : Nat}, Hm w A x → ∀ a, a ∈ A → ∃ v, w.cell? (lad a) = some v
  | [], _, _, a, ha => by cases ha
  | b :: _, x, hm, a, ha => by
    rcases List.mem_cons.1 ha with z | z
    · rw [z]; exact ⟨_, hm.1⟩
    · exact Hm.some hm.2 a z

/-- Cells apart. -/
def Ds (A B : List LA) : Prop := ∀ a, a ∈ A → ∀ b, b ∈ B → ad a ≠ ad b
def Nd (A : List LA) : Prop := (A.map ad).Nodup
theorem Nd.app {A B : List LA} : Nd (A ++ B) ↔ Nd A ∧ Nd B ∧ Ds A B := by
  unfold Nd
  rw [List.map_append, List.nodup_append]
  refine ⟨fun h => ⟨h.1, h.2.1, fun a ha b hb => h.2.2 _ (List.mem_map_of_mem ha) _ (List.mem_map_of_mem hb)⟩, fun h => ⟨h.1, h.2.1, fun x hx y hy => ?_⟩⟩
  obtain ⟨a, ha, rfl⟩ := List.mem_map.1 hx
  obtain ⟨b, hb, rfl⟩ := List.mem_map.1 hy
  exact h.2.2 a ha b hb

structure Mkd (w w' : World) (A : List LA) (x : Nat) : Prop where
  os : w'.os = w.os
  tape : w'.tape = w.tape
  output : w'.output = w.output
  size : w.heap.size ≤ w'.heap.size
  block : ∀ b, b < w.heap.size → (∀ a, a ∈ A → a.1 ≠ b) → w'.heap[b]? = w.heap[b]?
  cell : ∀ c : Nat × Nat, c.1 < w.heap.size → (∀ a, a ∈ A → ad a ≠ c) → w'.cell? ⟨c.1, c.2, none⟩ = w.cell? ⟨c.1, c.2, none⟩
  at_ : Hm w' A x
  wr : ∀ b, Wr w b → Wr w' b

theorem mkd_of_below {w w' : World} (h : Below w.heap.size w w') (x : Nat) : Mkd w w' [] x :=
  ⟨h.os, h.tape, h.output, h.size, fun b hb _ => h.block b hb, fun c hc _ => h.cell (p := ⟨c.1, c.2, none⟩) hc, trivial, fun _ hb => hb.of (h.block _ hb.lt)⟩
theorem Mkd.app {w w1 w2 : World} {A B : List LA} {x y : Nat} (h1 : Mkd w w1 A x) (h2 : Mkd w1 w2 B y) (hy : y = x + A.length) (hd : Ds A B) : Mkd w w2 (A ++ B) x := by
  refine ⟨h2.os.trans h1.os, h2.tape.trans h1.tape, h2.output.trans h1.output, Nat.le_trans h1.size h2.size, fun b hb hn => ?_, fun c hc hn => ?_, ?_, fun b hb => h2.wr b (h1.wr b hb)⟩
  · rw [h2.block b (Nat.lt_of_lt_of_le hb h1.size) (fun a ha => hn a (List.mem_append_right _ ha)), h1.block b hb (fun a ha => hn a (List.mem_append_left _ ha))]
  · rw [h2.cell c (Nat.lt_of_lt_of_le hc h1.size) (fun a ha => hn a (List.mem_append_right _ ha)), h1.cell c hc (fun a ha => hn a (List.mem_append_left _ ha))]
  · rw [Hm.app]
    refine ⟨h1.at_.cong (fun a ha => ?_), by rw [← hy]; exact h2.at_⟩
    obtain ⟨v, hv⟩ := h1.at_.some a ha
    exact h2.cell (ad a) (World.block_lt_of_cell? _ _ hv) (fun b hb e => hd a ha b hb e.symm)
theorem Mkd.below {w w1 w2 : World} {A : List LA} {x : Nat} (h1 : Mkd w w1 A x) (hb : Below w1.heap.size w1 w2) : Mkd w w2 A x := by
  have := h1.app (mkd_of_below hb (x + A.length)) rfl (fun a _ b hb => by cases hb)
  rw [List.append_nil] at this
  exact this
theorem mkd_one {w : World} {b o : Nat} (t : Bool) (x : Nat) (hW : Wr w b) (hv : ∃ v, w.cell? ⟨b, o, none⟩ = some v) : Mkd w (w.setCell ⟨b, o, none⟩ (mv (b, o, t) x)) [(b, o, t)] x := by
  obtain ⟨v, hv⟩ := hv
  refine ⟨rfl, rfl, rfl, by rw [World.size_setCell]; exact Nat.le_refl _, fun k hk hn => Below.heap_setCell _ _ _ _ (by show k ≠ b; exact fun e => hn _ (List.mem_singleton.2 rfl) e.symm), fun c hc hn => World.cell?_setCell_other _ _ _ _ (fun e => ?_), ⟨World.cell?_setCell_same' _ _ _ (by rw [hv]; rfl), trivial⟩, fun k hk => ?_⟩
  · refine hn _ (List.mem_singleton.2 rfl) ?_
    have e1 := congrArg Addr.block e
    have e2 := congrArg Addr.off e
    obtain ⟨c1, c2⟩ := c
    simp only at e1 e2
    show (b, o) = (c1, c2)
    rw [e1, e2]
  · by_cases e : k = b
    · subst e
      obtain ⟨t, n, f, h⟩ := hW
      exact ⟨t, n, _, h.set o _⟩
    · exact hk.of (Below.heap_setCell _ _ _ _ (by show k ≠ b; exact e))
/-- A cell that is still to be marked. -/
theorem Mkd.look {w w1 : World} {A L : List LA} {x : Nat} (h : Mkd w w1 A x) (hl : Lv w L) {a : LA} (ha : a ∈ L) (hn : ∀ b, b ∈ A → ad b ≠ ad a) : Wr w1 a.1 ∧ ∃ v, w1.cell? (lad a) = some v := by
  obtain ⟨h1, v, hv⟩ := hl a ha
  exact ⟨h.wr _ h1, v, (h.cell (ad a) h1.lt hn).trans hv⟩
theorem Mkd.lv {w w1 : World} {A L : List LA} {x : Nat} (h : Mkd w w1 A x) (hl : Lv w L) (hd : Ds A L) : Lv w1 L := fun a ha => h.look hl ha (fun b hb => hd b hb a ha)

/-- Cells that lead on, and what they hold. -/
def HH (w : World) (H : List (Nat × Nat × Value)) : Prop := ∀ h, h ∈ H → w.cell? ⟨h.1, h.2.1, none⟩ = some h.2.2
def Sp (H : List (Nat × Nat × Value)) (A : List LA) : Prop := ∀ h, h ∈ H → ∀ a, a ∈ A → ad a ≠ (h.1, h.2.1)
theorem Mkd.hh {w w1 : World} {A : List LA} {x : Nat} (h : Mkd w w1 A x) {H : List (Nat × Nat × Value)} (hh : HH w H) (hs : Sp H A) : HH w1 H := fun c hc =>
  (h.cell (c.1, c.2.1) (World.block_lt_of_cell? _ _ (hh c hc)) (fun a ha => hs c hc a ha)).trans (hh c hc)
theorem HH.below {w w1 : World} {H : List (Nat × Nat × Value)} (hh : HH w H) (hb : Below w.heap.size w w1) : HH w1 H := fun c hc =>
  (hb.cell (p := ⟨c.1, c.2.1, none⟩) (World.block_lt_of_cell? _ _ (hh c hc))).trans (hh c hc)
theorem Hm.below {w w1 : World} {A : List LA} {x : Nat} (hm : Hm w A x) (hb : Below w.heap.size w w1) : Hm w1 A x := hm.cong fun a ha => by
  obtain ⟨v, hv⟩ := hm.some a ha
  exact hb.cell (p := lad a) (World.block_lt_of_cell? _ _ hv)

theorem mdig_len : ∀ (j k : Nat) (acc : List UInt8), k ≤ j → (mdig k acc).length ≤ k + acc.length := by
  intro j
  induction j with
  | zero => intro k acc h; have : k = 0 := by omega
            subst this; rw [mdig_zero]; omega
  | succ j ih =>
    intro k acc h
    by_cases e : k = 0
    · subst e; rw [mdig_zero]; omega
    · rw [mdig_step e]
      have := ih (k / 10) (UInt8.ofNat (48 + k % 10) :: acc) (by omega)
      rw [List.length_cons] at this
      omega

set_option maxRecDepth 100000 in
set_option maxHeartbeats 2000000 in
theorem t_markText (z : Int) (k : Nat) (w : World) (hz : z = (k : Int)) (hk : 0 < k) (hk2 : k ≤ 4611686018427387904) :
    Calls Tryz.prog 21 #[.int .i64 z] w fun e w' => e = .returned (.string (mt k)) ∧ Below w.heap.size w w' := by
  subst hz
  have h0 : ¬ (k : Int) ≤ 0 := by omega
  go_enter Tryz.func21, Tryz.ntmps21
  go_wp2
  go_loopw [3, 0] (fun o i wr => ∃ (j : Nat) (acc : ByteArray), i = .int .i64 j ∧ o = .string acc ∧ Hid (mdig j acc.data.toList = mdig k []) ∧ acc.size + j ≤ k ∧ Below w.heap.size w wr) (fun _ i _ => (intOf i).toNat)
  case atStart => exact ⟨k, ⟨#[]⟩, rfl, rfl, by show _ = _; rfl, by show 0 + k ≤ k; omega, Below.refl _ _⟩
  case round =>
    obtain ⟨j, acc, rfl, rfl, HM, hsz, hb⟩ := hrel
    by_cases hlt : 0 < j
    · have hlt' : (0 : Int) < (j : Int) := by omega
      have hcv := conv_one wr (48 + (j : Int) % 10)
      obtain ⟨sx, hsx⟩ : ∃ sx : ByteArray, sx = ⟨#[UInt8.ofNat (48 + (j : Int) % 10).toNat]⟩ := ⟨_, rfl⟩
      rw [← hsx] at hcv
      have hq : (j : Int).tdiv 10 = ((j / 10 : Nat) : Int) := by rw [Int.tdiv_eq_ediv_of_nonneg (by omega)]; omega
      have hq2 : IntKind.i64.wrap ((j / 10 : Nat) : Int) = ((j / 10 : Nat) : Int) := by rw [IntKind.wrap_i64]; omega
      have HN : Hid (mdig (j / 10) (sx ++ acc).data.toList = mdig k []) := by
        show _ = _
        rw [← HM.out, mdig_step (k := j) (by omega), hsx]
        have : (48 + (j : Int) % 10).toNat = 48 + j % 10 := by omega
        rw [this]
        simp [ByteArray.data_append]
      have one : sx.size = 1 := by rw [hsx]; rfl
      have hsz2 : (sx ++ acc).size = 1 + acc.size := by
        rw [ByteArray.size_append, one]
      have hadd := fun W => run_string_add_sum (P := Tryz.prog) (w := W) sx acc (by rw [one]; omega)
      clear hsx
      go_wp2
      go_roundw
      case rel => exact ⟨j / 10, _, by first | rfl | (rw [hq, hq2]) | simp, rfl, HN, by omega, hb.alloc hb.size _⟩
      case measure => simp [intOf]; omega
    · have hj : j = 0 := by omega
      subst hj
      have HE : Hid (mt k = (⟨#[109]⟩ : ByteArray) ++ acc) := by
        show _ = _
        have := HM.out
        rw [mdig_zero] at this
        unfold mt
        rw [← this]
        apply ByteArray.ext
        simp [ByteArray.data_append]
      go_wp2
      go_ret
      exact ⟨by rw [HE.out]; rfl, hb⟩

/-- The cells of names. -/
def lN (p : NPl) (n : Nat) : List LA := (List.range n).map fun j => (p.b, j, true)
theorem lN_succ (p : NPl) (n : Nat) : lN p (n + 1) = lN p n ++ [(p.b, n, true)] := by unfold lN; rw [List.range_succ, List.map_append]; rfl
theorem lN_len (p : NPl) (n : Nat) : (lN p n).length = n := by unfold lN; rw [List.length_map, List.length_range]
theorem mem_lN {p : NPl} {n : Nat} {a : LA} (h : a ∈ lN p n) : a.1 = p.b ∧ a.2.1 < n ∧ a.2.2 = true := by
  obtain ⟨j, hj, rfl⟩ := List.mem_map.1 h
  exact ⟨rfl, List.mem_range.1 hj, rfl⟩
theorem lN_mem {p : NPl} {n j : Nat} (h : j < n) : (p.b, j, true) ∈ lN p n := List.mem_map.2 ⟨j, List.mem_range.2 h, rfl⟩
theorem lN_sub {p : NPl} {n m : Nat} (h : n ≤ m) {a : LA} (ha : a ∈ lN p n) : a ∈ lN p m := by
  obtain ⟨j, hj, rfl⟩ := List.mem_map.1 ha
  exact lN_mem (Nat.lt_of_lt_of_le (List.mem_range.1 hj) h)
theorem lN_ds (p : NPl) (n : Nat) : Ds (lN p n) [(p.b, n, true)] := fun a ha b hb e => by
  obtain ⟨_, h2, _⟩ := mem_lN ha
  rw [List.mem_singleton.1 hb] at e
  have := congrArg Prod.snd e
  simp only [ad] at this
  omega
theorem lN_nd (p : NPl) : ∀ n, Nd (lN p n)
  | 0 => List.nodup_nil
  | n + 1 => by rw [lN_succ, Nd.app]; exact ⟨lN_nd p n, by simp [Nd], lN_ds p n⟩

set_option maxRecDepth 100000 in
set_option maxHeartbeats 2000000 in
theorem t_markNames (z : Int) (p : NPl) (n : Nat) (x : Nat) (w : World) (hz : z = (x : Int)) (ha : 0 < n → p.a = some ⟨p.b, 0, none⟩) (hl : Lv w (lN p n)) (hx1 : 1 ≤ x) (hx2 : x + n ≤ 2305843009213693952) :
    Calls Tryz.prog 11 #[.slice p.a n p.c, .int .i64 z] w fun e w' => e = .returned (.int .i64 ((x + n : Nat) : Int)) ∧ Mkd w w' (lN p n) x := by
  subst hz
  have HA : Hid (0 < n → p.a = some ⟨p.b, 0, none⟩) := ha
  have HL : Hid (Lv w (lN p n)) := hl
  have ST : Mkd w w (lN p 0) x := mkd_of_below (Below.refl _ _) x
  clear hl ha
  go_enter Tryz.func11, Tryz.ntmps11
  go_wp2
  go_loopw [1, 5] (fun y i wr => ∃ k : Nat, k ≤ n ∧ i = .int .i64 k ∧ y = .int .i64 ((x + k : Nat) : Int) ∧ Mkd w wr (lN p k) x) (fun _ i _ => n - (intOf i).toNat)
  case atStart => exact ⟨0, Nat.zero_le _, rfl, rfl, ST⟩
  case round =>
    obtain ⟨k, hk, rfl, rfl, hM⟩ := hrel
    clear ST
    by_cases hlt : k < n
    · have e1 := HA.out (by omega)
      rw [e1]
      clear e1
      have HM : Hid (Mkd w wr (lN p k) x) := hM
      obtain ⟨y, hy⟩ : ∃ y : Nat, y = x + k := ⟨_, rfl⟩
      have HX : Hid (y = x + k) := hy
      have hy1 : 1 ≤ y := by omega
      have hy2 : y ≤ 2305843009215791104 := by omega
      rw [← hy]
      clear hM hy
      go_wp2_with fail
      refine (t_markText _ y _ (by omega) (by omega) (by omega)).mono ?_
      rintro e w2 ⟨rfl, hb2⟩
      have M2 := HM.out.below hb2
      obtain ⟨W2, v0, k0⟩ := M2.look HL.out (lN_mem hlt) (fun b hb => lN_ds p k b hb _ (List.mem_singleton.2 rfl))
      have f0 := W2.frozen k
      have k0 : w2.cell? ⟨p.b, k, none⟩ = some v0 := k0
      have HN : Hid (Mkd w (w2.setCell ⟨p.b, k, none⟩ (.string (mt y))) (lN p (k + 1)) x) := by
        have := M2.app (mkd_one (o := k) true y W2 ⟨v0, k0⟩) (by rw [lN_len]; exact HX.out) (lN_ds p k)
        rw [← lN_succ] at this
        exact this
      clear W2 M2 hb2 HM
      go_wp2
      go_roundw
      case rel => exact ⟨k + 1, by omega, by go_num, by have := HX.out; first | (congr 1; omega) | (simp; omega), HN.out⟩
      case measure => simp [intOf]; omega
    · have hkn : k = n := by omega
      subst hkn
      have FIN : Hid (Mkd w wr (lN p k) x) := hM
      clear hM
      go_wp2
      go_ret
      exact ⟨rfl, FIN.out⟩

theorem hm_name {w : World} {p : NPl} {n x k : Nat} (h : Hm w (lN p n) x) (hk : k < n) : w.cell? ⟨p.b, k, none⟩ = some (.string (mt (x + k))) := by
  have e : lN p n = lN p k ++ (p.b, k, true) :: (List.range' (k + 1) (n - (k + 1))).map fun j => (p.b, j, true) := by
    unfold lN
    rw [show List.range n = List.range k ++ k :: List.range' (k + 1) (n - (k + 1)) by
      rw [List.range_eq_range', List.range_eq_range', show n = k + ((n - (k + 1)) + 1) by omega, ← List.range'_append_1, List.range'_succ]
      simp
      omega]
    rw [List.map_append, List.map_cons]
  rw [e, Hm.app, lN_len] at h
  exact h.2.1

set_option maxRecDepth 100000 in
set_option maxHeartbeats 2000000 in
theorem t_heldNames (z : Int) (p : NPl) (n : Nat) (x : Nat) (w : World) (hz : z = (x : Int)) (ha : 0 < n → p.a = some ⟨p.b, 0, none⟩) (hm : Hm w (lN p n) x) (hx1 : 1 ≤ x) (hx2 : x + n ≤ 2305843009213693952) :
    Calls Tryz.prog 12 #[.slice p.a n p.c, .int .i64 z] w fun e w' => e = .returned (.int .i64 ((x + n : Nat) : Int)) ∧ Below w.heap.size w w' := by
  subst hz
  have HA : Hid (0 < n → p.a = some ⟨p.b, 0, none⟩) := ha
  have HB : Hid (∀ w', Below w.heap.size w w' → ∀ k, k < n → w'.cell? ⟨p.b, k, none⟩ = some (.string (mt (x + k)))) := fun w' hb k hk => hm_name (hm.below hb) hk
  clear hm ha
  go_enter Tryz.func12, Tryz.ntmps12
  go_wp2
  go_loopw [1, 5] (fun y i wr => ∃ k : Nat, k ≤ n ∧ i = .int .i64 k ∧ y = .int .i64 ((x + k : Nat) : Int) ∧ Below w.heap.size w wr) (fun _ i _ => n - (intOf i).toNat)
  case atStart => exact ⟨0, Nat.zero_le _, rfl, rfl, Below.refl _ _⟩
  case round =>
    obtain ⟨k, hk, rfl, rfl, hb⟩ := hrel
    by_cases hlt : k < n
    · have e1 := HA.out (by omega)
      rw [e1]
      clear e1
      have g0 := HB.out wr hb k hlt
      obtain ⟨y, hy⟩ : ∃ y : Nat, y = x + k := ⟨_, rfl⟩
      have HX : Hid (y = x + k) := hy
      have hy1 : 1 ≤ y := by omega
      have hy2 : y ≤ 2305843009215791104 := by omega
      rw [← hy] at g0 ⊢
      have CM : Hid (∀ W, Below w.heap.size w W → Calls Tryz.prog 21 #[.int .i64 (y : Int)] W fun e w' => e = .returned (.string (mt y)) ∧ Below w.heap.size w w' ∧ w'.cell? ⟨p.b, k, none⟩ = some (.string (mt y))) := fun W hW => (t_markText _ y W rfl (by omega) (by omega)).mono (fun e w' h => ⟨h.1, hW.trans (h.2.mono hW.size), by have := HB.out w' (hW.trans (h.2.mono hW.size)) k hlt; rw [← hy] at this; exact this⟩)
      clear hy
      have CM' := CM.out wr.drew hb.drew
      go_wp2
      go_region_held3 (fun w' => w'.cell? ⟨p.b, k, none⟩ = some (.string (mt y))) (first | go_keep | assumption) ((go_at_call 21; (first | (with_reducible refine CM'.mono ?_) | (with_reducible refine (CM.out wr hb).mono ?_)); rintro e w2 ⟨rfl, hb2, g2⟩))
      all_goals
        go_wp2
        go_roundw
        case rel => exact ⟨k + 1, by omega, by go_num, by have := HX.out; first | (congr 1; omega) | (simp; omega), hb2⟩
        case measure => simp [intOf]; omega
    · have hkn : k = n := by omega
      subst hkn
      go_wp2
      go_ret
      exact ⟨rfl, hb⟩

end Go.Proofs.YtmcbmcjbgjnbhaaGreatDoor

namespace Go.Proofs.YtmcbmcjbgjnbhaaGreatDoor
open Go.RowKit

set_option maxRecDepth 100000 in
set_option maxHeartbeats 2000000 in
theorem t_markSrcs (z : Int) (p : NPl) (n : Nat) (x : Nat) (w : World) (hz : z = (x : Int)) (ha : 0 < n → p.a = some ⟨p.b, 0, none⟩) (hl : Lv w (lN p (n * 2))) (hx1 : 1 ≤ x) (hx2 : x + n * 2 ≤ 2305843009213693952) :
    Calls Tryz.prog 10 #[.slice p.a n p.c, .int .i64 z] w fun e w' => e = .returned (.int .i64 ((x + n * 2 : Nat) : Int)) ∧ Mkd w w' (lN p (n * 2)) x := by
  subst hz
  have HA : Hid (0 < n → p.a = some ⟨p.b, 0, none⟩) := ha
  have HL : Hid (Lv w (lN p (n * 2))) := hl
  have ST : Mkd w w (lN p (0 * 2)) x := mkd_of_below (Below.refl _ _) x
  clear hl ha
  go_enter Tryz.func10, Tryz.ntmps10
  go_wp2
  go_loopw [1, 5] (fun y i wr => ∃ k : Nat, k ≤ n ∧ i = .int .i64 k ∧ y = .int .i64 ((x + k * 2 : Nat) : Int) ∧ Mkd w wr (lN p (k * 2)) x) (fun _ i _ => n - (intOf i).toNat)
  case atStart => exact ⟨0, Nat.zero_le _, rfl, rfl, ST⟩
  case round =>
    obtain ⟨k, hk, rfl, rfl, hM⟩ := hrel
    clear ST
    by_cases hlt : k < n
    · have e1 := HA.out (by omega)
      rw [e1]
      clear e1
      have HM : Hid (Mkd w wr (lN p (k * 2)) x) := hM
      obtain ⟨y, hy⟩ : ∃ y : Nat, y = x + k * 2 := ⟨_, rfl⟩
      have HX : Hid (y = x + k * 2) := hy
      have hy1 : 1 ≤ y := by omega
      have hy2 : y + 1 ≤ 2305843009215791104 := by omega
      rw [← hy]
      clear hM hy
      go_wp2_with fail
      refine (t_markText _ y _ (by omega) (by omega) (by omega)).mono ?_
      rintro e w2 ⟨rfl, hb2⟩
      have M2 := HM.out.below hb2
      obtain ⟨W2, v0, k0⟩ := M2.look HL.out (lN_mem (show k * 2 < n * 2 by omega)) (fun b hb => lN_ds p (k * 2) b hb _ (List.mem_singleton.2 rfl))
      have f0 := W2.frozen (k * 2)
      have k0 : w2.cell? ⟨p.b, k * 2, none⟩ = some v0 := k0
      have HN : Hid (Mkd w (w2.setCell ⟨p.b, k * 2, none⟩ (.string (mt y))) (lN p (k * 2 + 1)) x) := by
        have := M2.app (mkd_one (o := k * 2) true y W2 ⟨v0, k0⟩) (by rw [lN_len]; exact HX.out) (lN_ds p (k * 2))
        rw [← lN_succ] at this
        exact this
      clear W2 M2 hb2 HM
      go_wp2_with fail
      refine (t_markText _ (y + 1) _ (by omega) (by omega) (by omega)).mono ?_
      rintro e w3 ⟨rfl, hb3⟩
      have M3 := HN.out.below hb3
      obtain ⟨W3, v1, k1⟩ := M3.look HL.out (lN_mem (show k * 2 + 1 < n * 2 by omega)) (fun b hb => lN_ds p (k * 2 + 1) b hb _ (List.mem_singleton.2 rfl))
      have f1 := W3.frozen (k * 2 + 1)
      have k1 : w3.cell? ⟨p.b, k * 2 + 1, none⟩ = some v1 := k1
      have HN2 : Hid (Mkd w (w3.setCell ⟨p.b, k * 2 + 1, none⟩ (.string (mt (y + 1)))) (lN p ((k + 1) * 2)) x) := by
        have := M3.app (mkd_one (o := k * 2 + 1) true (y + 1) W3 ⟨v1, k1⟩) (by rw [lN_len, HX.out]; omega) (lN_ds p (k * 2 + 1))
        rw [← lN_succ] at this
        rw [show (k + 1) * 2 = k * 2 + 1 + 1 by omega]
        exact this
      clear W3 M3 hb3 HN
      go_wp2
      go_roundw
      case rel => exact ⟨k + 1, by omega, by go_num, by have := HX.out; first | (congr 1; omega) | (simp; omega), HN2.out⟩
      case measure => simp [intOf]; omega
    · have hkn : k = n := by omega
      subst hkn
      have FIN : Hid (Mkd w wr (lN p (k * 2)) x) := hM
      clear hM
      go_wp2
      go_ret
      exact ⟨rfl, FIN.out⟩

end Go.Proofs.YtmcbmcjbgjnbhaaGreatDoor

