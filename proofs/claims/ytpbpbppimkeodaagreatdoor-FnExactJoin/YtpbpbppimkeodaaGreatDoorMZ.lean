/-
  Merged for the claim: MG Sz JpD Open JpP.
-/
import Derived.Test.YtpbpbppimkeodaaGreatDoorMA
import Derived.Laws.BytesString
import Derived.Deep.RegionHeld3
import Derived.Test.YtpbpbppimkeodaaGreatDoorMT
import Derived.Deep.RegionWith
import Derived.Test.YtpbpbppimkeodaaGreatDoorProg
import Derived.ProofKit
import Derived.Deep.Slices
import Derived.Deep.Strs
import Derived.Test.YtpbpbppimkeodaaGreatDoorRows
import Derived.Test.YtpbpbppimkeodaaGreatDoorTie
import Derived.Test.YtpbpbppimkeodaaGreatDoorCards
import Derived.WalkKit
import Derived.OpenShut
import Derived.ChangeOld
import Derived.Below
import Derived.LaidMore
import Derived.Lay
import Derived.SevenTiedAt
import Derived.Stop.Joined
namespace Go.Proofs.YtpbpbppimkeodaaGreatDoor
open Go.RowKit

/-- The digits of a number, ahead of what is there. -/
def mdig (k : Nat) (acc : List UInt8) : List UInt8 := if k = 0 then acc else mdig (k / 10) (UInt8.ofNat (48 + k % 10) :: acc)
termination_by k
decreasing_by omega
theorem mdig_zero (acc : List UInt8) : mdig 0 acc = acc := by rw [mdig, if_pos rfl]
theorem mdig_step {k : Nat} (h : k ≠ 0) (acc : List UInt8) : mdig k acc = mdig (k / 10) (UInt8.ofNat (48 + k % 10) :: acc) := by
  rw [mdig, if_neg h]

/-- The text that marks a number above 0. -/
def mt (k : Nat) : ByteArray := ⟨(109 :: mdig k []).toArray⟩

theorem mdig_len : ∀ (j k : Nat) (acc : List UInt8), k ≤ j → (mdig k acc).length ≤ k + acc.length := by
  intro j
  induction j with
  | zero => intro k acc h; have : k = 0 := by omega
            subst this; rw [mdig_zero]; omega
  | succ j ih =>
    intro k acc h
    by_cases e : k = 0
    · subst e; rw [mdig_zero]; omega
    · rw [mdig_step e]
      have := ih (k / 10) (UInt8.ofNat (48 + k % 10) :: acc) (by omega)
      rw [List.length_cons] at this
      omega
theorem mt_size (k : Nat) : (mt k).size ≤ k + 1 := by
  have := mdig_len k k [] (Nat.le_refl _)
  show (109 :: mdig k []).toArray.size ≤ _
  simp at this ⊢
  omega

theorem cell_one_newM (w : World) (v : Value) (t : TypeId) : ∀ j u, [v][j]? = some u → (w.alloc (.cells #[v] t)).cell? ((⟨w.heap.size, 0, none⟩ : Addr).add j) = some u := by
  intro j u h
  match j, h with
  | 0, h => simp at h; subst h; simp [Addr.add]

theorem conv_oneM (W : World) (n : Int) : (convert 42 9 (.slice (some ⟨W.heap.size, 0, none⟩) 1 1)).run Tryz.prog (W.alloc (.cells #[.int .u8 n] 5)) = .ok (.string ⟨#[UInt8.ofNat n.toNat]⟩) (W.alloc (.cells #[.int .u8 n] 5)) := by
  rw [run_convert_bytes_string _ 42 9 5 _ 1 1 Tryz.underlying42 Tryz.underlying5 Tryz.underlying9]
  have := run_bytesToString (P := Tryz.prog) (W.alloc (.cells #[.int .u8 n] 5)) ⟨W.heap.size, 0, none⟩ 1 1 [n] (run_loadCells_list _ ⟨W.heap.size, 0, none⟩ [.int .u8 n] (cell_one_newM W (.int .u8 n) 5))
  exact this

set_option maxRecDepth 100000 in
set_option maxHeartbeats 2000000 in
theorem t_markText (z : Int) (k : Nat) (w : World) (hz : z = (k : Int)) (hk : 0 < k) (hk2 : k ≤ 4611686018427387904) :
    Calls Tryz.prog 86 #[.int .i64 z] w fun e w' => e = .returned (.string (mt k)) ∧ Below w.heap.size w w' := by
  subst hz
  have h0 : ¬ (k : Int) ≤ 0 := by omega
  go_enter Tryz.func86, Tryz.ntmps86
  go_wp2
  go_loopw [3, 0] (fun o i wr => ∃ (j : Nat) (acc : ByteArray), i = .int .i64 j ∧ o = .string acc ∧ Hid (mdig j acc.data.toList = mdig k []) ∧ acc.size + j ≤ k ∧ Below w.heap.size w wr) (fun _ i _ => (intOf i).toNat)
  case atStart => exact ⟨k, ⟨#[]⟩, rfl, rfl, by show _ = _; rfl, by show 0 + k ≤ k; omega, Below.refl _ _⟩
  case round =>
    obtain ⟨j, acc, rfl, rfl, HM, hsz, hb⟩ := hrel
    by_cases hlt : 0 < j
    · have hlt' : (0 : Int) < (j : Int) := by omega
      have hcv := conv_oneM wr (48 + (j : Int) % 10)
      obtain ⟨sx, hsx⟩ : ∃ sx : ByteArray, sx = ⟨#[UInt8.ofNat (48 + (j : Int) % 10).toNat]⟩ := ⟨_, rfl⟩
      rw [← hsx] at hcv
      have hq : (j : Int).tdiv 10 = ((j / 10 : Nat) : Int) := by rw [Int.tdiv_eq_ediv_of_nonneg (by omega)]; omega
      have hq2 : IntKind.i64.wrap ((j / 10 : Nat) : Int) = ((j / 10 : Nat) : Int) := by rw [IntKind.wrap_i64]; omega
      have HN : Hid (mdig (j / 10) (sx ++ acc).data.toList = mdig k []) := by
        show _ = _
        rw [← HM.out, mdig_step (k := j) (by omega), hsx]
        have : (48 + (j : Int) % 10).toNat = 48 + j % 10 := by omega
        rw [this]
        simp [ByteArray.data_append]
      have one : sx.size = 1 := by rw [hsx]; rfl
      have hsz2 : (sx ++ acc).size = 1 + acc.size := by
        rw [ByteArray.size_append, one]
      have hadd := fun W => run_string_add_sum (P := Tryz.prog) (w := W) sx acc (by rw [one]; omega)
      clear hsx
      go_wp2
      go_roundw
      case rel => exact ⟨j / 10, _, by first | rfl | (rw [hq, hq2]) | simp, rfl, HN, by omega, hb.alloc hb.size _⟩
      case measure => simp [intOf]; omega
    · have hj : j = 0 := by omega
      subst hj
      have HE : Hid (mt k = (⟨#[109]⟩ : ByteArray) ++ acc) := by
        show _ = _
        have := HM.out
        rw [mdig_zero] at this
        unfold mt
        rw [← this]
        apply ByteArray.ext
        simp [ByteArray.data_append]
      go_wp2
      go_ret
      exact ⟨by rw [HE.out]; rfl, hb⟩

/-- All blocks but one are as they were, and that one too if nothing lies in it. -/
structure But (b n : Nat) (w w' : World) : Prop where
  os : w'.os = w.os
  tape : w'.tape = w.tape
  output : w'.output = w.output
  size : w.heap.size ≤ w'.heap.size
  block : ∀ j, j < w.heap.size → (0 < n → j ≠ b) → w'.heap[j]? = w.heap[j]?
theorem But.refl (b n : Nat) (w : World) : But b n w w := ⟨rfl, rfl, rfl, Nat.le_refl _, fun _ _ _ => rfl⟩
theorem But.below {b n : Nat} {w w1 w2 : World} (h : But b n w w1) (hb : Below w1.heap.size w1 w2) : But b n w w2 :=
  ⟨hb.os.trans h.os, hb.tape.trans h.tape, hb.output.trans h.output, Nat.le_trans h.size hb.size, fun j hj hn => (hb.block j (Nat.lt_of_lt_of_le hj h.size)).trans (h.block j hj hn)⟩
theorem But.set {b n : Nat} {w w1 : World} (h : But b n w w1) (hn : 0 < n) (o : Nat) (v : Value) : But b n w (w1.setCell ⟨b, o, none⟩ v) :=
  ⟨h.os, h.tape, h.output, by simpa [World.setCell] using h.size, fun j hj hne => (Below.heap_setCell _ _ _ _ (by show j ≠ b; exact hne hn)).trans (h.block j hj hne)⟩

/-- A row while it is being marked. -/
structure Mk (w wr : World) (b o n k : Nat) (f : Nat → Value) : Prop where
  but : But b n w wr
  row : 0 < n → ∃ (t : TypeId) (N : Nat) (g : Nat → Value), wr.rowIs b t N g ∧ o + n ≤ N ∧ ∀ i, i < k → g (o + i) = f i

theorem mk_start {w : World} {b o n : Nat} {f v : Nat → Value} (hW : 0 < n → Wr w b) (hc : ∀ i, i < n → w.cell? ⟨b, o + i, none⟩ = some (v i)) : Mk w w b o n 0 f := by
  refine ⟨But.refl _ _ _, fun z => ?_⟩
  obtain ⟨c, t, h⟩ := hW z
  have hl : o + (n - 1) < c.size := by
    have h1 := hc (n - 1) (by omega)
    simp [World.cell?, h] at h1
    exact (Array.getElem?_eq_some_iff.1 h1).1
  exact ⟨t, c.size, fun i => c[i]!, ⟨c, h, rfl, fun i hi => by simp [hi]⟩, by omega, fun i hi => absurd hi (Nat.not_lt_zero _)⟩

theorem mk_step {w wr w2 : World} {b o n k : Nat} {f : Nat → Value} (h : Mk w wr b o n k f) (hk : k < n) (hb : Below wr.heap.size wr w2) : Mk w (w2.setCell ⟨b, o + k, none⟩ (f k)) b o n (k + 1) f := by
  obtain ⟨t, N, g, hr, hN, hg⟩ := h.row (by omega)
  refine ⟨(h.but.below hb).set (by omega) _ _, fun _ => ⟨t, N, _, (hr.of_block (hb.block _ hr.lt)).set (o + k) (f k), hN, fun i hi => ?_⟩⟩
  by_cases e : i = k
  · subst e
    show (if o + i = o + i then _ else _) = _
    rw [if_pos rfl]
  · show (if o + i = o + k then _ else g (o + i)) = _
    rw [if_neg (by omega), hg i (by omega)]

theorem Mk.wr {w wr : World} {b o n k : Nat} {f : Nat → Value} (h : Mk w wr b o n k f) (hn : 0 < n) : Wr wr b := by
  obtain ⟨t, N, g, hr, _⟩ := h.row hn
  exact wr_row hr
theorem Mk.cell {w wr : World} {b o n : Nat} {f : Nat → Value} (h : Mk w wr b o n n f) {i : Nat} (hi : i < n) : wr.cell? ⟨b, o + i, none⟩ = some (f i) := by
  obtain ⟨t, N, g, hr, hN, hg⟩ := h.row (by omega)
  rw [hr.cell (by omega), hg i hi]
/-- What may be written next. -/
theorem Mk.next {w wr : World} {b o n k : Nat} {f : Nat → Value} (h : Mk w wr b o n k f) {i : Nat} (hi : i < n) : (∃ v, wr.cell? ⟨b, o + i, none⟩ = some v) ∧ wr.frozen? ⟨b, o + i, none⟩ = false ∧ b < wr.heap.size := by
  obtain ⟨t, N, g, hr, hN, hg⟩ := h.row (by omega)
  exact ⟨⟨_, hr.cell (by omega)⟩, hr.frozen _, hr.lt⟩

set_option maxRecDepth 100000 in
set_option maxHeartbeats 2000000 in
theorem t_markIntS (z : Int) (ao : Option Addr) (b o n c : Nat) (D : Nat → Int) (x : Nat) (w : World) (hz : z = (x : Int)) (h1 : IntsAt w ao b o n D) (hW : 0 < n → Wr w b) (hx2 : x ≤ 2305843009213693952) (hn : n ≤ 1048576) :
    Calls Tryz.prog 15 #[.slice ao n c, .int .i64 z] w fun e w' => e = .returned (.int .i64 ((x + n : Nat) : Int)) ∧ IntsAt w' ao b o n (fun j => ((x + j : Nat) : Int)) ∧ (0 < n → Wr w' b) ∧ But b n w w' := by
  subst hz
  have A1 := h1.at_
  have HA : Hid (0 < n → ao = some ⟨b, o, none⟩) := A1
  have ST : Mk w w b o n 0 (fun j => .int .i64 ((x + j : Nat) : Int)) := mk_start hW h1.cell
  clear h1 hW
  go_enter Tryz.func15, Tryz.ntmps15
  go_wp2
  go_loopw [1, 5] (fun y i wr => ∃ k : Nat, k ≤ n ∧ i = .int .i64 k ∧ y = .int .i64 ((x + k : Nat) : Int) ∧ Mk w wr b o n k (fun j => .int .i64 ((x + j : Nat) : Int))) (fun _ i _ => n - (intOf i).toNat)
  case atStart => exact ⟨0, Nat.zero_le _, rfl, rfl, ST⟩
  case round =>
    obtain ⟨k, hk, rfl, rfl, hM⟩ := hrel
    clear ST
    by_cases hlt : k < n
    · have e1 := A1 (by omega)
      subst e1
      obtain ⟨⟨v0, k0⟩, f0, hbl⟩ := hM.next hlt
      have HN : Hid (Mk w (wr.setCell ⟨b, o + k, none⟩ (.int .i64 ((x + k : Nat) : Int))) b o n (k + 1) (fun j => .int .i64 ((x + j : Nat) : Int))) := mk_step hM hlt (Below.refl _ _)
      obtain ⟨y, hy⟩ : ∃ y : Nat, y = x + k := ⟨_, rfl⟩
      rw [← hy] at HN ⊢
      have HX : Hid (y = x + k) := hy
      have hy2 : y ≤ 2305843009215791104 := by omega
      clear hM hy
      go_wp2
      go_roundw
      case rel => exact ⟨k + 1, by omega, by go_num, by have := HX.out; first | (congr 1; omega) | (simp; omega), HN.out⟩
      case measure => simp [intOf]; omega
    · have hkn : k = n := by omega
      subst hkn
      have FIN : Hid (IntsAt wr ao b o k (fun j => ((x + j : Nat) : Int)) ∧ (0 < k → Wr wr b) ∧ But b k w wr) := ⟨⟨HA.out, fun i hi => hM.cell hi, by omega⟩, fun z => hM.wr z, hM.but⟩
      clear hM
      go_wp2
      go_ret
      exact ⟨rfl, FIN.out⟩

set_option maxRecDepth 100000 in
set_option maxHeartbeats 2000000 in
theorem t_markStringS (z : Int) (ao : Option Addr) (b o n c : Nat) (S : Nat → ByteArray) (x : Nat) (w : World) (hz : z = (x : Int)) (h1 : StrsAt w ao b o n S) (hW : 0 < n → Wr w b) (hx1 : 1 ≤ x) (hx2 : x ≤ 2305843009213693952) (hn : n ≤ 1048576) :
    Calls Tryz.prog 58 #[.slice ao n c, .int .i64 z] w fun e w' => e = .returned (.int .i64 ((x + n : Nat) : Int)) ∧ StrsAt w' ao b o n (fun j => mt (x + j)) ∧ (0 < n → Wr w' b) ∧ But b n w w' := by
  subst hz
  have A1 := h1.at_
  have HA : Hid (0 < n → ao = some ⟨b, o, none⟩) := A1
  have ST : Mk w w b o n 0 (fun j => .string (mt (x + j))) := mk_start hW h1.cell
  clear h1 hW
  go_enter Tryz.func58, Tryz.ntmps58
  go_wp2
  go_loopw [1, 5] (fun y i wr => ∃ k : Nat, k ≤ n ∧ i = .int .i64 k ∧ y = .int .i64 ((x + k : Nat) : Int) ∧ Mk w wr b o n k (fun j => .string (mt (x + j)))) (fun _ i _ => n - (intOf i).toNat)
  case atStart => exact ⟨0, Nat.zero_le _, rfl, rfl, ST⟩
  case round =>
    obtain ⟨k, hk, rfl, rfl, hM⟩ := hrel
    clear ST
    by_cases hlt : k < n
    · have e1 := A1 (by omega)
      subst e1
      have HM : Hid (Mk w wr b o n k (fun j => .string (mt (x + j)))) := hM
      obtain ⟨y, hy⟩ : ∃ y : Nat, y = x + k := ⟨_, rfl⟩
      have HX : Hid (y = x + k) := hy
      have hy1 : 1 ≤ y := by omega
      have hy2 : y ≤ 2305843009215791104 := by omega
      rw [← hy]
      clear hM hy
      go_wp2_with fail
      refine (t_markText _ y _ (by omega) (by omega) (by omega)).mono ?_
      rintro e w2 ⟨rfl, hb2⟩
      have HN : Hid (Mk w (w2.setCell ⟨b, o + k, none⟩ (.string (mt y))) b o n (k + 1) (fun j => .string (mt (x + j)))) := by
        have := mk_step HM.out hlt hb2
        simp only [← HX.out] at this
        exact this
      obtain ⟨t, N, g, hr, hN, _⟩ := HM.out.row (by omega)
      have hr2 := hr.of_block (hb2.block _ hr.lt)
      have k0 := hr2.cell (i := o + k) (by omega)
      have f0 := hr2.frozen (o + k)
      clear hr hr2 hb2 HM
      go_wp2
      go_roundw
      case rel => exact ⟨k + 1, by omega, by go_num, by have := HX.out; first | (congr 1; omega) | (simp; omega), HN.out⟩
      case measure => simp [intOf]; omega
    · have hkn : k = n := by omega
      subst hkn
      have FIN : Hid (StrsAt wr ao b o k (fun j => mt (x + j)) ∧ (0 < k → Wr wr b) ∧ But b k w wr) := ⟨⟨HA.out, fun i hi => hM.cell hi, fun i hi => by have := mt_size (x + i); show (mt (x + i)).size ≤ _; omega, by omega⟩, fun z => hM.wr z, hM.but⟩
      clear hM
      go_wp2
      go_ret
      exact ⟨rfl, FIN.out⟩

set_option maxRecDepth 100000 in
set_option maxHeartbeats 2000000 in
theorem t_heldIntS (z : Int) (ao : Option Addr) (b o n c : Nat) (x : Nat) (w : World) (hz : z = (x : Int)) (h1 : IntsAt w ao b o n (fun j => ((x + j : Nat) : Int))) (hx2 : x ≤ 2305843009213693952) (hn : n ≤ 1048576) :
    Calls Tryz.prog 17 #[.slice ao n c, .int .i64 z] w fun e w' => e = .returned (.int .i64 ((x + n : Nat) : Int)) ∧ Below w.heap.size w w' := by
  subst hz
  have A1 := h1.at_
  have HB : Hid (∀ w', Below w.heap.size w w' → IntsAt w' ao b o n (fun j => ((x + j : Nat) : Int))) := fun w' hb => h1.below hb
  clear h1
  go_enter Tryz.func17, Tryz.ntmps17
  go_wp2
  go_loopw [1, 5] (fun y i wr => ∃ k : Nat, k ≤ n ∧ i = .int .i64 k ∧ y = .int .i64 ((x + k : Nat) : Int) ∧ Below w.heap.size w wr) (fun _ i _ => n - (intOf i).toNat)
  case atStart => exact ⟨0, Nat.zero_le _, rfl, rfl, Below.refl _ _⟩
  case round =>
    obtain ⟨k, hk, rfl, rfl, hb⟩ := hrel
    by_cases hlt : k < n
    · have e1 := A1 (by omega)
      subst e1
      have g0 := (HB.out wr hb).cell k hlt
      obtain ⟨y, hy⟩ : ∃ y : Nat, y = x + k := ⟨_, rfl⟩
      have HX : Hid (y = x + k) := hy
      have hy2 : y ≤ 2305843009215791104 := by omega
      simp only [← hy] at g0
      rw [← hy]
      clear hy
      go_wp2
      go_roundw
      case rel => exact ⟨k + 1, by omega, by go_num, by have := HX.out; first | (congr 1; omega) | (simp; omega), by first | exact hb | exact hb.drew | exact below_drewN hb _⟩
      case measure => simp [intOf]; omega
    · have hkn : k = n := by omega
      subst hkn
      go_wp2
      go_ret
      exact ⟨rfl, hb⟩

set_option maxRecDepth 100000 in
set_option maxHeartbeats 2000000 in
theorem t_heldStringS (z : Int) (ao : Option Addr) (b o n c : Nat) (x : Nat) (w : World) (hz : z = (x : Int)) (h1 : StrsAt w ao b o n (fun j => mt (x + j))) (hx1 : 1 ≤ x) (hx2 : x ≤ 2305843009213693952) (hn : n ≤ 1048576) :
    Calls Tryz.prog 59 #[.slice ao n c, .int .i64 z] w fun e w' => e = .returned (.int .i64 ((x + n : Nat) : Int)) ∧ Below w.heap.size w w' := by
  subst hz
  have A1 := h1.at_
  have HB : Hid (∀ w', Below w.heap.size w w' → StrsAt w' ao b o n (fun j => mt (x + j))) := fun w' hb => h1.below hb
  clear h1
  go_enter Tryz.func59, Tryz.ntmps59
  go_wp2
  go_loopw [1, 5] (fun y i wr => ∃ k : Nat, k ≤ n ∧ i = .int .i64 k ∧ y = .int .i64 ((x + k : Nat) : Int) ∧ Below w.heap.size w wr) (fun _ i _ => n - (intOf i).toNat)
  case atStart => exact ⟨0, Nat.zero_le _, rfl, rfl, Below.refl _ _⟩
  case round =>
    obtain ⟨k, hk, rfl, rfl, hb⟩ := hrel
    by_cases hlt : k < n
    · have e1 := A1 (by omega)
      subst e1
      have g1 := (HB.out wr hb).cell k hlt
      obtain ⟨y, hy⟩ : ∃ y : Nat, y = x + k := ⟨_, rfl⟩
      have HX : Hid (y = x + k) := hy
      have hy1 : 1 ≤ y := by omega
      have hy2 : y ≤ 2305843009215791104 := by omega
      simp only [← hy] at g1
      rw [← hy]
      clear hy
      have hbl : b < wr.heap.size := World.block_lt_of_cell? _ _ g1
      go_wp2_with fail
      go_region_held3 (fun w' => w'.cell? ⟨b, o + k, none⟩ = some (.string (mt y))) (first | go_keep | assumption)
        (first | (go_at_call 86; refine (t_markText _ y _ (by omega) (by omega) (by omega)).mono ?_; rintro e w2 ⟨rfl, hb2⟩; have z1 : w2.cell? ⟨b, o + k, none⟩ = some (.string (mt y)) := (hb2.cell (p := ⟨b, o + k, none⟩) hbl).trans g1))
      all_goals
        have B2 : Below w.heap.size w w2 := (hb.trans ((Below.refl _ _).drew)).trans (hb2.mono hb.size)
        go_wp2
        go_roundw
        case rel => exact ⟨k + 1, by omega, by go_num, by have := HX.out; first | (congr 1; omega) | (simp; omega), B2⟩
        case measure => simp [intOf]; omega
    · have hkn : k = n := by omega
      subst hkn
      have FIN : Hid (Below w.heap.size w wr) := hb
      clear HB
      go_wp2
      go_ret
      exact ⟨rfl, FIN.out⟩

end Go.Proofs.YtpbpbppimkeodaaGreatDoor

namespace Go.Proofs.YtpbpbppimkeodaaGreatDoor
open Go.RowKit

/-- A node marked from a number on. -/
def mdN (x : Nat) (d : ND) : ND := ⟨(x : Int), d.nn, fun j => mt (x + 1 + j), d.nk, fun j => ((x + 1 + d.nn + j : Nat) : Int)⟩
/-- The number with which the nodes behind the first i begin. -/
def cntN (x : Nat) (G : Nat → ND) : Nat → Nat
  | 0 => x
  | i + 1 => cntN x G i + 1 + (G i).nn + (G i).nk
/-- The nodes, marked. -/
def MGr (x : Nat) (G : Nat → ND) (i : Nat) : ND := mdN (cntN x G i) (G i)

theorem cntN_le (x : Nat) (G : Nat → ND) (n : Nat) (h : ∀ i, i < n → (G i).nn ≤ 1048576 ∧ (G i).nk ≤ 1048576) : ∀ i, i ≤ n → x ≤ cntN x G i ∧ cntN x G i ≤ x + i * 2097153 := by
  intro i
  induction i with
  | zero => intro _; exact ⟨Nat.le_refl _, by show x ≤ _; omega⟩
  | succ i ih =>
    intro hi
    have := ih (by omega)
    have := h i (by omega)
    show x ≤ cntN x G i + 1 + (G i).nn + (G i).nk ∧ cntN x G i + 1 + (G i).nn + (G i).nk ≤ _
    omega

theorem cntN_cong {x : Nat} {G H : Nat → ND} : ∀ n, (∀ i, i < n → (G i).nn = (H i).nn ∧ (G i).nk = (H i).nk) → cntN x G n = cntN x H n
  | 0, _ => rfl
  | n + 1, h => by
    show cntN x G n + 1 + (G n).nn + (G n).nk = cntN x H n + 1 + (H n).nn + (H n).nk
    rw [cntN_cong n (fun i hi => h i (by omega)), (h n (by omega)).1, (h n (by omega)).2]

/-- All blocks but those of a graph are as they were. -/
structure Fro (w w' : World) (n b : Nat) (p : Nat → NP) (G : Nat → ND) : Prop where
  os : w'.os = w.os
  tape : w'.tape = w.tape
  output : w'.output = w.output
  size : w.heap.size ≤ w'.heap.size
  block : ∀ j, j < w.heap.size → (0 < n → j ≠ b) → (∀ i, i < n → (0 < (G i).nn → j ≠ (p i).b1) ∧ (0 < (G i).nk → j ≠ (p i).b2)) → w'.heap[j]? = w.heap[j]?

/-- The nodes while they are being marked. -/
structure MkG (w wr : World) (ao : Option Addr) (b o n k x : Nat) (p : Nat → NP) (G : Nat → ND) : Prop where
  fro : Fro w wr n b p G
  own : OwnG wr n b p G
  nodes : NodesAt wr ao b o n p (fun i => if i < k then MGr x G i else G i)

theorem strs_block {w w' : World} {ao : Option Addr} {b o n : Nat} {S : Nat → ByteArray} (h : StrsAt w ao b o n S) (hb : 0 < n → w'.heap[b]? = w.heap[b]?) : StrsAt w' ao b o n S :=
  ⟨h.at_, fun i hi => (World.cell?_of_block (w := w) (hb (by omega))).trans (h.cell i hi), h.size, h.len⟩
theorem ints_block {w w' : World} {ao : Option Addr} {b o n : Nat} {D : Nat → Int} (h : IntsAt w ao b o n D) (hb : 0 < n → w'.heap[b]? = w.heap[b]?) : IntsAt w' ao b o n D :=
  ⟨h.at_, fun i hi => (World.cell?_of_block (w := w) (hb (by omega))).trans (h.cell i hi), h.len⟩

theorem mkg_step {w wr w2 w3 : World} {ao : Option Addr} {b o n k x y : Nat} {p : Nat → NP} {G : Nat → ND} (h : MkG w wr ao b o n k x p G) (hk : k < n) (hy : y = cntN x G k)
    (h2 : But (p k).b1 (G k).nn (wr.setCell ⟨b, o + k * 3, none⟩ (.int .i64 (y : Int))) w2) (n2 : StrsAt w2 (p k).a1 (p k).b1 (p k).o1 (G k).nn (fun j => mt (y + 1 + j))) (v2 : 0 < (G k).nn → Wr w2 (p k).b1)
    (h3 : But (p k).b2 (G k).nk w2 w3) (n3 : IntsAt w3 (p k).a2 (p k).b2 (p k).o2 (G k).nk (fun j => ((y + 1 + (G k).nn + j : Nat) : Int))) (v3 : 0 < (G k).nk → Wr w3 (p k).b2) : MkG w w3 ao b o n (k + 1) x p G := by
  have hz : (wr.setCell ⟨b, o + k * 3, none⟩ (.int .i64 (y : Int))).heap.size = wr.heap.size := by simp
  have s2 := h2.size
  have s3 := h3.size
  rw [hz] at s2
  have hbl := (h.own.row (by omega)).lt
  obtain ⟨ok1, ok2⟩ := h.own.node k hk
  have key : ∀ j, j < wr.heap.size → j ≠ b → (0 < (G k).nn → j ≠ (p k).b1) → (0 < (G k).nk → j ≠ (p k).b2) → w3.heap[j]? = wr.heap[j]? := fun j hj q0 q1 q2 =>
    (h3.block j (by omega) q2).trans ((h2.block j (by omega) q1).trans (Below.heap_setCell _ _ _ _ q0))
  have keyb : w3.heap[b]? = (wr.setCell ⟨b, o + k * 3, none⟩ (.int .i64 (y : Int))).heap[b]? :=
    (h3.block b (by omega) (fun z e => (ok2 z).2 e.symm)).trans (h2.block b (by omega) (fun z e => (ok1 z).2 e.symm))
  have wrb : Wr w3 b := by
    obtain ⟨c, t, hc⟩ := h.own.row (by omega)
    have : (wr.setCell ⟨b, o + k * 3, none⟩ (.int .i64 (y : Int))).rowIs b t c.size _ := World.rowIs.set (f := fun i => c[i]!) ⟨c, hc, rfl, fun i hi => by simp [hi]⟩ (o + k * 3) _
    exact (wr_row this).of keyb
  have b1k : 0 < (G k).nn → w3.heap[(p k).b1]? = w2.heap[(p k).b1]? := fun z => h3.block _ (v2 z).lt (fun y => (h.own.sep k k hk hk).2.2 z y)
  have hcell : ∀ q, q ≠ o + k * 3 → w3.cell? ⟨b, q, none⟩ = wr.cell? ⟨b, q, none⟩ := fun q hq =>
    (World.cell?_of_block keyb).trans (World.cell?_setCell_other _ _ _ _ (fun e => hq (by have := congrArg Addr.off e; first | exact this | exact this.symm)))
  refine ⟨⟨?_, ?_, ?_, by have := h.fro.size; omega, fun j hj q0 q1 => ?_⟩, ⟨fun _ => wrb, fun i hi => ?_, h.own.sep⟩, ⟨h.nodes.at_, fun i hi => ?_, fun i hi => ?_, fun i hi => ?_, fun i hi => ?_, h.nodes.len⟩⟩
  · exact h3.os.trans (h2.os.trans h.fro.os)
  · exact h3.tape.trans (h2.tape.trans h.fro.tape)
  · exact h3.output.trans (h2.output.trans h.fro.output)
  · exact (key j (Nat.lt_of_lt_of_le hj h.fro.size) (q0 (by omega)) (q1 k hk).1 (q1 k hk).2).trans (h.fro.block j hj q0 q1)
  · obtain ⟨o1, o2⟩ := h.own.node i hi
    by_cases e : i = k
    · subst e
      exact ⟨fun z => ⟨(v2 z).of (b1k z), (o1 z).2⟩, fun z => ⟨v3 z, (o2 z).2⟩⟩
    · refine ⟨fun z => ⟨(o1 z).1.of (key _ (o1 z).1.lt (o1 z).2 (fun y => (h.own.sep i k hi hk).1 e z y) (fun y => (h.own.sep i k hi hk).2.2 z y)), (o1 z).2⟩, fun z => ⟨(o2 z).1.of (key _ (o2 z).1.lt (o2 z).2 (fun y e => (h.own.sep k i hk hi).2.2 y z e.symm) (fun y => (h.own.sep i k hi hk).2.1 e z y)), (o2 z).2⟩⟩
  · by_cases e : i = k
    · subst e
      simp only [Nat.lt_succ_self, if_true]
      show w3.cell? ⟨b, o + i * 3, none⟩ = some (.int .i64 ((cntN x G i : Nat) : Int))
      rw [World.cell?_of_block keyb, ← hy]
      have hc := h.nodes.c0 i hi
      exact World.cell?_setCell_same' _ _ _ (by rw [hc]; rfl)
    · rw [hcell _ (by omega), h.nodes.c0 i hi]
      by_cases e2 : i < k
      · rw [if_pos e2, if_pos (by omega)]
      · rw [if_neg e2, if_neg (by omega)]
  · rw [hcell _ (by omega), h.nodes.c1 i hi]
    by_cases e2 : i < k
    · rw [if_pos e2, if_pos (by omega)]
    · rw [if_neg e2]
      by_cases e3 : i < k + 1
      · rw [if_pos e3]; rfl
      · rw [if_neg e3]
  · rw [hcell _ (by omega), h.nodes.c2 i hi]
    by_cases e2 : i < k
    · rw [if_pos e2, if_pos (by omega)]
    · rw [if_neg e2]
      by_cases e3 : i < k + 1
      · rw [if_pos e3]; rfl
      · rw [if_neg e3]
  · by_cases e : i = k
    · subst e
      simp only [Nat.lt_succ_self, if_true]
      subst hy
      exact ⟨strs_block n2 b1k, n3⟩
    · have hN := h.nodes.node i hi
      obtain ⟨o1, o2⟩ := h.own.node i hi
      have e4 : (if i < k + 1 then MGr x G i else G i) = (if i < k then MGr x G i else G i) := by
        by_cases e2 : i < k
        · rw [if_pos e2, if_pos (by omega)]
        · rw [if_neg e2, if_neg (by omega)]
      have en : (if i < k then MGr x G i else G i).nn = (G i).nn := by
        by_cases e2 : i < k
        · rw [if_pos e2]; rfl
        · rw [if_neg e2]
      have ek : (if i < k then MGr x G i else G i).nk = (G i).nk := by
        by_cases e2 : i < k
        · rw [if_pos e2]; rfl
        · rw [if_neg e2]
      show NodeAt w3 (p i) (if i < k + 1 then MGr x G i else G i)
      rw [e4]
      refine ⟨strs_block hN.names (fun z => ?_), ints_block hN.kids (fun z => ?_)⟩
      · have z' : 0 < (G i).nn := by rw [← en]; exact z
        exact key _ (o1 z').1.lt (o1 z').2 (fun y => (h.own.sep i k hi hk).1 e z' y) (fun y => (h.own.sep i k hi hk).2.2 z' y)
      · have z' : 0 < (G i).nk := by rw [← ek]; exact z
        exact key _ (o2 z').1.lt (o2 z').2 (fun y e => (h.own.sep k i hk hi).2.2 y z' e.symm) (fun y => (h.own.sep i k hi hk).2.1 e z' y)

theorem MkG.at {w wr : World} {ao : Option Addr} {b o n k x : Nat} {p : Nat → NP} {G : Nat → ND} (h : MkG w wr ao b o n k x p G) (hk : k < n) : NodeAt wr (p k) (G k) ∧ wr.cell? ⟨b, o + k * 3, none⟩ = some (.int .i64 (G k).kind) ∧ wr.cell? ⟨b, o + k * 3 + 1, none⟩ = some (.slice (p k).a1 (G k).nn (p k).c1) ∧ wr.cell? ⟨b, o + k * 3 + 2, none⟩ = some (.slice (p k).a2 (G k).nk (p k).c2) := by
  have h0 := h.nodes.c0 k hk
  have h1 := h.nodes.c1 k hk
  have h2 := h.nodes.c2 k hk
  have h3 := h.nodes.node k hk
  simp only [Nat.lt_irrefl, if_false] at h0 h1 h2 h3
  exact ⟨h3, h0, h1, h2⟩

theorem wr_frozen {w : World} {b : Nat} (h : Wr w b) (o : Nat) : w.frozen? ⟨b, o, none⟩ = false := by
  obtain ⟨c, t, hc⟩ := h
  exact World.rowIs.frozen (t := t) (n := c.size) (f := fun i => c[i]!) ⟨c, hc, rfl, fun i hi => by simp [hi]⟩ o

set_option maxRecDepth 100000 in
set_option maxHeartbeats 4000000 in
theorem t_markNodeS (z : Int) (ao : Option Addr) (b o n c : Nat) (p : Nat → NP) (G : Nat → ND) (x : Nat) (w : World) (hz : z = (x : Int)) (h1 : NodesAt w ao b o n p G) (hO : OwnG w n b p G) (hx1 : 1 ≤ x) (hx2 : x ≤ 1048576) (hn : n ≤ 1048576) (hG : ∀ i, i < n → (G i).nn ≤ 1048576 ∧ (G i).nk ≤ 1048576) :
    Calls Tryz.prog 36 #[.slice ao n c, .int .i64 z] w fun e w' => e = .returned (.int .i64 ((cntN x G n : Nat) : Int)) ∧ NodesAt w' ao b o n p (MGr x G) ∧ OwnG w' n b p G ∧ Fro w w' n b p G := by
  subst hz
  have A1 := h1.at_
  have HG : Hid (∀ i, i < n → (G i).nn ≤ 1048576 ∧ (G i).nk ≤ 1048576) := hG
  have ST : MkG w w ao b o n 0 x p G := ⟨⟨rfl, rfl, rfl, Nat.le_refl _, fun _ _ _ _ => rfl⟩, hO, by simpa using h1⟩
  have HC : Hid (∀ i, i ≤ n → x ≤ cntN x G i ∧ cntN x G i ≤ x + i * 2097153) := cntN_le x G n hG
  clear h1 hG hO
  go_enter Tryz.func36, Tryz.ntmps36
  go_wp2
  go_loopw [1, 5] (fun y i wr => ∃ k : Nat, k ≤ n ∧ i = .int .i64 k ∧ y = .int .i64 ((cntN x G k : Nat) : Int) ∧ MkG w wr ao b o n k x p G) (fun _ i _ => n - (intOf i).toNat)
  case atStart => exact ⟨0, Nat.zero_le _, rfl, rfl, ST⟩
  case round =>
    obtain ⟨k, hk, rfl, rfl, hM⟩ := hrel
    clear ST
    by_cases hlt : k < n
    · have e1 := A1 (by omega)
      subst e1
      have HM : Hid (MkG w wr (some ⟨b, o, none⟩) b o n k x p G) := hM
      obtain ⟨hNk, k0, k1, k2⟩ := hM.at hlt
      have f0 := wr_frozen (hM.own.row (by omega)) (o + k * 3)
      obtain ⟨ok1, ok2⟩ := hM.own.node k hlt
      have hc := HC.out k hk
      have hg := HG.out k hlt
      obtain ⟨y, hy⟩ : ∃ y : Nat, y = cntN x G k := ⟨_, rfl⟩
      have HX : Hid (y = cntN x G k) := hy
      have hy1 : 1 ≤ y := by omega
      have hy2 : y ≤ 2199025352705 := by omega
      rw [← hy]
      have s1 : (wr.setCell ⟨b, o + k * 3, none⟩ (.int .i64 (y : Int))).cell? ⟨b, o + k * 3 + 1, none⟩ = some (.slice (p k).a1 (G k).nn (p k).c1) := (World.cell?_setCell_other _ _ _ _ (by simp)).trans k1
      have s2 : (wr.setCell ⟨b, o + k * 3, none⟩ (.int .i64 (y : Int))).cell? ⟨b, o + k * 3 + 2, none⟩ = some (.slice (p k).a2 (G k).nk (p k).c2) := (World.cell?_setCell_other _ _ _ _ (by simp)).trans k2
      have hbl := (hM.own.row (by omega)).lt
      have NS : Hid (StrsAt (wr.setCell ⟨b, o + k * 3, none⟩ (.int .i64 (y : Int))) (p k).a1 (p k).b1 (p k).o1 (G k).nn (G k).nm) := strs_block hNk.names (fun z => Below.heap_setCell _ _ _ _ (ok1 z).2)
      have NW : Hid (0 < (G k).nn → Wr (wr.setCell ⟨b, o + k * 3, none⟩ (.int .i64 (y : Int))) (p k).b1) := fun z => (ok1 z).1.set (a := ⟨b, o + k * 3, none⟩) (ok1 z).2 _
      have KS : Hid (∀ w2, But (p k).b1 (G k).nn (wr.setCell ⟨b, o + k * 3, none⟩ (.int .i64 (y : Int))) w2 → w2.cell? ⟨b, o + k * 3 + 2, none⟩ = some (.slice (p k).a2 (G k).nk (p k).c2) ∧ IntsAt w2 (p k).a2 (p k).b2 (p k).o2 (G k).nk (G k).kd ∧ (0 < (G k).nk → Wr w2 (p k).b2)) := fun w2 h2 => by
        have ht := h2.block b (by simp; exact hbl) (fun z e => (ok1 z).2 e.symm)
        have hq : 0 < (G k).nk → w2.heap[(p k).b2]? = wr.heap[(p k).b2]? := fun z => (h2.block _ (by simp; exact (ok2 z).1.lt) (fun z1 e => (HM.out.own.sep k k hlt hlt).2.2 z1 z e.symm)).trans (Below.heap_setCell _ _ _ _ (ok2 z).2)
        exact ⟨(World.cell?_of_block ht).trans s2, ints_block hNk.kids hq, fun z => (ok2 z).1.of (hq z)⟩
      clear hM hy hc hNk ok1 ok2 k1 k2 hbl s2
      go_wp2_with fail
      refine (t_markStringS _ (p k).a1 (p k).b1 (p k).o1 (G k).nn (p k).c1 (G k).nm (y + 1) _ (by omega) NS.out NW.out (by omega) (by omega) hg.1).mono ?_
      rintro e w2 ⟨rfl, N2, V2, B2⟩
      obtain ⟨s2, i2, v2⟩ := KS.out w2 B2
      have H2 : Hid (StrsAt w2 (p k).a1 (p k).b1 (p k).o1 (G k).nn (fun j => mt (y + 1 + j)) ∧ (0 < (G k).nn → Wr w2 (p k).b1) ∧ But (p k).b1 (G k).nn (wr.setCell ⟨b, o + k * 3, none⟩ (.int .i64 (y : Int))) w2) := ⟨N2, V2, B2⟩
      have I2 : Hid (IntsAt w2 (p k).a2 (p k).b2 (p k).o2 (G k).nk (G k).kd ∧ (0 < (G k).nk → Wr w2 (p k).b2)) := ⟨i2, v2⟩
      clear N2 V2 B2 i2 v2 k0 f0 s1 NS NW KS
      go_wp2_with fail
      refine (t_markIntS _ (p k).a2 (p k).b2 (p k).o2 (G k).nk (p k).c2 (G k).kd (y + 1 + (G k).nn) _ (by omega) I2.out.1 I2.out.2 (by omega) hg.2).mono ?_
      rintro e w3 ⟨rfl, N3, V3, B3⟩
      have HN : Hid (MkG w w3 (some ⟨b, o, none⟩) b o n (k + 1) x p G) := mkg_step HM.out hlt HX.out H2.out.2.2 H2.out.1 H2.out.2.1 B3 N3 V3
      clear N3 V3 B3 H2 I2 HM s2
      go_wp2
      go_roundw
      case rel => exact ⟨k + 1, by omega, by go_num, by have := HX.out; show _ = Value.int .i64 ((cntN x G k + 1 + (G k).nn + (G k).nk : Nat) : Int); rw [← this]; first | (congr 1; omega) | simp, HN.out⟩
      case measure => simp [intOf]; omega
    · have hkn : k = n := by omega
      subst hkn
      have FIN : Hid (NodesAt wr ao b o k p (MGr x G) ∧ OwnG wr k b p G ∧ Fro w wr k b p G) := by
        refine ⟨⟨hM.nodes.at_, fun i hi => ?_, fun i hi => ?_, fun i hi => ?_, fun i hi => ?_, hM.nodes.len⟩, hM.own, hM.fro⟩
        · have := hM.nodes.c0 i hi; rw [if_pos hi] at this; exact this
        · have := hM.nodes.c1 i hi; rw [if_pos hi] at this; exact this
        · have := hM.nodes.c2 i hi; rw [if_pos hi] at this; exact this
        · have := hM.nodes.node i hi; rw [if_pos hi] at this; exact this
      clear hM
      go_wp2
      go_ret
      exact ⟨rfl, FIN.out⟩

set_option maxRecDepth 100000 in
set_option maxHeartbeats 4000000 in
theorem t_heldNodeS (z : Int) (ao : Option Addr) (b o n c : Nat) (p : Nat → NP) (G : Nat → ND) (x : Nat) (w : World) (hz : z = (x : Int)) (h1 : NodesAt w ao b o n p (MGr x G)) (hx1 : 1 ≤ x) (hx2 : x ≤ 1048576) (hn : n ≤ 1048576) (hG : ∀ i, i < n → (G i).nn ≤ 1048576 ∧ (G i).nk ≤ 1048576) :
    Calls Tryz.prog 37 #[.slice ao n c, .int .i64 z] w fun e w' => e = .returned (.int .i64 ((cntN x G n : Nat) : Int)) ∧ Below w.heap.size w w' := by
  subst hz
  have A1 := h1.at_
  have HG : Hid (∀ i, i < n → (G i).nn ≤ 1048576 ∧ (G i).nk ≤ 1048576) := hG
  have HC : Hid (∀ i, i ≤ n → x ≤ cntN x G i ∧ cntN x G i ≤ x + i * 2097153) := cntN_le x G n hG
  have HB : Hid (∀ w', Below w.heap.size w w' → NodesAt w' ao b o n p (MGr x G)) := fun w' hb => h1.below hb
  clear h1 hG
  go_enter Tryz.func37, Tryz.ntmps37
  go_wp2
  go_loopw [1, 5] (fun y i wr => ∃ k : Nat, k ≤ n ∧ i = .int .i64 k ∧ y = .int .i64 ((cntN x G k : Nat) : Int) ∧ Below w.heap.size w wr) (fun _ i _ => n - (intOf i).toNat)
  case atStart => exact ⟨0, Nat.zero_le _, rfl, rfl, Below.refl _ _⟩
  case round =>
    obtain ⟨k, hk, rfl, rfl, hb⟩ := hrel
    by_cases hlt : k < n
    · have e1 := A1 (by omega)
      subst e1
      have hc := HC.out k hk
      have hg := HG.out k hlt
      obtain ⟨y, hy⟩ : ∃ y : Nat, y = cntN x G k := ⟨_, rfl⟩
      have HX : Hid (y = cntN x G k) := hy
      have hy1 : 1 ≤ y := by omega
      have hy2 : y ≤ 2199025352705 := by omega
      have HW : Hid (∀ w', Below w.heap.size w w' → w'.cell? ⟨b, o + k * 3, none⟩ = some (.int .i64 (y : Int)) ∧ w'.cell? ⟨b, o + k * 3 + 1, none⟩ = some (.slice (p k).a1 (G k).nn (p k).c1) ∧ w'.cell? ⟨b, o + k * 3 + 2, none⟩ = some (.slice (p k).a2 (G k).nk (p k).c2) ∧ StrsAt w' (p k).a1 (p k).b1 (p k).o1 (G k).nn (fun j => mt (y + 1 + j)) ∧ IntsAt w' (p k).a2 (p k).b2 (p k).o2 (G k).nk (fun j => ((y + 1 + (G k).nn + j : Nat) : Int))) := fun w' hb' => by
        have H := HB.out w' hb'
        have h0 := H.c0 k hlt
        have h1 := H.c1 k hlt
        have h2 := H.c2 k hlt
        have h3 := H.node k hlt
        unfold MGr at h0 h1 h2 h3
        rw [← hy] at h0 h1 h2 h3
        exact ⟨h0, h1, h2, h3.names, h3.kids⟩
      rw [← hy]
      clear hy hc
      obtain ⟨g0, g1, g2, hS, _⟩ := HW.out wr hb
      go_wp2_with fail
      refine (t_heldStringS _ (p k).a1 (p k).b1 (p k).o1 (G k).nn (p k).c1 (y + 1) _ (by omega) hS (by omega) (by omega) hg.1).mono ?_
      rintro e w2 ⟨rfl, hb2⟩
      have B2 : Hid (Below w.heap.size w w2) := hb.trans (hb2.mono hb.size)
      obtain ⟨_, _, q2, _, hI⟩ := HW.out w2 B2.out
      clear hb2 hS g0 g1 g2
      obtain ⟨u, hu⟩ : ∃ u : Nat, u = y + 1 + (G k).nn := ⟨_, rfl⟩
      have HU : Hid (u = y + 1 + (G k).nn) := hu
      have hu2 : u ≤ 2199026401282 := by omega
      rw [← hu]
      have nu : ¬ (u : Int) < 0 := by omega
      clear hu
      go_wp2_with fail
      refine (t_heldIntS _ (p k).a2 (p k).b2 (p k).o2 (G k).nk (p k).c2 u _ (by omega) (by rw [HU.out]; exact hI) (by omega) hg.2).mono ?_
      rintro e w3 ⟨rfl, hb3⟩
      have B3 : Hid (Below w.heap.size w w3) := B2.out.trans (hb3.mono B2.out.size)
      obtain ⟨s, hs⟩ : ∃ s : Nat, s = u + (G k).nk := ⟨_, rfl⟩
      have HS : Hid (s = u + (G k).nk) := hs
      rw [← hs]
      have ns : ¬ (s : Int) < 0 := by omega
      clear hs hb3 hI q2
      go_wp2
      go_roundw
      case rel => exact ⟨k + 1, by omega, by go_num, by have := HX.out; have := HU.out; have := HS.out; show _ = Value.int .i64 ((cntN x G k + 1 + (G k).nn + (G k).nk : Nat) : Int); first | (congr 1; omega) | (simp; omega), B3.out⟩
      case measure => simp [intOf]; omega
    · have hkn : k = n := by omega
      subst hkn
      go_wp2
      go_ret
      exact ⟨rfl, hb⟩

end Go.Proofs.YtpbpbppimkeodaaGreatDoor

namespace Go.Proofs.YtpbpbppimkeodaaGreatDoor
open Go.RowKit

set_option maxRecDepth 100000 in
set_option maxHeartbeats 1000000 in
theorem t_markGraph (z : Int) (ao : Option Addr) (b o n c : Nat) (p : Nat → NP) (G : Nat → ND) (x : Nat) (w : World) (hz : z = (x : Int)) (h1 : NodesAt w ao b o n p G) (hO : OwnG w n b p G) (hx1 : 1 ≤ x) (hx2 : x ≤ 1048576) (hn : n ≤ 1048576) (hG : ∀ i, i < n → (G i).nn ≤ 1048576 ∧ (G i).nk ≤ 1048576) :
    Calls Tryz.prog 14 #[.agg #[.slice ao n c], .int .i64 z] w fun e w' => e = .returned (.int .i64 ((cntN x G n : Nat) : Int)) ∧ NodesAt w' ao b o n p (MGr x G) ∧ OwnG w' n b p G ∧ Fro w w' n b p G := by
  subst hz
  have HN : Hid (NodesAt (w.alloc (.cells #[.slice ao n c] 29)) ao b o n p G ∧ OwnG (w.alloc (.cells #[.slice ao n c] 29)) n b p G) := ⟨h1.below (bel1 _ _), hO.below (bel1 _ _)⟩
  have HG : Hid (∀ i, i < n → (G i).nn ≤ 1048576 ∧ (G i).nk ≤ 1048576) := hG
  clear h1 hO hG
  go_enter Tryz.func14, Tryz.ntmps14
  go_wp2_with fail
  refine (t_markNodeS _ ao b o n c p G x _ rfl HN.out.1 HN.out.2 hx1 hx2 hn HG.out).mono ?_
  rintro e w1 ⟨rfl, N1, O1, F1⟩
  have F : Hid (NodesAt w1 ao b o n p (MGr x G) ∧ OwnG w1 n b p G ∧ Fro w w1 n b p G) := by
    refine ⟨N1, O1, ⟨F1.os, F1.tape, F1.output, by have := F1.size; simp at this; omega, fun j hj q0 q1 => (F1.block j (by simp; omega) q0 q1).trans (Below.heap_alloc _ _ _ hj)⟩⟩
  clear N1 O1 F1
  go_wp2
  go_ret
  exact ⟨rfl, F.out⟩

set_option maxRecDepth 100000 in
set_option maxHeartbeats 1000000 in
theorem t_heldGraph (z : Int) (ao : Option Addr) (b o n c : Nat) (p : Nat → NP) (G : Nat → ND) (x : Nat) (w : World) (hz : z = (x : Int)) (h1 : NodesAt w ao b o n p (MGr x G)) (hx1 : 1 ≤ x) (hx2 : x ≤ 1048576) (hn : n ≤ 1048576) (hG : ∀ i, i < n → (G i).nn ≤ 1048576 ∧ (G i).nk ≤ 1048576) :
    Calls Tryz.prog 16 #[.agg #[.slice ao n c], .int .i64 z] w fun e w' => e = .returned (.int .i64 ((cntN x G n : Nat) : Int)) ∧ Below w.heap.size w w' := by
  subst hz
  have HN : Hid (NodesAt (w.alloc (.cells #[.slice ao n c] 29)) ao b o n p (MGr x G)) := h1.below (bel1 _ _)
  have HG : Hid (∀ i, i < n → (G i).nn ≤ 1048576 ∧ (G i).nk ≤ 1048576) := hG
  clear h1 hG
  go_enter Tryz.func16, Tryz.ntmps16
  go_wp2_with fail
  refine (t_heldNodeS _ ao b o n c p G x _ rfl HN.out hx1 hx2 hn HG.out).mono ?_
  rintro e w1 ⟨rfl, hb1⟩
  have F : Hid (Below w.heap.size w w1) := (bel1 w _).trans (hb1.mono (by simp))
  obtain ⟨q, hq⟩ : ∃ q : Nat, q = cntN x G n := ⟨_, rfl⟩
  rw [← hq]
  have HQ : Hid (q = cntN x G n) := hq
  have hq0 : ¬ (q : Int) < 0 := by omega
  clear hb1 hq
  go_wp2
  go_ret
  exact ⟨by rw [HQ.out]; rfl, F.out⟩

end Go.Proofs.YtpbpbppimkeodaaGreatDoor

namespace Go.Proofs.YtpbpbppimkeodaaGreatDoor
open Go.RowKit

/-- What a count gives: it never grows, and where it is not below 0 the thing was small. -/
structure Left (L r : Int) (q : Prop) : Prop where
  lo : -1 ≤ r
  hi : r ≤ L
  ok : 0 ≤ r → q

theorem Left.no {L : Int} {q : Prop} (h : 0 ≤ L) : Left L (-1) q := ⟨by omega, by omega, fun h => by omega⟩

set_option maxHeartbeats 400000 in
theorem g31 (ao : Option Addr) (n c : Nat) (L : Int) (w : World) (hL : 0 ≤ L) (hL2 : L ≤ 1048576) (hn : n ≤ 9223372036854775807) :
    Calls Tryz.prog 75 #[.slice ao n c, .int .i64 L] w fun e w' => ∃ r, e = .returned (.int .i64 r) ∧ Left L r ((n : Int) ≤ L - r) ∧ w' = w := by
  by_cases h : L - n < 0
  · go_enter Tryz.func75, Tryz.ntmps75
    go_wp2
    go_ret
    exact ⟨-1, rfl, Left.no hL, rfl⟩
  · go_enter Tryz.func75, Tryz.ntmps75
    go_wp2
    go_ret
    exact ⟨L - n, rfl, ⟨by omega, by omega, fun _ => by omega⟩, rfl⟩

set_option maxHeartbeats 1000000 in
theorem g30 (ao : Option Addr) (b o n c : Nat) (S : Nat → ByteArray) (L : Int) (w : World) (hL : 0 ≤ L) (hL2 : L ≤ 1048576) (h1 : StrsAt w ao b o n S) :
    Calls Tryz.prog 74 #[.slice ao n c, .int .i64 L] w fun e w' => ∃ r, e = .returned (.int .i64 r) ∧ Left L r ((n : Int) ≤ L - r) ∧ w' = w := by
  have hn := h1.len
  by_cases h : L - n < 0
  · go_enter Tryz.func74, Tryz.ntmps74
    go_wp2
    go_ret
    exact ⟨-1, rfl, Left.no hL, rfl⟩
  · go_enter Tryz.func74, Tryz.ntmps74
    go_wp2
    go_loop [1, 5] (fun l i => ∃ (k : Nat) (x : Int), k ≤ n ∧ i = .int .i64 k ∧ l = .int .i64 x ∧ 0 ≤ x ∧ x ≤ L - n) (fun _ i => n - (intOf i).toNat)
    case atStart => exact ⟨0, L - n, Nat.zero_le _, rfl, rfl, by omega, by omega⟩
    case round =>
      obtain ⟨k, x, hk, rfl, rfl, hx, hx2⟩ := hrel
      by_cases hlt : k < n
      · have e1 := h1.at_ (by omega)
        have g1 := h1.cell k hlt
        have hs := h1.size k hlt
        subst e1
        by_cases h3 : x - (S k).size < 0
        · go_wp2
          go_ret
          exact ⟨-1, rfl, Left.no hL, rfl⟩
        · go_wp2
          go_round
          case rel => exact ⟨k + 1, _, by omega, by go_num, rfl, by omega, by omega⟩
          case measure => simp [intOf]; omega
      · go_wp2
        go_ret
        exact ⟨x, rfl, ⟨by omega, by omega, fun _ => by omega⟩, rfl⟩

set_option maxHeartbeats 1000000 in
theorem g20 (p : NP) (d : ND) (L : Int) (w : World) (hL : 0 ≤ L) (hL2 : L ≤ 1048576) (h1 : NodeAt w p d) :
    Calls Tryz.prog 49 #[ndv p d, .int .i64 L] w fun e w' => ∃ r, e = .returned (.int .i64 r) ∧ Left L r (d.nn + d.nk ≤ 1048576) ∧ Below w.heap.size w w' := by
  have HB : Hid (∀ w', Below w.heap.size w w' → NodeAt w' p d) := fun w' hb => h1.below hb
  have hk := h1.kids.len
  clear h1
  unfold ndv
  go_enter Tryz.func49, Tryz.ntmps49
  go_wp2_with fail
  refine (g30 p.a1 p.b1 p.o1 d.nn p.c1 d.nm L _ hL hL2 (by exact (HB.out _ (bel1 _ _)).names)).mono ?_
  rintro e w' ⟨r, rfl, hr, rfl⟩
  by_cases h2 : r < 0
  · go_wp2
    go_ret
    exact ⟨-1, rfl, Left.no hL, bel1 _ _⟩
  · have r1 := hr.hi
    have HR := hr.ok (by omega)
    clear hr
    go_wp2_with fail
    refine (g31 p.a2 d.nk p.c2 r _ (by omega) (by omega) hk).mono ?_
    rintro e w' ⟨r', rfl, hr', rfl⟩
    by_cases h3 : r' < 0
    · go_wp2
      go_ret
      exact ⟨-1, rfl, Left.no hL, bel1 _ _⟩
    · have t1 := hr'.hi
      have t2 := hr'.ok (by omega)
      clear hr'
      go_wp2
      go_ret
      exact ⟨r', rfl, ⟨by omega, by omega, fun _ => by omega⟩, bel1 _ _⟩

set_option maxHeartbeats 1000000 in
theorem g9 (ao : Option Addr) (b o n c : Nat) (p : Nat → NP) (G : Nat → ND) (L : Int) (w : World) (hL : 0 ≤ L) (hL2 : L ≤ 1048576) (h1 : NodesAt w ao b o n p G) :
    Calls Tryz.prog 28 #[.slice ao n c, .int .i64 L] w fun e w' => ∃ r, e = .returned (.int .i64 r) ∧ Left L r (n ≤ 1048576 ∧ ∀ i, i < n → (G i).nn + (G i).nk ≤ 1048576) ∧ Below w.heap.size w w' := by
  have HB : Hid (∀ w', Below w.heap.size w w' → NodesAt w' ao b o n p G) := fun w' hb => h1.below hb
  have hn := h1.len
  have A1 := h1.at_
  clear h1
  by_cases h : L - n < 0
  · go_enter Tryz.func28, Tryz.ntmps28
    go_wp2
    go_ret
    exact ⟨-1, rfl, Left.no hL, Below.refl _ _⟩
  · go_enter Tryz.func28, Tryz.ntmps28
    go_wp2
    go_loopw [1, 5] (fun l i wr => ∃ (k : Nat) (x : Int), k ≤ n ∧ i = .int .i64 k ∧ l = .int .i64 x ∧ 0 ≤ x ∧ x ≤ L ∧ Below w.heap.size w wr ∧ Hid (∀ i, i < k → (G i).nn + (G i).nk ≤ 1048576)) (fun _ i _ => n - (intOf i).toNat)
    case atStart => exact ⟨0, L - n, Nat.zero_le _, rfl, rfl, by omega, by omega, Below.refl _ _, fun i hi => absurd hi (Nat.not_lt_zero _)⟩
    case round =>
      obtain ⟨k, x, hk, rfl, rfl, hx, hx2, hb, HA⟩ := hrel
      by_cases hlt : k < n
      · have e1 := A1 (by omega)
        have q1 := HB.out wr hb
        have g0 := q1.c0 k hlt
        have g1 := q1.c1 k hlt
        have g2 := q1.c2 k hlt
        have N1 := q1.node k hlt
        clear q1 HB
        subst e1
        go_wp2_with fail
        refine (g20 (p k) (G k) x _ hx (by omega) N1).mono ?_
        rintro e w' ⟨r, rfl, hr, hb'⟩
        by_cases h3 : r < 0
        · go_wp2
          go_ret
          exact ⟨-1, rfl, Left.no hL, hb.trans (hb'.mono hb.size)⟩
        · have r1 := hr.hi
          have HR : Hid ((G k).nn + (G k).nk ≤ 1048576) := hr.ok (by omega)
          clear hr
          go_wp2
          go_roundw
          case rel => exact ⟨k + 1, r, by omega, by go_num, rfl, by omega, by omega, hb.trans (hb'.mono hb.size), fun i hi => by
            by_cases e : i = k
            · subst e; exact HR.out
            · exact HA.out i (by omega)⟩
          case measure => simp [intOf]; omega
      · go_wp2
        go_ret
        exact ⟨x, rfl, ⟨by omega, by omega, fun _ => ⟨by omega, fun i hi => HA.out i (by omega)⟩⟩, hb⟩

set_option maxHeartbeats 1000000 in
theorem g4 (ao : Option Addr) (b o n c : Nat) (p : Nat → NP) (G : Nat → ND) (L : Int) (w : World) (hL : 0 ≤ L) (hL2 : L ≤ 1048576) (h1 : NodesAt w ao b o n p G) :
    Calls Tryz.prog 7 #[.agg #[.slice ao n c], .int .i64 L] w fun e w' => ∃ r, e = .returned (.int .i64 r) ∧ Left L r (n ≤ 1048576 ∧ ∀ i, i < n → (G i).nn + (G i).nk ≤ 1048576) ∧ Below w.heap.size w w' := by
  have HB : Hid (∀ w', Below w.heap.size w w' → NodesAt w' ao b o n p G) := fun w' hb => h1.below hb
  clear h1
  go_enter Tryz.func7, Tryz.ntmps7
  go_wp2_with fail
  refine (g9 ao b o n c p G L _ hL hL2 (by exact HB.out _ (bel1 _ _))).mono ?_
  rintro e w' ⟨r, rfl, hr, hb⟩
  have hb2 := (bel1 w _).trans (hb.mono (by simp))
  by_cases h3 : r < 0
  · go_wp2
    go_ret
    exact ⟨-1, rfl, Left.no hL, hb2⟩
  · go_wp2
    go_ret
    exact ⟨r, rfl, hr, hb2⟩

end Go.Proofs.YtpbpbppimkeodaaGreatDoor

namespace Go.Proofs.YtpbpbppimkeodaaGreatDoor
open Go.RowKit Go.Maps

theorem NodesAt.blocksJ {w w' : World} {ao : Option Addr} {b o n : Nat} {p : Nat → NP} {G : Nat → ND} (h : NodesAt w ao b o n p G) (hr : 0 < n → w'.heap[b]? = w.heap[b]?) (hn : ∀ i, i < n → (0 < (G i).nn → w'.heap[(p i).b1]? = w.heap[(p i).b1]?) ∧ (0 < (G i).nk → w'.heap[(p i).b2]? = w.heap[(p i).b2]?)) : NodesAt w' ao b o n p G :=
  ⟨h.at_, fun i hi => (World.cell?_of_block (hr (by omega))).trans (h.c0 i hi), fun i hi => (World.cell?_of_block (hr (by omega))).trans (h.c1 i hi), fun i hi => (World.cell?_of_block (hr (by omega))).trans (h.c2 i hi), fun i hi => (h.node i hi).later (hn i hi).1 (hn i hi).2, h.len⟩

set_option maxRecDepth 100000 in
set_option maxHeartbeats 16000000 in
theorem l_Join (ao : Option Addr) (b o N c : Nat) (p : Nat → NP) (G : Nat → ND) (A B : Int) (w : World) (h1 : NodesAt w ao b o N p G) :
    Calls Tryz.prog 4 #[.agg #[.slice ao N c], .int .i64 A, .int .i64 B] w fun e w' => e = .returned (.bool true) ∧ Below w.heap.size w w' := by
  have HB : Hid (∀ w', Below w.heap.size w w' → NodesAt w' ao b o N p G) := fun w' hb => h1.below hb
  clear h1
  go_enter Tryz.func4, Tryz.ntmps4
  go_wp2_with fail
  refine (g4 ao b o N c p G 1048576 _ (by omega) (by omega) (by exact (HB.out _ (bel1 _ _)))).mono ?_
  rintro e w2 ⟨r, rfl, hr, hb2⟩
  have B2 : Below w.heap.size w w2 := (bel1 w _).trans (hb2.mono (by simp))
  have k2 : w2.cell? ⟨w.heap.size, 0, none⟩ = some (.slice ao N c) := by rw [hb2.cell (p := ⟨w.heap.size, 0, none⟩) (by simp)]; simp
  have z2 : w.heap.size < w2.heap.size := by have := hb2.size; simp at this; omega
  clear hb2
  by_cases h3 : r < 0
  · go_wp2
    go_ret
    exact ⟨rfl, B2⟩
  obtain ⟨hn, hG⟩ := hr.ok (by omega)
  have H2 : Hid (∀ i, i < N → (G i).nn + (G i).nk ≤ 1048576) := hG
  have HG : Hid (∀ i, i < N → (G i).nn ≤ 1048576 ∧ (G i).nk ≤ 1048576) := fun i hi => by have := hG i hi; omega
  clear hr hG
  go_wp2_with fail
  refine (c6 ao b o N c p G _ (by exact (HB.out _ B2)) hn HG.out).mono ?_
  rintro e w4 ⟨b3, p3, rfl, N3, _, _, hb3⟩
  have B4 : Below w.heap.size w w4 := B2.trans (hb3.mono B2.size)
  have k4 : w4.cell? ⟨w.heap.size, 0, none⟩ = some (.slice ao N c) := (hb3.cell (p := ⟨w.heap.size, 0, none⟩) z2).trans k2
  have HN4 : Hid (NodesAt w4 (some ⟨b3, 0, none⟩) b3 0 N p3 G) := N3
  clear hb3 k2 B2 N3
  go_wp2_with fail
  refine (s_join (some ⟨b3, 0, none⟩) N A B w4 H2.out HN4.out).mono ?_
  intro e w5 hS
  obtain ⟨n, cc, z, hCI, hn1, hcb, oa, b5, cap, q5, rfl, N5, hb5⟩ := both_of H2.out hS
  have HCI : Hid (∀ (ao : Option Addr) (b o gc : Nat) (p : Nat → NP) (w : World), NodesAt w ao b o N p G → Calls Tryz.prog 19 #[.agg #[.slice ao N gc], .int .i64 A, .int .i64 B] w (JPost w n cc z)) := p_join hCI
  have HCB : Hid (∀ i, i < n → (cc i).nn ≤ 1048576 ∧ (cc i).nk ≤ 1048576) := hcb
  have hzz : (z != z) = false := by simp
  have B5 : Below w.heap.size w w5 := B4.trans (hb5.mono B4.size)
  have k5 : w5.cell? ⟨w.heap.size, 0, none⟩ = some (.slice ao N c) := (hb5.cell (p := ⟨w.heap.size, 0, none⟩) (World.block_lt_of_cell? _ _ k4)).trans k4
  obtain ⟨w6, hw6⟩ : ∃ w6, w6 = w5.alloc (.cells #[.slice oa n cap] 29) := ⟨_, rfl⟩
  have B56 : Below w5.heap.size w5 w6 := by rw [hw6]; exact bel1 _ _
  have z6 : Hid (w6.heap.size = w5.heap.size + 1) := by show _ = _; rw [hw6]; simp
  have k6 : w6.cell? ⟨w.heap.size, 0, none⟩ = some (.slice ao N c) := (B56.cell (p := ⟨w.heap.size, 0, none⟩) (World.block_lt_of_cell? _ _ k5)).trans k5
  have m6 : w6.cell? ⟨w5.heap.size, 0, none⟩ = some (.slice oa n cap) := by rw [hw6]; exact (row1 _ _ _).cell (i := 0) (by omega)
  have B6 : Below w.heap.size w w6 := B5.trans (B56.mono B5.size)
  have z5 : w.heap.size < w6.heap.size := World.block_lt_of_cell? _ _ k6
  have N6 := N5.below B56
  have HO : Hid (∀ W, Below w6.heap.size w6 W → (W.cell? ⟨w.heap.size, 0, none⟩ = some (.slice ao N c) ∧ W.cell? ⟨w5.heap.size, 0, none⟩ = some (.slice oa n cap)) ∧ NodesAt W ao b o N p G ∧ NodesAt W oa b5 0 n q5 cc ∧ Below w.heap.size w W) := fun W hW =>
    ⟨⟨(hW.cell (p := ⟨w.heap.size, 0, none⟩) z5).trans k6, (hW.cell (p := ⟨w5.heap.size, 0, none⟩) (by show w5.heap.size < w6.heap.size; have := z6.out; omega)).trans m6⟩, HB.out W (B6.trans (hW.mono B6.size)), N6.below hW, B6.trans (hW.mono B6.size)⟩
  clear hb5 k4 B4 hCI hcb HN4 N5 B5 B56 N6 m6 B6 hS
  have k6' := k6
  rw [hw6] at k6'
  go_wp2_with fail
  rw [← hw6]
  clear hw6 k6' k5
  refine (c6 ao b o N c p G w6 (HO.out w6 (Below.refl _ _)).2.1 hn HG.out).mono ?_
  rintro e w7 ⟨b7, p7, rfl, N7, O7, F7, hb7⟩
  have hs7 := hb7.size
  have HX7 : Hid (NodesAt w7 (some ⟨b7, 0, none⟩) b7 0 N p7 G ∧ OwnG w7 N b7 p7 G ∧ FreshG w6.heap.size N 0 b7 0 p7 G) := ⟨N7, O7, F7⟩
  obtain ⟨w9, hw9⟩ : ∃ w9, w9 = w7.alloc (.cells #[.slice (some ⟨b7, 0, none⟩) N N] 29) := ⟨_, rfl⟩
  have B79 : Hid (Below w7.heap.size w7 w9) := by rw [hw9]; exact bel1 _ _
  have z8 : Hid (w9.heap.size = w7.heap.size + 1) := by show _ = _; rw [hw9]; simp
  have m9 : w9.cell? ⟨w7.heap.size, 0, none⟩ = some (.slice (some ⟨b7, 0, none⟩) N N) := by rw [hw9]; exact (row1 _ _ _).cell (i := 0) (by omega)
  have B9 : Below w6.heap.size w6 w9 := hb7.trans (B79.out.mono hb7.size)
  clear hb7 N7 O7 F7 k6
  go_wp2_with fail
  rw [← hw9]
  clear hw9
  refine (HCI.out (some ⟨b7, 0, none⟩) b7 0 N p7 w9 (HX7.out.1.below B79.out)).mono ?_
  rintro e w10 ⟨ga, gb, gcap, gp, rfl, N10, O10, F10, hb10⟩
  have hs10 := hb10.size
  obtain ⟨w11, hw11⟩ : ∃ w11, w11 = w10.alloc (.cells #[.slice ga n gcap] 29) := ⟨_, rfl⟩
  have B1011 : Below w10.heap.size w10 w11 := by rw [hw11]; exact bel1 _ _
  have z11 : Hid (w11.heap.size = w10.heap.size + 1) := by show _ = _; rw [hw11]; simp
  have m11 : w11.cell? ⟨w10.heap.size, 0, none⟩ = some (.slice ga n gcap) := by rw [hw11]; exact (row1 _ _ _).cell (i := 0) (by omega)
  have B911 : Below w9.heap.size w9 w11 := hb10.trans (B1011.mono hb10.size)
  have x11 : w11.cell? ⟨w7.heap.size, 0, none⟩ = some (.slice (some ⟨b7, 0, none⟩) N N) := (B911.cell (p := ⟨w7.heap.size, 0, none⟩) (by show w7.heap.size < w9.heap.size; have := z8.out; omega)).trans m9
  have HFG : Hid (FreshG w9.heap.size n 0 gb 0 gp cc ∧ OwnG w10 n gb gp cc) := ⟨F10, O10⟩
  have B711 : Below w7.heap.size w7 w11 := B79.out.trans (B911.mono B79.out.size)
  have HX : Hid (∀ W, Below w11.heap.size w11 W → (W.cell? ⟨w7.heap.size, 0, none⟩ = some (.slice (some ⟨b7, 0, none⟩) N N) ∧ W.cell? ⟨w10.heap.size, 0, none⟩ = some (.slice ga n gcap)) ∧ (NodesAt W (some ⟨b7, 0, none⟩) b7 0 N p7 G ∧ OwnG W N b7 p7 G) ∧ (NodesAt W ga gb 0 n gp cc ∧ OwnG W n gb gp cc) ∧ Below w6.heap.size w6 W) := fun W hW => by
    have h7 : Below w7.heap.size w7 W := B711.trans (hW.mono B711.size)
    have h9 : Below w9.heap.size w9 W := B911.trans (hW.mono B911.size)
    have h10 : Below w10.heap.size w10 W := B1011.trans (hW.mono B1011.size)
    exact ⟨⟨(hW.cell (p := ⟨w7.heap.size, 0, none⟩) (by show w7.heap.size < w11.heap.size; have := z8.out; have := z11.out; omega)).trans x11, (hW.cell (p := ⟨w10.heap.size, 0, none⟩) (by show w10.heap.size < w11.heap.size; have := z11.out; omega)).trans m11⟩, ⟨HX7.out.1.below h7, HX7.out.2.1.below h7⟩, ⟨N10.below h10, O10.below h10⟩, B9.trans (h9.mono B9.size)⟩
  clear hb10 N10 O10 F10 B1011 m11 B911 x11 B711 m9 B79 B9
  obtain ⟨⟨y1, y2⟩, _, ⟨N11, _⟩, B611⟩ := HX.out w11 (Below.refl _ _)
  obtain ⟨⟨y3, y4⟩, _, NW, _⟩ := HO.out w11 B611
  have y2' := y2
  have y4' := y4
  rw [hw11] at y2' y4'
  have HE1 : Hid (NodesAt w11 ga gb 0 n gp cc ∧ NodesAt w11 oa b5 0 n q5 cc) := ⟨N11, NW⟩
  clear N11 NW B611 y1 y3
  go_wp2_with fail
  rw [← hw11]
  clear hw11 y2' y4' y2 y4
  refine (c8 ga oa gb 0 gcap b5 0 cap n gp q5 cc w11 HE1.out.1 HE1.out.2).mono ?_
  rintro e w13 ⟨rfl, hb13⟩
  have B13 : Hid (Below w11.heap.size w11 w13) := hb13
  clear hb13 HE1
  -- x0 is as it was
  go_wp2_with fail
  go_cut [53] (fun s53 wc => s53 = .bool false ∧ Hid (Below w11.heap.size w11 wc))
  case first =>
    obtain ⟨⟨y1, _⟩, ⟨NX, _⟩, _, B613⟩ := HX.out w13 B13.out
    obtain ⟨⟨y3, _⟩, NA, _, _⟩ := HO.out w13 B613
    have HNA : Hid (∀ W, Below w13.heap.size w13 W → NodesAt W ao b o N p G ∧ NodesAt W (some ⟨b7, 0, none⟩) b7 0 N p7 G) := fun W hW => ⟨NA.below hW, NX.below hW⟩
    have HTG : Hid (∀ W, Below w13.heap.size w13 W → Calls Tryz.prog 9 #[.agg #[.slice ao N c]] W fun e w' => ∃ bq pq, e = .returned (.agg #[.slice (some ⟨bq, 0, none⟩) N N]) ∧ w'.cell? ⟨w7.heap.size, 0, none⟩ = some (.slice (some ⟨b7, 0, none⟩) N N) ∧ w'.cell? ⟨w.heap.size, 0, none⟩ = some (.slice ao N c) ∧ Hid (NodesAt w' (some ⟨bq, 0, none⟩) bq 0 N pq G ∧ Below w13.heap.size w13 w')) := fun W hW => by
      refine (c6 ao b o N c p G W (HNA.out W hW).1 hn HG.out).mono ?_
      rintro e w' ⟨bq, pq, rfl, h1, _, _, h2⟩
      have h3 : Below w13.heap.size w13 w' := hW.trans (h2.mono hW.size)
      exact ⟨bq, pq, rfl, (h3.cell (p := ⟨w7.heap.size, 0, none⟩) (World.block_lt_of_cell? _ _ y1)).trans y1, (h3.cell (p := ⟨w.heap.size, 0, none⟩) (World.block_lt_of_cell? _ _ y3)).trans y3, h1, h3⟩
    clear NX NA B613
    go_region_held3 (fun w' => w'.cell? ⟨w7.heap.size, 0, none⟩ = some (.slice (some ⟨b7, 0, none⟩) N N) ∧ w'.cell? ⟨w.heap.size, 0, none⟩ = some (.slice ao N c)) (go_keep)
      (first
        | (go_at_call 9; refine (HTG.out _ (by first | exact Below.refl _ _ | exact (Below.refl _ _).drew | exact below_drewN (Below.refl _ _) _)).mono ?_; rintro e wq ⟨bq, pq, rfl, u1, u2, HQ⟩)
        | (go_at_call 12; refine (c8 (some ⟨b7, 0, none⟩) (some ⟨bq, 0, none⟩) b7 0 N bq 0 N N p7 pq G _ (by first | exact (HNA.out wq HQ.out.2).2 | exact (HNA.out _ HQ.out.2.drew).2) (by first | exact HQ.out.1 | exact HQ.out.1.below ((Below.refl _ _).drew))).mono ?_; rintro e wv ⟨rfl, hbv⟩; have u3 := (hbv.cell (p := ⟨w7.heap.size, 0, none⟩) (World.block_lt_of_cell? _ _ u1)).trans u1; have u4 := (hbv.cell (p := ⟨w.heap.size, 0, none⟩) (World.block_lt_of_cell? _ _ u2)).trans u2))
    all_goals
      have BV : Hid (Below w11.heap.size w11 wv) := B13.out.trans ((HQ.out.2.trans (by first | exact hbv.mono HQ.out.2.size | exact ((Below.refl _ _).drew.trans hbv).mono HQ.out.2.size)).mono B13.out.size)
      clear hbv HQ
      go_wp2
      go_meet
      case rel => exact ⟨rfl, by first | exact BV | exact BV.out.drew | exact below_drewN BV.out _⟩
  obtain ⟨rfl, B16⟩ := hcut
  obtain ⟨w16, hw16⟩ : ∃ w16, w16 = wc := ⟨_, rfl⟩
  subst hw16
  clear B13
  -- marks on the argument
  obtain ⟨⟨y1, _⟩, ⟨NX, OX⟩, _, _⟩ := HX.out w16 B16.out
  have HM1 : Hid (NodesAt w16 (some ⟨b7, 0, none⟩) b7 0 N p7 G ∧ OwnG w16 N b7 p7 G) := ⟨NX, OX⟩
  clear NX OX
  go_wp2_with fail
  refine (t_markGraph _ (some ⟨b7, 0, none⟩) b7 0 N N p7 G 1 w16 rfl HM1.out.1 HM1.out.2 (by omega) (by omega) hn HG.out).mono ?_
  rintro e w18 ⟨rfl, _, _, F17⟩
  have K18 : Hid (∀ j, j < w16.heap.size → (j < w6.heap.size ∨ w7.heap.size ≤ j) → w18.heap[j]? = w16.heap[j]?) := fun j hj hh => by
    obtain ⟨_, o7, f7⟩ := HX7.out
    refine F17.block j hj (fun z e => ?_) (fun i hi => ⟨fun z e => ?_, fun z e => ?_⟩)
    · have h1 := f7.row; have h2 := (o7.row z).lt; omega
    · have h1 := (f7.node i hi).1 z; have h2 := ((o7.node i hi).1 z).1.lt; omega
    · have h1 := (f7.node i hi).2 z; have h2 := ((o7.node i hi).2 z).1.lt; omega
  have H18 : Hid (w18.os = w16.os ∧ w18.tape = w16.tape ∧ w18.output = w16.output ∧ w16.heap.size ≤ w18.heap.size) := ⟨F17.os, F17.tape, F17.output, F17.size⟩
  have HY : Hid (w18.cell? ⟨w10.heap.size, 0, none⟩ = some (.slice ga n gcap) ∧ (NodesAt w18 ga gb 0 n gp cc ∧ OwnG w18 n gb gp cc) ∧ Below w6.heap.size w6 w18) := by
    obtain ⟨⟨_, y2⟩, _, ⟨NG, OG⟩, B6⟩ := HX.out w16 B16.out
    obtain ⟨f10, o10⟩ := HFG.out
    have h8 := z8.out
    have k : ∀ j, j < w16.heap.size → w9.heap.size ≤ j → w18.heap[j]? = w16.heap[j]? := fun j hj hh => K18.out j hj (Or.inr (by omega))
    have kn : ∀ i, i < n → (0 < (cc i).nn → w18.heap[(gp i).b1]? = w16.heap[(gp i).b1]?) ∧ (0 < (cc i).nk → w18.heap[(gp i).b2]? = w16.heap[(gp i).b2]?) := fun i hi => ⟨fun z => k _ ((OG.node i hi).1 z).1.lt ((f10.node i hi).1 z), fun z => k _ ((OG.node i hi).2 z).1.lt ((f10.node i hi).2 z)⟩
    refine ⟨(World.cell?_of_block (k _ (World.block_lt_of_cell? _ _ y2) (by show w9.heap.size ≤ w10.heap.size; omega))).trans y2, ⟨NG.blocksJ (fun z => k _ (OG.row z).lt f10.row) kn, OG.of (fun z => k _ (OG.row z).lt f10.row) kn⟩, ?_⟩
    exact ⟨H18.out.1.trans B6.os, H18.out.2.1.trans B6.tape, H18.out.2.2.1.trans B6.output, Nat.le_trans B6.size H18.out.2.2.2, fun j hj => (K18.out j (Nat.lt_of_lt_of_le hj B6.size) (Or.inl hj)).trans (B6.block j hj)⟩
  obtain ⟨u, hu⟩ : ∃ y : Nat, y = cntN 1 G N := ⟨_, rfl⟩
  have hu2 : u ≤ 2199025352705 := by have := (cntN_le 1 G N HG.out N (Nat.le_refl _)).2; omega
  rw [← hu]
  have hu0 : ¬ (u : Int) < 0 := by omega
  clear F17 hu HM1 y1 K18 H18 B16 HX
  -- the answer is as it was
  obtain ⟨y2, ⟨NG, _⟩, B18⟩ := HY.out
  obtain ⟨⟨_, y4⟩, _, NW, _⟩ := HO.out w18 B18
  have HE3 : Hid (NodesAt w18 ga gb 0 n gp cc ∧ NodesAt w18 oa b5 0 n q5 cc) := ⟨NG, NW⟩
  clear NG NW B18
  go_wp2_with fail
  refine (c8 ga oa gb 0 gcap b5 0 cap n gp q5 cc w18 HE3.out.1 HE3.out.2).mono ?_
  rintro e w20 ⟨rfl, B20⟩
  have y20 : w20.cell? ⟨w10.heap.size, 0, none⟩ = some (.slice ga n gcap) := (B20.cell (p := ⟨w10.heap.size, 0, none⟩) (World.block_lt_of_cell? _ _ y2)).trans y2
  have HZ : Hid ((NodesAt w20 ga gb 0 n gp cc ∧ OwnG w20 n gb gp cc) ∧ Below w6.heap.size w6 w20) := by
    obtain ⟨_, ⟨NG, OG⟩, B6⟩ := HY.out
    exact ⟨⟨NG.below B20, OG.below B20⟩, B6.trans (B20.mono B6.size)⟩
  clear HE3 HY B20 y2 y4
  -- marks on the answer
  go_wp2_with fail
  refine (t_markGraph _ ga gb 0 n gcap gp cc 1 w20 rfl HZ.out.1.1 HZ.out.1.2 (by omega) (by omega) hn1 HCB.out).mono ?_
  rintro e w22 ⟨rfl, N21, _, F21⟩
  have HN22 : Hid (NodesAt w22 ga gb 0 n gp (MGr 1 cc)) := N21
  have y22 : w22.cell? ⟨w10.heap.size, 0, none⟩ = some (.slice ga n gcap) := by
    obtain ⟨f10, o10⟩ := HFG.out
    refine (World.cell?_of_block (F21.block w10.heap.size (World.block_lt_of_cell? _ _ y20) (fun z e => ?_) (fun i hi => ⟨fun z e => ?_, fun z e => ?_⟩))).trans y20
    · have := (o10.row z).lt; omega
    · have := ((o10.node i hi).1 z).1.lt; omega
    · have := ((o10.node i hi).2 z).1.lt; omega
  have B22 : Hid (Below w6.heap.size w6 w22) := by
    obtain ⟨f10, o10⟩ := HFG.out
    have B6 := HZ.out.2
    have h8 := z8.out
    refine ⟨F21.os.trans B6.os, F21.tape.trans B6.tape, F21.output.trans B6.output, Nat.le_trans B6.size F21.size, fun j hj => (F21.block j (Nat.lt_of_lt_of_le hj B6.size) (fun z e => ?_) (fun i hi => ⟨fun z e => ?_, fun z e => ?_⟩)).trans (B6.block j hj)⟩
    · have := f10.row; omega
    · have := (f10.node i hi).1 z; omega
    · have := (f10.node i hi).2 z; omega
  obtain ⟨m, hm⟩ : ∃ m : Nat, m = cntN 1 cc n := ⟨_, rfl⟩
  have HMM : Hid (cntN 1 cc n = m) := hm.symm
  have hm2 : m ≤ 2199025352705 := by have := (cntN_le 1 cc n HCB.out n (Nat.le_refl _)).2; omega
  rw [← hm]
  have hm0 : ¬ (m : Int) < 0 := by omega
  clear N21 F21 hm y20 HZ
  -- the marks are held
  go_wp2_with fail
  refine (t_heldGraph _ ga gb 0 n gcap gp cc 1 w22 rfl HN22.out (by omega) (by omega) hn1 HCB.out).mono ?_
  rintro e w24 ⟨rfl, hb23⟩
  rw [HMM.out]
  have B24 : Hid (Below w6.heap.size w6 w24) := B22.out.trans (hb23.mono B22.out.size)
  clear hb23 HN22 B22 y22
  -- once more
  obtain ⟨⟨y3, _⟩, NA, _, _⟩ := HO.out w24 B24.out
  go_wp2_with fail
  refine (c6 ao b o N c p G _ (by exact NA) hn HG.out).mono ?_
  rintro e w26 ⟨b25, p25, rfl, N25, _, _, hb25⟩
  have HN26 : Hid (NodesAt w26 (some ⟨b25, 0, none⟩) b25 0 N p25 G) := N25
  have B26 : Hid (Below w6.heap.size w6 w26) := B24.out.trans (hb25.mono B24.out.size)
  clear hb25 N25 NA y3 B24
  go_wp2_with fail
  refine (HCI.out (some ⟨b25, 0, none⟩) b25 0 N p25 w26 HN26.out).mono ?_
  rintro e w27 ⟨ja, jb, jcap, jp, rfl, N27, _, _, hb27⟩
  have B27 : Below w6.heap.size w6 w27 := B26.out.trans (hb27.mono B26.out.size)
  obtain ⟨w28, hw28⟩ : ∃ w28, w28 = w27.alloc (.cells #[.slice ja n jcap] 29) := ⟨_, rfl⟩
  have B28 : Below w27.heap.size w27 w28 := by rw [hw28]; exact bel1 _ _
  have B628 : Below w6.heap.size w6 w28 := B27.trans (B28.mono B27.size)
  obtain ⟨⟨_, y4⟩, _, NW, BW⟩ := HO.out w28 B628
  have HE5 : Hid ((NodesAt w28 ja jb 0 n jp cc ∧ NodesAt w28 oa b5 0 n q5 cc) ∧ Below w.heap.size w w28) := ⟨⟨N27.below B28, NW⟩, BW⟩
  have y5 : w28.cell? ⟨w27.heap.size, 0, none⟩ = some (.slice ja n jcap) := by rw [hw28]; exact (row1 _ _ _).cell (i := 0) (by omega)
  rw [hw28] at y4 y5
  clear N27 NW BW B27 B28 B628 hb27 HN26 B26
  go_wp2_with fail
  rw [← hw28]
  clear hw28 y4 y5
  refine (c8 ja oa jb 0 jcap b5 0 cap n jp q5 cc w28 HE5.out.1.1 HE5.out.1.2).mono ?_
  rintro e w30 ⟨rfl, hb29⟩
  have B30 : Below w.heap.size w w30 := HE5.out.2.trans (hb29.mono HE5.out.2.size)
  clear HE5 hb29
  go_wp2
  go_ret
  exact ⟨rfl, B30⟩

end Go.Proofs.YtpbpbppimkeodaaGreatDoor

namespace Go.Proofs.YtpbpbppimkeodaaGreatDoor
open Go.ChangeShapes Go.WideShapes Go.ChangeAt Go.RowKit Go.Deep

theorem Tryz.cells3 : Tryz.prog.cellsOf 3 = 1 := by kernel_rfl
theorem Tryz.cells9 : Tryz.prog.cellsOf 9 = 1 := by kernel_rfl
theorem Tryz.cells22 : Tryz.prog.cellsOf 22 = 1 := by kernel_rfl
theorem Tryz.cells24 : Tryz.prog.cellsOf 24 = 1 := by kernel_rfl
theorem Tryz.cells46 : Tryz.prog.cellsOf 46 = 1 := by kernel_rfl
theorem Tryz.cells25 : Tryz.prog.cellsOf 25 = 1 := by kernel_rfl
theorem Tryz.cells72 : Tryz.prog.cellsOf 72 = 3 := by kernel_rfl

theorem addr_plain {w : World} {a : Addr} {v : Value} (h : w.cell? (a.add 0) = some v) : a = ⟨a.block, a.off, none⟩ := by
  obtain ⟨b, o, s⟩ := a
  have hs : s = none := by simpa [Addr.add] using World.cell?_spot h
  subst hs; rfl

theorem addr_at {w : World} {a : Addr} {v : Value} {i : Nat} (hp : a = ⟨a.block, a.off, none⟩) (h : w.cell? (a.add i) = some v) : w.cell? ⟨a.block, a.off + i, none⟩ = some v := by
  rw [hp, add_plain] at h; exact h

section
variable {H : Type} {enc : TypeId × Value → H} {W : World} {held : Bool}

theorem strs_open {fuel : Nat} {cs : List Value} {x : DataW H × List MemPlace} (h : DataW.trod enc Tryz.prog W 0 (fun _ => true) held fuel 46 cs = some x) :
    ∃ ao b o n c S, cs = [.slice ao n c] ∧ StrsAt W ao b o n S := by
  rcases open_strs Tryz.underlying46 Tryz.underlying9 Tryz.cells9 h with ⟨rfl, _⟩ | ⟨a, len, cap, m, Sx, rfl, _, hl, hm, hmm, _, hx⟩
  · exact ⟨none, 0, 0, 0, 0, fun _ => ByteArray.empty, rfl, ⟨fun h => absurd h (Nat.lt_irrefl _), fun i h => absurd h (Nat.not_lt_zero _), fun i h => absurd h (Nat.not_lt_zero _), by omega⟩⟩
  · simp only [if_true] at hmm
    subst hmm
    unfold maxLen at hm hx
    refine ⟨some a, a.block, a.off, len, m, Sx, rfl, ⟨fun hp => congrArg some (addr_plain (hx 0 (by omega)).1), fun i hi => addr_at (addr_plain (hx 0 (by omega)).1) (hx i (by omega)).1, fun i hi => ?_, by omega⟩⟩
    have := (hx i (by omega)).2
    omega

theorem ints_open {fuel : Nat} {cs : List Value} {x : DataW H × List MemPlace} (h : DataW.trod enc Tryz.prog W 0 (fun _ => true) held fuel 25 cs = some x) :
    ∃ ao b o n c D, cs = [.slice ao n c] ∧ IntsAt W ao b o n D := by
  rcases open_ints Tryz.underlying25 Tryz.underlying3 Tryz.cells3 h with ⟨rfl, _⟩ | ⟨a, len, cap, zs, rfl, _, hl, hm, hz, _, hx, _⟩
  · exact ⟨none, 0, 0, 0, 0, fun _ => 0, rfl, ⟨fun h => absurd h (Nat.lt_irrefl _), fun i h => absurd h (Nat.not_lt_zero _), by omega⟩⟩
  · simp only [if_true] at hz
    unfold maxLen at hm
    exact ⟨some a, a.block, a.off, len, cap, fun i => zs.getD i 0, rfl, ⟨fun hp => congrArg some (addr_plain (hx 0 (by omega))), fun i hi => addr_at (addr_plain (hx 0 (by omega))) (hx i (by omega)), by omega⟩⟩

set_option maxRecDepth 100000 in
theorem node_open {fuel : Nat} {cs : List Value} {x : DataW H × List MemPlace} (h : DataW.trod enc Tryz.prog W 0 (fun _ => true) held fuel 72 cs = some x) :
    ∃ y : NP × ND, cs = [.int .i64 y.2.kind, .slice y.1.a1 y.2.nn y.1.c1, .slice y.1.a2 y.2.nk y.1.c2] ∧ NodeAt W y.1 y.2 := by
  obtain ⟨y0, y1, y2, n, _, hlen, h0, h1, h2⟩ := trod_struct3 Tryz.underlying72 h
  rw [Tryz.cells72] at hlen
  match cs, hlen with
  | [v0, v1, v2], _ =>
    simp only [Tryz.cells3, Tryz.cells46, Tryz.cells25, List.drop_zero, List.drop_succ_cons, List.take_succ_cons, List.take_zero] at h0 h1 h2
    obtain ⟨k, hk, _, _⟩ := DataW.trod_int Tryz.underlying3 h0
    obtain ⟨a1, b1, o1, n1, c1, S, hs, q1⟩ := strs_open h1
    obtain ⟨a2, b2, o2, n2, c2, D, hd, q2⟩ := ints_open h2
    simp only [List.cons.injEq, and_true] at hk hs hd
    subst hk hs hd
    exact ⟨(⟨a1, b1, o1, c1, a2, b2, o2, c2⟩, ⟨k, n1, S, n2, D⟩), rfl, ⟨q1, q2⟩⟩

theorem nodes_open {fuel : Nat} {cs : List Value} {x : DataW H × List MemPlace} (h : DataW.trod enc Tryz.prog W 0 (fun _ => true) held fuel 22 cs = some x) :
    ∃ ao b o n c p G, cs = [.slice ao n c] ∧ NodesAt W ao b o n p G := by
  have hin : Inhabited (NP × ND) := ⟨(⟨none, 0, 0, 0, none, 0, 0, 0⟩, ⟨0, 0, fun _ => ByteArray.empty, 0, fun _ => 0⟩)⟩
  rcases open_slice Tryz.underlying22 h with ⟨rfl, _⟩ | ⟨a, len, cap, m, n, D, Pl, rfl, _, hl, hm, hmm, _, hx⟩
  · exact ⟨none, 0, 0, 0, 0, fun _ => hin.default.1, fun _ => hin.default.2, rfl, ⟨fun h => absurd h (Nat.lt_irrefl _), fun i h => absurd h (Nat.not_lt_zero _), fun i h => absurd h (Nat.not_lt_zero _), fun i h => absurd h (Nat.not_lt_zero _), fun i h => absurd h (Nat.not_lt_zero _), by omega⟩⟩
  · simp only [if_true] at hmm
    subst hmm
    rw [Tryz.cells72] at hx
    have each : ∀ i, i < m → ∃ y : NP × ND, (W.cell? (a.add (i * 3)) = some (.int .i64 y.2.kind) ∧ W.cell? (a.add (i * 3 + 1)) = some (.slice y.1.a1 y.2.nn y.1.c1) ∧ W.cell? (a.add (i * 3 + 2)) = some (.slice y.1.a2 y.2.nk y.1.c2)) ∧ NodeAt W y.1 y.2 := by
      intro i hi
      obtain ⟨cs', h1, h2⟩ := hx i hi
      obtain ⟨y, rfl, hy⟩ := node_open h2
      obtain ⟨_, _, hc⟩ := World.cells?_some h1
      have e0 := hc 0 (by omega)
      have e1 := hc 1 (by omega)
      have e2 := hc 2 (by omega)
      rw [add_add] at e0 e1 e2
      exact ⟨y, ⟨e0, e1, e2⟩, hy⟩
    obtain ⟨y, hy⟩ := choose_lt each
    unfold maxLen at hm
    have hp : 0 < len → a = ⟨a.block, a.off, none⟩ := fun hp => by
      have := (hy 0 (by omega)).1.1
      rw [Nat.zero_mul] at this
      exact addr_plain this
    refine ⟨some a, a.block, a.off, len, m, fun i => (y i).1, fun i => (y i).2, rfl, ⟨fun h => congrArg some (hp h), fun i hi => addr_at (hp (by omega)) (hy i (by omega)).1.1, fun i hi => ?_, fun i hi => ?_, fun i hi => (hy i (by omega)).2, by omega⟩⟩
    · have := addr_at (hp (by omega)) (hy i (by omega)).1.2.1
      rw [Nat.add_assoc]; exact this
    · have := addr_at (hp (by omega)) (hy i (by omega)).1.2.2
      rw [Nat.add_assoc]; exact this

end
end Go.Proofs.YtpbpbppimkeodaaGreatDoor

namespace Go.Proofs.YtpbpbppimkeodaaGreatDoor
open Go Go.ChangeShapes Go.WideShapes Go.ChangeAt Go.RowKit

theorem Tryz.own : ownKnob Tryz.prog.godebug = none := by kernel_rfl
theorem Tryz.laidOut : laidOutB Tryz.prog = true := by kernel_rfl

theorem array1 {α : Type} {cs : Array α} (h : cs.size = 1) : ∃ c0, cs = #[c0] := by
  obtain ⟨l⟩ := cs
  match l, h with
  | [c0], _ => exact ⟨c0, rfl⟩

set_option maxRecDepth 100000 in
theorem graph_open {H : Type} {enc : TypeId × Value → H} {W : World} {held : Bool} {r : Reach} {b0 : Nat} {v : Value} {d : DataW H} {p : List MemPlace}
    (hv : Value.okWide Tryz.prog W r b0 24 v) (h : DataW.Trod enc Tryz.prog W 0 (fun _ => true) held 24 v d p) :
    ∃ ao b o n c q G, v = .agg #[.slice ao n c] ∧ NodesAt W ao b o n q G := by
  obtain ⟨cs, rfl, hsz⟩ := okWide_struct Tryz.underlying24 hv
  obtain ⟨c0, rfl⟩ := array1 (hsz.trans Tryz.cells24)
  obtain ⟨fuel, hf⟩ := h
  obtain ⟨y0, n, _, _, h0⟩ := trod_struct1 Tryz.underlying24 hf
  obtain ⟨ao, b, o, n', c, q, G, hcs, hN⟩ := nodes_open h0
  simp [Value.cells, Tryz.cells22] at hcs
  subst hcs
  exact ⟨ao, b, o, n', c, q, G, rfl, hN⟩

/-- The wrap: the laid variables and the world's shape handed on. -/
theorem returns_laid {H : Type} {enc : TypeId × Value → H} {C : Checked} {os : Os} {f : FuncId} {fn : Func} {s : ChangeSpec} {conds : List PathCond} {apart fresh handsOn again : Bool} {X : World → Array Value → Prop}
    (hX : ∀ (w w' : World) (args : Array Value), w.heap = w'.heap → X w args → X w' args) (own : ownKnob C.prog.godebug = none) (started : os.Started) (noInit : C.prog.inits.idxOf? f = none) (hfn : C.prog.funcs[f]? = some fn)
    (witness : ∃ (w : World) (tape : Tape) (i : Input), w.os = os ∧ (w.forCall tape i).Shaped C.prog ∧ i.vars = [] ∧ Input.okWide C.prog (w.forCall tape i) .any w.heap.size f i ∧
      ((s.pre enc C.prog fn conds apart (w.forCall tape i).memory i.args ∧ X (w.forCall tape i).memory i.args) ∧ sizedMet enc C.prog fn (OpenSpec.ofChange s) apart (w.forCall tape i).memory i.args) ∧ ({} : Assume).holds C.prog (lone (Frame.enter C.prog f i.args .normal) [] (w.forCall tape i)))
    (contract : ∀ (W : World) (base : Nat) (args : Array Value) (ds gs : List (DataW H)) (before : List MemPlace), (∀ (j : Nat) t v, fn.params[j]? = some t → args[j]? = some v → Value.okWide C.prog W .any base t v) →
      DataW.Whole enc C.prog fn.params.toList s.vars apart W args.toList ds gs before → W.ShapedOpen C.prog → X W args →
      Calls C.prog f args W fun e W' => ∃ v, e = .returned v ∧ s.post enc C.prog fn apart fresh handsOn again W args v W') :
    ReturnsInHanded {} C os f .any (fun w args => (s.pre enc C.prog fn conds apart w args ∧ X w args) ∧ sizedMet enc C.prog fn (OpenSpec.ofChange s) apart w args) (s.post enc C.prog fn apart fresh handsOn again) := by
  refine returnsInHanded_of_calls own started noInit witness ?_
  intro w tape i _ hsh _ hok hpre _
  obtain ⟨_, _, _, fn2, hfn2, _, _, _, _, hval⟩ := hok
  obtain rfl : fn2 = fn := Option.some.inj (hfn2.symm.trans hfn)
  obtain ⟨⟨⟨ds, gs, before, hw, _⟩, hx⟩, _⟩ := hpre
  refine (contract (w.forCall tape i) w.heap.size i.args ds gs before hval (DataW.Whole.of_heap (w' := w.forCall tape i) (by rfl) hw) hsh (hX (w.forCall tape i).memory _ _ rfl hx)).mono fun e W' ⟨v, he, hp⟩ => ?_
  subst he
  exact ChangeSpec.post_blind hp

set_option maxRecDepth 100000 in
theorem join_lifted (os : Os) (started : os.Started) (H : Type) (enc : TypeId × Value → H) :
    ReturnsInHanded {} Tryz.checked os 4 .any (fun w args => (Rows.fnExactJoinSpec.pre enc Tryz.prog Tryz.f4 Rows.fnExactJoinRow.domain false w args ∧ laidMetH Tryz.prog Rows.fnExactJoinRow.laid w) ∧ sizedMet enc Tryz.prog Tryz.f4 (OpenSpec.ofChange Rows.fnExactJoinSpec) false w args)
      (Rows.fnExactJoinSpec.post enc Tryz.prog Tryz.f4 false true false false) := by
  refine returns_laid (C := Tryz.checked) (X := fun w _ => laidMetH Tryz.prog Rows.fnExactJoinRow.laid w) (fun _ _ _ hh h => h.of_heap hh) Tryz.own started (by kernel_rfl) Tryz.func4
    (ChangeSpec.witness_shaped (enc := enc) (C := Tryz.checked) (os := os) (X := fun w _ => laidMetH Tryz.prog Rows.fnExactJoinRow.laid w) false (World.laidAll Tryz.prog os Rows.fnExactJoinRow.laid) #[.agg #[.slice none 0 0], .int .i64 0, .int .i64 0] 8 (World.laidAll_os _ _ _)
      (World.shaped_of_ZipB (by kernel_rfl) (by kernel_rfl)) (by kernel_rfl) (by kernel_rfl) (by kernel_rfl)
      (by rw [MakeChecks.laidMetH_plain _ _ _ (by kernel_rfl)]; exact laidMet_laidAll _ (by kernel_rfl) (by kernel_rfl))) ?_
  intro W base args ds gs before hval0 hW hsh hL
  have hval : ∀ (j : Nat) t v, Tryz.f4.params[j]? = some t → args[j]? = some v → Value.okWide Tryz.prog W .any base t v := hval0
  have hW' := hW
  obtain ⟨p, q, hA0, hV, rfl, hfz, hnd⟩ := hW
  have hA : DataW.TrodAll enc Tryz.prog W 0 (fun _ => true) true Tryz.f4.params.toList args.toList ds p := hA0
  rw [Tryz.params4] at hA hval
  obtain ⟨v0, vs0, d0, ds0, p0, q0, hargs, rfl, rfl, h0, r0⟩ := trodAll_cons hA
  obtain ⟨v1, vs1, d1, ds1, p1, q1, rfl, rfl, rfl, h1, r1⟩ := trodAll_cons r0
  obtain ⟨v2, vs2, d2, ds2, p2, q2, rfl, rfl, rfl, h2, r2⟩ := trodAll_cons r1
  obtain ⟨rfl, rfl, rfl⟩ := trodAll_nil r2
  obtain rfl : args = #[v0, v1, v2] := by cases args; simp_all
  obtain ⟨rfl, rfl⟩ := trodVars_none hV
  have k0 := h0
  have lt0 : ∀ x ∈ p0, x.block < W.heap.size := by obtain ⟨m, hm⟩ := k0; exact DataW.trod_lt m _ _ _ hm
  obtain ⟨ao, b, o, n, c, pp, G, rfl, hN⟩ := graph_open (hval 0 24 v0 rfl rfl) h0
  obtain ⟨a1, rfl, rfl, rfl, w1⟩ := open_int Tryz.underlying3 (hval 1 3 v1 rfl rfl) h1
  obtain ⟨a2, rfl, rfl, rfl, w2⟩ := open_int Tryz.underlying3 (hval 2 3 v2 rfl rfl) h2
  clear hA0 hval0
  refine (l_Join ao b o n c pp G a1 a2 W hN).mono fun e W' ⟨he, bel⟩ => ?_
  subst he
  exact ⟨_, rfl, _, _, _, [], _, [], hW', trodAll_mk1 (shut_bool Tryz.underlying4 _), (trodAll_cons_mk (Below.trod Tryz.laidOut (by kernel_rfl) (of_decide_eq_true (by kernel_rfl)) k0 bel lt0) (trodAll_cons_mk (shut_int Tryz.underlying3 w1) (trodAll_cons_mk (shut_int Tryz.underlying3 w2) trodAll_mk0))), rfl, bel.frame _, fun h => by cases h⟩

theorem join_holds : Rows.FnExactJoinSaid :=
  OpenClaim.holds_of_wide 4 Tryz.f4 rfl rfl rfl rfl rfl rfl rfl ⟨rfl, rfl, rfl, rfl, rfl⟩ rfl rfl rfl rfl rfl (by kernel_rfl) Tryz.func4 (by kernel_rfl)
    (of_decide_eq_true (by kernel_rfl)) (by unfold Func.isWrapper; first | (rw [if_pos (by decide +kernel)]; kernel_rfl) | (rw [if_neg (by decide +kernel)]; exact ⟨rfl, rfl⟩))
    (fun os started H enc _ => join_lifted os started H enc)

theorem join_card : Rows.FnExactJoinCardSaid :=
  Claim7.holds_tied_plain_at .later [] [.data, .data, .data] true (true, "221930eddad2ea86b6cd3aee818afb3f2daf66fce410d7a7d7f051112ebce933") false join_holds (fun _ h => by cases h) (by kernel_rfl) (fun _ h => by cases h) fnExactJoin_row_tie rfl ⟨rfl, rfl⟩ (by kernel_rfl) rfl
    (fun f fn hf hfn => by
      obtain rfl : f = 4 := Option.some.inj ((show Tryz.prog.funcNamed "loop.example/s15618/laws.FnExactJoin" = some 4 by kernel_rfl).symm.trans hf) |>.symm
      obtain rfl : fn = Tryz.f4 := (Option.some.inj (Tryz.func4.symm.trans hfn)).symm
      exact ⟨by kernel_rfl, fun j t ht => by
        rw [Tryz.params4] at ht
        have hm : t ∈ [24, 3, 3] := by simpa using Array.mem_of_getElem? ht
        have hall : ([24, 3, 3].all fun u => !Tryz.prog.wantsStandIn u) = true := by kernel_rfl
        exact (show Tryz.prog.wantsStandIn t = false by simpa using List.all_eq_true.1 hall t hm)⟩)
    (by kernel_rfl)
#print axioms join_card

end Go.Proofs.YtpbpbppimkeodaaGreatDoor

