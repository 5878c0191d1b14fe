/-
  Tables: the law's marks on keys.
-/
import Derived.Test.YtijgiingfgaakaaTabU
import Derived.Laws.BytesString
import Derived.Deep.RegionHeld3
namespace Go.Proofs.Ytijgiingfgaakaa
open Go.RowKit

/-- The digits of a number, ahead of what is there. -/
def mdig (k : Nat) (acc : List UInt8) : List UInt8 := if k = 0 then acc else mdig (k / 10) (UInt8.ofNat (48 + k % 10) :: acc)
termination_by k
decreasing_by omega
theorem mdig_zero (acc : List UInt8) : mdig 0 acc = acc := by rw [mdig, if_pos rfl]
theorem mdig_step {k : Nat} (h : k ≠ 0) (acc : List UInt8) : mdig k acc = mdig (k / 10) (UInt8.ofNat (48 + k % 10) :: acc) := by
  rw [mdig, if_neg h]

/-- The text that marks a number above 0. -/
def mt (k : Nat) : ByteArray := ⟨(109 :: mdig k []).toArray⟩

theorem mdig_len : ∀ (j k : Nat) (acc : List UInt8), k ≤ j → (mdig k acc).length ≤ k + acc.length := by
  intro j
  induction j with
  | zero => intro k acc h; have : k = 0 := by omega
            subst this; rw [mdig_zero]; omega
  | succ j ih =>
    intro k acc h
    by_cases e : k = 0
    · subst e; rw [mdig_zero]; omega
    · rw [mdig_step e]
      have := ih (k / 10) (UInt8.ofNat (48 + k % 10) :: acc) (by omega)
      rw [List.length_cons] at this
      omega
theorem mt_size (k : Nat) : (mt k).size ≤ k + 1 := by
  have := mdig_len k k [] (Nat.le_refl _)
  show (109 :: mdig k []).toArray.size ≤ _
  simp at this ⊢
  omega

theorem cell_one_new (w : World) (v : Value) (t : TypeId) : ∀ j u, [v][j]? = some u → (w.alloc (.cells #[v] t)).cell? ((⟨w.heap.size, 0, none⟩ : Addr).add j) = some u := by
  intro j u h
  match j, h with
  | 0, h => simp at h; subst h; simp [Addr.add]

theorem conv_one (W : World) (n : Int) : (convert 118 9 (.slice (some ⟨W.heap.size, 0, none⟩) 1 1)).run Try.prog (W.alloc (.cells #[.int .u8 n] 5)) = .ok (.string ⟨#[UInt8.ofNat n.toNat]⟩) (W.alloc (.cells #[.int .u8 n] 5)) := by
  rw [run_convert_bytes_string _ 118 9 5 _ 1 1 Try.underlying118 Try.underlying5 Try.underlying9]
  have := run_bytesToString (P := Try.prog) (W.alloc (.cells #[.int .u8 n] 5)) ⟨W.heap.size, 0, none⟩ 1 1 [n] (run_loadCells_list _ ⟨W.heap.size, 0, none⟩ [.int .u8 n] (cell_one_new W (.int .u8 n) 5))
  exact this

set_option maxRecDepth 100000 in
set_option maxHeartbeats 2000000 in
theorem t_markText (z : Int) (k : Nat) (w : World) (hz : z = (k : Int)) (hk : 0 < k) (hk2 : k ≤ 4611686018427387904) :
    Calls Try.prog 59 #[.int .i64 z] w fun e w' => e = .returned (.string (mt k)) ∧ Below w.heap.size w w' := by
  subst hz
  have h0 : ¬ (k : Int) ≤ 0 := by omega
  go_enter Try.func59, Try.ntmps59
  go_wp2
  go_loopw [3, 0] (fun o i wr => ∃ (j : Nat) (acc : ByteArray), i = .int .i64 j ∧ o = .string acc ∧ Hid (mdig j acc.data.toList = mdig k []) ∧ acc.size + j ≤ k ∧ Below w.heap.size w wr) (fun _ i _ => (intOf i).toNat)
  case atStart => exact ⟨k, ⟨#[]⟩, rfl, rfl, by show _ = _; rfl, by show 0 + k ≤ k; omega, Below.refl _ _⟩
  case round =>
    obtain ⟨j, acc, rfl, rfl, HM, hsz, hb⟩ := hrel
    by_cases hlt : 0 < j
    · have hlt' : (0 : Int) < (j : Int) := by omega
      have hcv := conv_one wr (48 + (j : Int) % 10)
      obtain ⟨sx, hsx⟩ : ∃ sx : ByteArray, sx = ⟨#[UInt8.ofNat (48 + (j : Int) % 10).toNat]⟩ := ⟨_, rfl⟩
      rw [← hsx] at hcv
      have hq : (j : Int).tdiv 10 = ((j / 10 : Nat) : Int) := by rw [Int.tdiv_eq_ediv_of_nonneg (by omega)]; omega
      have hq2 : IntKind.i64.wrap ((j / 10 : Nat) : Int) = ((j / 10 : Nat) : Int) := by rw [IntKind.wrap_i64]; omega
      have HN : Hid (mdig (j / 10) (sx ++ acc).data.toList = mdig k []) := by
        show _ = _
        rw [← HM.out, mdig_step (k := j) (by omega), hsx]
        have : (48 + (j : Int) % 10).toNat = 48 + j % 10 := by omega
        rw [this]
        simp [ByteArray.data_append]
      have one : sx.size = 1 := by rw [hsx]; rfl
      have hsz2 : (sx ++ acc).size = 1 + acc.size := by
        rw [ByteArray.size_append, one]
      have hadd := fun W => run_string_add_sum (P := Try.prog) (w := W) sx acc (by rw [one]; omega)
      clear hsx
      go_wp2
      go_roundw
      case rel => exact ⟨j / 10, _, by first | rfl | (rw [hq, hq2]) | simp, rfl, HN, by omega, hb.alloc hb.size _⟩
      case measure => simp [intOf]; omega
    · have hj : j = 0 := by omega
      subst hj
      have HE : Hid (mt k = (⟨#[109]⟩ : ByteArray) ++ acc) := by
        show _ = _
        have := HM.out
        rw [mdig_zero] at this
        unfold mt
        rw [← this]
        apply ByteArray.ext
        simp [ByteArray.data_append]
      go_wp2
      go_ret
      exact ⟨by rw [HE.out]; rfl, hb⟩

/-- The marks of keys from a number on. -/
def mkK (x : Nat) (j : Nat) : Int := ((x + 2 * j : Nat) : Int)
def mkM (x : Nat) (j : Nat) : ByteArray := mt (x + 2 * j + 1)

/-- All blocks but one are as they were, and that one too if nothing lies in it. -/
structure But (b n : Nat) (w w' : World) : Prop where
  os : w'.os = w.os
  tape : w'.tape = w.tape
  output : w'.output = w.output
  size : w.heap.size ≤ w'.heap.size
  block : ∀ j, j < w.heap.size → (0 < n → j ≠ b) → w'.heap[j]? = w.heap[j]?
theorem But.refl (b n : Nat) (w : World) : But b n w w := ⟨rfl, rfl, rfl, Nat.le_refl _, fun _ _ _ => rfl⟩
theorem But.below {b n : Nat} {w w1 w2 : World} (h : But b n w w1) (hb : Below w1.heap.size w1 w2) : But b n w w2 :=
  ⟨hb.os.trans h.os, hb.tape.trans h.tape, hb.output.trans h.output, Nat.le_trans h.size hb.size, fun j hj hn => (hb.block j (Nat.lt_of_lt_of_le hj h.size)).trans (h.block j hj hn)⟩
theorem But.set {b n : Nat} {w w1 : World} (h : But b n w w1) (hn : 0 < n) (o : Nat) (v : Value) : But b n w (w1.setCell ⟨b, o, none⟩ v) :=
  ⟨h.os, h.tape, h.output, by simpa [World.setCell] using h.size, fun j hj hne => (Below.heap_setCell _ _ _ _ (by show j ≠ b; exact hne hn)).trans (h.block j hj hne)⟩
theorem But.span {b n lo hi : Nat} {w w' : World} (h : But b n w w') (hb : 0 < n → lo ≤ b ∧ b < hi) : Span lo hi w w' :=
  ⟨h.os, h.tape, h.output, h.size, fun x hx hn => h.block x hx (fun q => by have := hb q; omega)⟩

/-- The row of keys while it is being marked. -/
structure MkK (w wr : World) (b n k x : Nat) : Prop where
  but : But b n w wr
  row : 0 < n → ∃ (N : Nat) (f : Nat → Value), wr.rowIs b 37 N f ∧ n * 2 ≤ N ∧ ∀ i, i < k → f (i * 2) = .int .i64 (mkK x i) ∧ f (i * 2 + 1) = .string (mkM x i)

theorem mkk_step {w wr w2 : World} {b n k x : Nat} (h : MkK w wr b n k x) (hk : k < n) (hbl : b < wr.heap.size) (hb : Below wr.heap.size (wr.setCell ⟨b, k * 2, none⟩ (.int .i64 (mkK x k))) w2) :
    MkK w (w2.setCell ⟨b, k * 2 + 1, none⟩ (.string (mkM x k))) b n (k + 1) x := by
  obtain ⟨N, f, hr, hN, hf⟩ := h.row (by omega)
  have hsz : (wr.setCell ⟨b, k * 2, none⟩ (.int .i64 (mkK x k))).heap.size = wr.heap.size := by simp [World.setCell]
  refine ⟨((h.but.set (by omega) _ _).below (by rw [hsz]; exact hb)).set (by omega) _ _, fun _ => ⟨N, _, ((hr.set (k * 2) _).of_block (hb.block _ hbl)).set (k * 2 + 1) _, hN, fun i hi => ?_⟩⟩
  by_cases e : i = k
  · subst e
    refine ⟨?_, ?_⟩
    · show (if i * 2 = i * 2 + 1 then _ else if i * 2 = i * 2 then _ else _) = _
      rw [if_neg (by omega), if_pos rfl]
    · show (if i * 2 + 1 = i * 2 + 1 then _ else _) = _
      rw [if_pos rfl]
  · obtain ⟨r0, r1⟩ := hf i (by omega)
    refine ⟨?_, ?_⟩
    · show (if i * 2 = k * 2 + 1 then _ else if i * 2 = k * 2 then _ else f (i * 2)) = _
      rw [if_neg (by omega), if_neg (by omega), r0]
    · show (if i * 2 + 1 = k * 2 + 1 then _ else if i * 2 + 1 = k * 2 then _ else f (i * 2 + 1)) = _
      rw [if_neg (by omega), if_neg (by omega), r1]

set_option maxRecDepth 100000 in
set_option maxHeartbeats 2000000 in
theorem t_markKeyS (lo hi : Nat) (ao : Option Addr) (b n c : Nat) (K : Nat → Int) (M : Nat → ByteArray) (x : Nat) (w : World) (h1 : KeysNew w lo hi ao b n K M) (hx1 : 1 ≤ x) (hx2 : x ≤ 2305843009213693952) (hn : n ≤ 1048576) :
    Calls Try.prog 29 #[.slice ao n c, .int .i64 (x : Int)] w fun e w' => e = .returned (.int .i64 ((x + 2 * n : Nat) : Int)) ∧ KeysNew w' lo hi ao b n (mkK x) (mkM x) ∧ But b n w w' := by
  have A1 := h1.at_
  have HI : Hid (0 < n → lo ≤ b ∧ b < hi) := h1.inn
  have ST : MkK w w b n 0 x := ⟨But.refl _ _ _, fun q => by
    obtain ⟨N, f, hr, hN, hf⟩ := h1.row q
    exact ⟨N, f, hr, hN, fun i hi => absurd hi (Nat.not_lt_zero _)⟩⟩
  have HA : Hid (0 < n → ao = some ⟨b, 0, none⟩) := A1
  clear h1
  go_enter Try.func29, Try.ntmps29
  go_wp2
  go_loopw [1, 5] (fun y i wr => ∃ k : Nat, k ≤ n ∧ i = .int .i64 k ∧ y = .int .i64 ((x + 2 * k : Nat) : Int) ∧ MkK w wr b n k x) (fun _ i _ => n - (intOf i).toNat)
  case atStart => exact ⟨0, Nat.zero_le _, rfl, rfl, ST⟩
  case round =>
    obtain ⟨k, hk, rfl, rfl, hM⟩ := hrel
    clear ST
    by_cases hlt : k < n
    · have e1 := A1 (by omega)
      subst e1
      obtain ⟨N, f, hr, hN, _⟩ := hM.row (by omega)
      have k0 := hr.cell (i := k * 2) (by omega)
      have f0 := hr.frozen (k * 2)
      have HR : Hid (wr.rowIs b 37 N f) := hr
      have HM : Hid (MkK w wr b n k x) := hM
      have hbl := hr.lt
      obtain ⟨y, hy⟩ : ∃ y : Nat, y = x + 2 * k := ⟨_, rfl⟩
      have HX : Hid (y = x + 2 * k) := hy
      have hy1 : 1 ≤ y := by omega
      have hy2 : y ≤ 2305843009215791104 := by omega
      rw [← hy]
      clear hr hM hy
      go_wp2_with fail
      refine (t_markText _ (y + 1) _ (by omega) (by omega) (by omega)).mono ?_
      rintro e w2 ⟨rfl, hb2⟩
      have hsz : (wr.setCell ⟨b, k * 2, none⟩ (.int .i64 (y : Int))).heap.size = wr.heap.size := by simp [World.setCell]
      have r2 := (HR.out.set (k * 2) (.int .i64 (y : Int))).of_block (hb2.block _ (by rw [hsz]; exact hbl))
      have s1 := r2.cell (i := k * 2 + 1) (by omega)
      have t1 := r2.frozen (k * 2 + 1)
      rw [hsz] at hb2
      have HN : Hid (MkK w (w2.setCell ⟨b, k * 2 + 1, none⟩ (.string (mt (y + 1)))) b n (k + 1) x) := by
        have := mkk_step HM.out hlt hbl (w2 := w2) (by unfold mkK; rw [← HX.out]; exact hb2)
        unfold mkM at this
        rw [← HX.out] at this
        exact this
      clear HR HM r2 hb2 hsz k0 f0
      go_wp2
      go_roundw
      case rel => exact ⟨k + 1, by omega, by go_num, by have := HX.out; first | (congr 1; omega) | (simp; omega), HN.out⟩
      case measure => simp [intOf]; omega
    · have hkn : k = n := by omega
      subst hkn
      have FIN : Hid (KeysNew wr lo hi ao b k (mkK x) (mkM x) ∧ But b k w wr) := ⟨⟨HA.out, fun q => hM.row q, HI.out⟩, hM.but⟩
      clear hM
      go_wp2
      go_ret
      exact ⟨rfl, FIN.out⟩

set_option maxRecDepth 100000 in
set_option maxHeartbeats 2000000 in
theorem t_heldKeyS (lo hi : Nat) (ao : Option Addr) (b n c : Nat) (x : Nat) (w : World) (h1 : KeysNew w lo hi ao b n (mkK x) (mkM x)) (hx1 : 1 ≤ x) (hx2 : x ≤ 2305843009213693952) (hn : n ≤ 1048576) :
    Calls Try.prog 48 #[.slice ao n c, .int .i64 (x : Int)] w fun e w' => e = .returned (.int .i64 ((x + 2 * n : Nat) : Int)) ∧ Below w.heap.size w w' := by
  have A1 := h1.at_
  have HB : Hid (∀ w', Below w.heap.size w w' → KeysNew w' lo hi ao b n (mkK x) (mkM x)) := fun w' hb => h1.below hb
  clear h1
  go_enter Try.func48, Try.ntmps48
  go_wp2
  go_loopw [1, 5] (fun y i wr => ∃ k : Nat, k ≤ n ∧ i = .int .i64 k ∧ y = .int .i64 ((x + 2 * k : Nat) : Int) ∧ Below w.heap.size w wr) (fun _ i _ => n - (intOf i).toNat)
  case atStart => exact ⟨0, Nat.zero_le _, rfl, rfl, Below.refl _ _⟩
  case round =>
    obtain ⟨k, hk, rfl, rfl, hb⟩ := hrel
    by_cases hlt : k < n
    · have e1 := A1 (by omega)
      subst e1
      obtain ⟨g0, g1⟩ := ((HB.out wr hb).row (by omega)).cells hlt
      unfold mkK at g0
      unfold mkM at g1
      obtain ⟨y, hy⟩ : ∃ y : Nat, y = x + 2 * k := ⟨_, rfl⟩
      have HX : Hid (y = x + 2 * k) := hy
      have hy1 : 1 ≤ y := by omega
      have hy2 : y ≤ 2305843009215791104 := by omega
      rw [← hy] at g0 g1
      rw [← hy]
      clear hy
      have hbl : b < wr.heap.size := World.block_lt_of_cell? _ _ g1
      go_wp2_with fail
      go_region_held3 (fun w' => w'.cell? ⟨b, k * 2 + 1, none⟩ = some (.string (mt (y + 1)))) (first | go_keep | assumption)
        (first | (go_at_call 59; refine (t_markText _ (y + 1) _ (by omega) (by omega) (by omega)).mono ?_; rintro e w2 ⟨rfl, hb2⟩; have z1 : w2.cell? ⟨b, k * 2 + 1, none⟩ = some (.string (mt (y + 1))) := (hb2.cell (p := ⟨b, k * 2 + 1, none⟩) hbl).trans g1))
      all_goals
        have B2 : Below w.heap.size w w2 := (hb.trans ((Below.refl _ _).drew)).trans (hb2.mono hb.size)
        go_wp2
        go_roundw
        case rel => exact ⟨k + 1, by omega, by go_num, by have := HX.out; first | (congr 1; omega) | (simp; omega), B2⟩
        case measure => simp [intOf]; omega
    · have hkn : k = n := by omega
      subst hkn
      have FIN : Hid (Below w.heap.size w wr) := hb
      clear HB
      go_wp2
      go_ret
      exact ⟨rfl, FIN.out⟩

end Go.Proofs.Ytijgiingfgaakaa
