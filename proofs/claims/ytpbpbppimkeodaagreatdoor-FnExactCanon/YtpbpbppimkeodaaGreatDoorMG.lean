/-
  Merged for the claim: GrM GrN GrO.
-/
import Derived.Test.YtpbpbppimkeodaaGreatDoorMA
import Derived.Laws.BytesString
import Derived.Deep.RegionHeld3
namespace Go.Proofs.YtpbpbppimkeodaaGreatDoor
open Go.RowKit

/-- The digits of a number, ahead of what is there. -/
def mdig (k : Nat) (acc : List UInt8) : List UInt8 := if k = 0 then acc else mdig (k / 10) (UInt8.ofNat (48 + k % 10) :: acc)
termination_by k
decreasing_by omega
theorem mdig_zero (acc : List UInt8) : mdig 0 acc = acc := by rw [mdig, if_pos rfl]
theorem mdig_step {k : Nat} (h : k ≠ 0) (acc : List UInt8) : mdig k acc = mdig (k / 10) (UInt8.ofNat (48 + k % 10) :: acc) := by
  rw [mdig, if_neg h]

/-- The text that marks a number above 0. -/
def mt (k : Nat) : ByteArray := ⟨(109 :: mdig k []).toArray⟩

theorem mdig_len : ∀ (j k : Nat) (acc : List UInt8), k ≤ j → (mdig k acc).length ≤ k + acc.length := by
  intro j
  induction j with
  | zero => intro k acc h; have : k = 0 := by omega
            subst this; rw [mdig_zero]; omega
  | succ j ih =>
    intro k acc h
    by_cases e : k = 0
    · subst e; rw [mdig_zero]; omega
    · rw [mdig_step e]
      have := ih (k / 10) (UInt8.ofNat (48 + k % 10) :: acc) (by omega)
      rw [List.length_cons] at this
      omega
theorem mt_size (k : Nat) : (mt k).size ≤ k + 1 := by
  have := mdig_len k k [] (Nat.le_refl _)
  show (109 :: mdig k []).toArray.size ≤ _
  simp at this ⊢
  omega

theorem cell_one_newM (w : World) (v : Value) (t : TypeId) : ∀ j u, [v][j]? = some u → (w.alloc (.cells #[v] t)).cell? ((⟨w.heap.size, 0, none⟩ : Addr).add j) = some u := by
  intro j u h
  match j, h with
  | 0, h => simp at h; subst h; simp [Addr.add]

theorem conv_oneM (W : World) (n : Int) : (convert 42 9 (.slice (some ⟨W.heap.size, 0, none⟩) 1 1)).run Tryz.prog (W.alloc (.cells #[.int .u8 n] 5)) = .ok (.string ⟨#[UInt8.ofNat n.toNat]⟩) (W.alloc (.cells #[.int .u8 n] 5)) := by
  rw [run_convert_bytes_string _ 42 9 5 _ 1 1 Tryz.underlying42 Tryz.underlying5 Tryz.underlying9]
  have := run_bytesToString (P := Tryz.prog) (W.alloc (.cells #[.int .u8 n] 5)) ⟨W.heap.size, 0, none⟩ 1 1 [n] (run_loadCells_list _ ⟨W.heap.size, 0, none⟩ [.int .u8 n] (cell_one_newM W (.int .u8 n) 5))
  exact this

set_option maxRecDepth 100000 in
set_option maxHeartbeats 2000000 in
theorem t_markText (z : Int) (k : Nat) (w : World) (hz : z = (k : Int)) (hk : 0 < k) (hk2 : k ≤ 4611686018427387904) :
    Calls Tryz.prog 86 #[.int .i64 z] w fun e w' => e = .returned (.string (mt k)) ∧ Below w.heap.size w w' := by
  subst hz
  have h0 : ¬ (k : Int) ≤ 0 := by omega
  go_enter Tryz.func86, Tryz.ntmps86
  go_wp2
  go_loopw [3, 0] (fun o i wr => ∃ (j : Nat) (acc : ByteArray), i = .int .i64 j ∧ o = .string acc ∧ Hid (mdig j acc.data.toList = mdig k []) ∧ acc.size + j ≤ k ∧ Below w.heap.size w wr) (fun _ i _ => (intOf i).toNat)
  case atStart => exact ⟨k, ⟨#[]⟩, rfl, rfl, by show _ = _; rfl, by show 0 + k ≤ k; omega, Below.refl _ _⟩
  case round =>
    obtain ⟨j, acc, rfl, rfl, HM, hsz, hb⟩ := hrel
    by_cases hlt : 0 < j
    · have hlt' : (0 : Int) < (j : Int) := by omega
      have hcv := conv_oneM wr (48 + (j : Int) % 10)
      obtain ⟨sx, hsx⟩ : ∃ sx : ByteArray, sx = ⟨#[UInt8.ofNat (48 + (j : Int) % 10).toNat]⟩ := ⟨_, rfl⟩
      rw [← hsx] at hcv
      have hq : (j : Int).tdiv 10 = ((j / 10 : Nat) : Int) := by rw [Int.tdiv_eq_ediv_of_nonneg (by omega)]; omega
      have hq2 : IntKind.i64.wrap ((j / 10 : Nat) : Int) = ((j / 10 : Nat) : Int) := by rw [IntKind.wrap_i64]; omega
      have HN : Hid (mdig (j / 10) (sx ++ acc).data.toList = mdig k []) := by
        show _ = _
        rw [← HM.out, mdig_step (k := j) (by omega), hsx]
        have : (48 + (j : Int) % 10).toNat = 48 + j % 10 := by omega
        rw [this]
        simp [ByteArray.data_append]
      have one : sx.size = 1 := by rw [hsx]; rfl
      have hsz2 : (sx ++ acc).size = 1 + acc.size := by
        rw [ByteArray.size_append, one]
      have hadd := fun W => run_string_add_sum (P := Tryz.prog) (w := W) sx acc (by rw [one]; omega)
      clear hsx
      go_wp2
      go_roundw
      case rel => exact ⟨j / 10, _, by first | rfl | (rw [hq, hq2]) | simp, rfl, HN, by omega, hb.alloc hb.size _⟩
      case measure => simp [intOf]; omega
    · have hj : j = 0 := by omega
      subst hj
      have HE : Hid (mt k = (⟨#[109]⟩ : ByteArray) ++ acc) := by
        show _ = _
        have := HM.out
        rw [mdig_zero] at this
        unfold mt
        rw [← this]
        apply ByteArray.ext
        simp [ByteArray.data_append]
      go_wp2
      go_ret
      exact ⟨by rw [HE.out]; rfl, hb⟩

/-- All blocks but one are as they were, and that one too if nothing lies in it. -/
structure But (b n : Nat) (w w' : World) : Prop where
  os : w'.os = w.os
  tape : w'.tape = w.tape
  output : w'.output = w.output
  size : w.heap.size ≤ w'.heap.size
  block : ∀ j, j < w.heap.size → (0 < n → j ≠ b) → w'.heap[j]? = w.heap[j]?
theorem But.refl (b n : Nat) (w : World) : But b n w w := ⟨rfl, rfl, rfl, Nat.le_refl _, fun _ _ _ => rfl⟩
theorem But.below {b n : Nat} {w w1 w2 : World} (h : But b n w w1) (hb : Below w1.heap.size w1 w2) : But b n w w2 :=
  ⟨hb.os.trans h.os, hb.tape.trans h.tape, hb.output.trans h.output, Nat.le_trans h.size hb.size, fun j hj hn => (hb.block j (Nat.lt_of_lt_of_le hj h.size)).trans (h.block j hj hn)⟩
theorem But.set {b n : Nat} {w w1 : World} (h : But b n w w1) (hn : 0 < n) (o : Nat) (v : Value) : But b n w (w1.setCell ⟨b, o, none⟩ v) :=
  ⟨h.os, h.tape, h.output, by simpa [World.setCell] using h.size, fun j hj hne => (Below.heap_setCell _ _ _ _ (by show j ≠ b; exact hne hn)).trans (h.block j hj hne)⟩

/-- A row while it is being marked. -/
structure Mk (w wr : World) (b o n k : Nat) (f : Nat → Value) : Prop where
  but : But b n w wr
  row : 0 < n → ∃ (t : TypeId) (N : Nat) (g : Nat → Value), wr.rowIs b t N g ∧ o + n ≤ N ∧ ∀ i, i < k → g (o + i) = f i

theorem mk_start {w : World} {b o n : Nat} {f v : Nat → Value} (hW : 0 < n → Wr w b) (hc : ∀ i, i < n → w.cell? ⟨b, o + i, none⟩ = some (v i)) : Mk w w b o n 0 f := by
  refine ⟨But.refl _ _ _, fun z => ?_⟩
  obtain ⟨c, t, h⟩ := hW z
  have hl : o + (n - 1) < c.size := by
    have h1 := hc (n - 1) (by omega)
    simp [World.cell?, h] at h1
    exact (Array.getElem?_eq_some_iff.1 h1).1
  exact ⟨t, c.size, fun i => c[i]!, ⟨c, h, rfl, fun i hi => by simp [hi]⟩, by omega, fun i hi => absurd hi (Nat.not_lt_zero _)⟩

theorem mk_step {w wr w2 : World} {b o n k : Nat} {f : Nat → Value} (h : Mk w wr b o n k f) (hk : k < n) (hb : Below wr.heap.size wr w2) : Mk w (w2.setCell ⟨b, o + k, none⟩ (f k)) b o n (k + 1) f := by
  obtain ⟨t, N, g, hr, hN, hg⟩ := h.row (by omega)
  refine ⟨(h.but.below hb).set (by omega) _ _, fun _ => ⟨t, N, _, (hr.of_block (hb.block _ hr.lt)).set (o + k) (f k), hN, fun i hi => ?_⟩⟩
  by_cases e : i = k
  · subst e
    show (if o + i = o + i then _ else _) = _
    rw [if_pos rfl]
  · show (if o + i = o + k then _ else g (o + i)) = _
    rw [if_neg (by omega), hg i (by omega)]

theorem Mk.wr {w wr : World} {b o n k : Nat} {f : Nat → Value} (h : Mk w wr b o n k f) (hn : 0 < n) : Wr wr b := by
  obtain ⟨t, N, g, hr, _⟩ := h.row hn
  exact wr_row hr
theorem Mk.cell {w wr : World} {b o n : Nat} {f : Nat → Value} (h : Mk w wr b o n n f) {i : Nat} (hi : i < n) : wr.cell? ⟨b, o + i, none⟩ = some (f i) := by
  obtain ⟨t, N, g, hr, hN, hg⟩ := h.row (by omega)
  rw [hr.cell (by omega), hg i hi]
/-- What may be written next. -/
theorem Mk.next {w wr : World} {b o n k : Nat} {f : Nat → Value} (h : Mk w wr b o n k f) {i : Nat} (hi : i < n) : (∃ v, wr.cell? ⟨b, o + i, none⟩ = some v) ∧ wr.frozen? ⟨b, o + i, none⟩ = false ∧ b < wr.heap.size := by
  obtain ⟨t, N, g, hr, hN, hg⟩ := h.row (by omega)
  exact ⟨⟨_, hr.cell (by omega)⟩, hr.frozen _, hr.lt⟩

set_option maxRecDepth 100000 in
set_option maxHeartbeats 2000000 in
theorem t_markIntS (z : Int) (ao : Option Addr) (b o n c : Nat) (D : Nat → Int) (x : Nat) (w : World) (hz : z = (x : Int)) (h1 : IntsAt w ao b o n D) (hW : 0 < n → Wr w b) (hx2 : x ≤ 2305843009213693952) (hn : n ≤ 1048576) :
    Calls Tryz.prog 15 #[.slice ao n c, .int .i64 z] w fun e w' => e = .returned (.int .i64 ((x + n : Nat) : Int)) ∧ IntsAt w' ao b o n (fun j => ((x + j : Nat) : Int)) ∧ (0 < n → Wr w' b) ∧ But b n w w' := by
  subst hz
  have A1 := h1.at_
  have HA : Hid (0 < n → ao = some ⟨b, o, none⟩) := A1
  have ST : Mk w w b o n 0 (fun j => .int .i64 ((x + j : Nat) : Int)) := mk_start hW h1.cell
  clear h1 hW
  go_enter Tryz.func15, Tryz.ntmps15
  go_wp2
  go_loopw [1, 5] (fun y i wr => ∃ k : Nat, k ≤ n ∧ i = .int .i64 k ∧ y = .int .i64 ((x + k : Nat) : Int) ∧ Mk w wr b o n k (fun j => .int .i64 ((x + j : Nat) : Int))) (fun _ i _ => n - (intOf i).toNat)
  case atStart => exact ⟨0, Nat.zero_le _, rfl, rfl, ST⟩
  case round =>
    obtain ⟨k, hk, rfl, rfl, hM⟩ := hrel
    clear ST
    by_cases hlt : k < n
    · have e1 := A1 (by omega)
      subst e1
      obtain ⟨⟨v0, k0⟩, f0, hbl⟩ := hM.next hlt
      have HN : Hid (Mk w (wr.setCell ⟨b, o + k, none⟩ (.int .i64 ((x + k : Nat) : Int))) b o n (k + 1) (fun j => .int .i64 ((x + j : Nat) : Int))) := mk_step hM hlt (Below.refl _ _)
      obtain ⟨y, hy⟩ : ∃ y : Nat, y = x + k := ⟨_, rfl⟩
      rw [← hy] at HN ⊢
      have HX : Hid (y = x + k) := hy
      have hy2 : y ≤ 2305843009215791104 := by omega
      clear hM hy
      go_wp2
      go_roundw
      case rel => exact ⟨k + 1, by omega, by go_num, by have := HX.out; first | (congr 1; omega) | (simp; omega), HN.out⟩
      case measure => simp [intOf]; omega
    · have hkn : k = n := by omega
      subst hkn
      have FIN : Hid (IntsAt wr ao b o k (fun j => ((x + j : Nat) : Int)) ∧ (0 < k → Wr wr b) ∧ But b k w wr) := ⟨⟨HA.out, fun i hi => hM.cell hi, by omega⟩, fun z => hM.wr z, hM.but⟩
      clear hM
      go_wp2
      go_ret
      exact ⟨rfl, FIN.out⟩

set_option maxRecDepth 100000 in
set_option maxHeartbeats 2000000 in
theorem t_markStringS (z : Int) (ao : Option Addr) (b o n c : Nat) (S : Nat → ByteArray) (x : Nat) (w : World) (hz : z = (x : Int)) (h1 : StrsAt w ao b o n S) (hW : 0 < n → Wr w b) (hx1 : 1 ≤ x) (hx2 : x ≤ 2305843009213693952) (hn : n ≤ 1048576) :
    Calls Tryz.prog 58 #[.slice ao n c, .int .i64 z] w fun e w' => e = .returned (.int .i64 ((x + n : Nat) : Int)) ∧ StrsAt w' ao b o n (fun j => mt (x + j)) ∧ (0 < n → Wr w' b) ∧ But b n w w' := by
  subst hz
  have A1 := h1.at_
  have HA : Hid (0 < n → ao = some ⟨b, o, none⟩) := A1
  have ST : Mk w w b o n 0 (fun j => .string (mt (x + j))) := mk_start hW h1.cell
  clear h1 hW
  go_enter Tryz.func58, Tryz.ntmps58
  go_wp2
  go_loopw [1, 5] (fun y i wr => ∃ k : Nat, k ≤ n ∧ i = .int .i64 k ∧ y = .int .i64 ((x + k : Nat) : Int) ∧ Mk w wr b o n k (fun j => .string (mt (x + j)))) (fun _ i _ => n - (intOf i).toNat)
  case atStart => exact ⟨0, Nat.zero_le _, rfl, rfl, ST⟩
  case round =>
    obtain ⟨k, hk, rfl, rfl, hM⟩ := hrel
    clear ST
    by_cases hlt : k < n
    · have e1 := A1 (by omega)
      subst e1
      have HM : Hid (Mk w wr b o n k (fun j => .string (mt (x + j)))) := hM
      obtain ⟨y, hy⟩ : ∃ y : Nat, y = x + k := ⟨_, rfl⟩
      have HX : Hid (y = x + k) := hy
      have hy1 : 1 ≤ y := by omega
      have hy2 : y ≤ 2305843009215791104 := by omega
      rw [← hy]
      clear hM hy
      go_wp2_with fail
      refine (t_markText _ y _ (by omega) (by omega) (by omega)).mono ?_
      rintro e w2 ⟨rfl, hb2⟩
      have HN : Hid (Mk w (w2.setCell ⟨b, o + k, none⟩ (.string (mt y))) b o n (k + 1) (fun j => .string (mt (x + j)))) := by
        have := mk_step HM.out hlt hb2
        simp only [← HX.out] at this
        exact this
      obtain ⟨t, N, g, hr, hN, _⟩ := HM.out.row (by omega)
      have hr2 := hr.of_block (hb2.block _ hr.lt)
      have k0 := hr2.cell (i := o + k) (by omega)
      have f0 := hr2.frozen (o + k)
      clear hr hr2 hb2 HM
      go_wp2
      go_roundw
      case rel => exact ⟨k + 1, by omega, by go_num, by have := HX.out; first | (congr 1; omega) | (simp; omega), HN.out⟩
      case measure => simp [intOf]; omega
    · have hkn : k = n := by omega
      subst hkn
      have FIN : Hid (StrsAt wr ao b o k (fun j => mt (x + j)) ∧ (0 < k → Wr wr b) ∧ But b k w wr) := ⟨⟨HA.out, fun i hi => hM.cell hi, fun i hi => by have := mt_size (x + i); show (mt (x + i)).size ≤ _; omega, by omega⟩, fun z => hM.wr z, hM.but⟩
      clear hM
      go_wp2
      go_ret
      exact ⟨rfl, FIN.out⟩

set_option maxRecDepth 100000 in
set_option maxHeartbeats 2000000 in
theorem t_heldIntS (z : Int) (ao : Option Addr) (b o n c : Nat) (x : Nat) (w : World) (hz : z = (x : Int)) (h1 : IntsAt w ao b o n (fun j => ((x + j : Nat) : Int))) (hx2 : x ≤ 2305843009213693952) (hn : n ≤ 1048576) :
    Calls Tryz.prog 17 #[.slice ao n c, .int .i64 z] w fun e w' => e = .returned (.int .i64 ((x + n : Nat) : Int)) ∧ Below w.heap.size w w' := by
  subst hz
  have A1 := h1.at_
  have HB : Hid (∀ w', Below w.heap.size w w' → IntsAt w' ao b o n (fun j => ((x + j : Nat) : Int))) := fun w' hb => h1.below hb
  clear h1
  go_enter Tryz.func17, Tryz.ntmps17
  go_wp2
  go_loopw [1, 5] (fun y i wr => ∃ k : Nat, k ≤ n ∧ i = .int .i64 k ∧ y = .int .i64 ((x + k : Nat) : Int) ∧ Below w.heap.size w wr) (fun _ i _ => n - (intOf i).toNat)
  case atStart => exact ⟨0, Nat.zero_le _, rfl, rfl, Below.refl _ _⟩
  case round =>
    obtain ⟨k, hk, rfl, rfl, hb⟩ := hrel
    by_cases hlt : k < n
    · have e1 := A1 (by omega)
      subst e1
      have g0 := (HB.out wr hb).cell k hlt
      obtain ⟨y, hy⟩ : ∃ y : Nat, y = x + k := ⟨_, rfl⟩
      have HX : Hid (y = x + k) := hy
      have hy2 : y ≤ 2305843009215791104 := by omega
      simp only [← hy] at g0
      rw [← hy]
      clear hy
      go_wp2
      go_roundw
      case rel => exact ⟨k + 1, by omega, by go_num, by have := HX.out; first | (congr 1; omega) | (simp; omega), by first | exact hb | exact hb.drew | exact below_drewN hb _⟩
      case measure => simp [intOf]; omega
    · have hkn : k = n := by omega
      subst hkn
      go_wp2
      go_ret
      exact ⟨rfl, hb⟩

set_option maxRecDepth 100000 in
set_option maxHeartbeats 2000000 in
theorem t_heldStringS (z : Int) (ao : Option Addr) (b o n c : Nat) (x : Nat) (w : World) (hz : z = (x : Int)) (h1 : StrsAt w ao b o n (fun j => mt (x + j))) (hx1 : 1 ≤ x) (hx2 : x ≤ 2305843009213693952) (hn : n ≤ 1048576) :
    Calls Tryz.prog 59 #[.slice ao n c, .int .i64 z] w fun e w' => e = .returned (.int .i64 ((x + n : Nat) : Int)) ∧ Below w.heap.size w w' := by
  subst hz
  have A1 := h1.at_
  have HB : Hid (∀ w', Below w.heap.size w w' → StrsAt w' ao b o n (fun j => mt (x + j))) := fun w' hb => h1.below hb
  clear h1
  go_enter Tryz.func59, Tryz.ntmps59
  go_wp2
  go_loopw [1, 5] (fun y i wr => ∃ k : Nat, k ≤ n ∧ i = .int .i64 k ∧ y = .int .i64 ((x + k : Nat) : Int) ∧ Below w.heap.size w wr) (fun _ i _ => n - (intOf i).toNat)
  case atStart => exact ⟨0, Nat.zero_le _, rfl, rfl, Below.refl _ _⟩
  case round =>
    obtain ⟨k, hk, rfl, rfl, hb⟩ := hrel
    by_cases hlt : k < n
    · have e1 := A1 (by omega)
      subst e1
      have g1 := (HB.out wr hb).cell k hlt
      obtain ⟨y, hy⟩ : ∃ y : Nat, y = x + k := ⟨_, rfl⟩
      have HX : Hid (y = x + k) := hy
      have hy1 : 1 ≤ y := by omega
      have hy2 : y ≤ 2305843009215791104 := by omega
      simp only [← hy] at g1
      rw [← hy]
      clear hy
      have hbl : b < wr.heap.size := World.block_lt_of_cell? _ _ g1
      go_wp2_with fail
      go_region_held3 (fun w' => w'.cell? ⟨b, o + k, none⟩ = some (.string (mt y))) (first | go_keep | assumption)
        (first | (go_at_call 86; refine (t_markText _ y _ (by omega) (by omega) (by omega)).mono ?_; rintro e w2 ⟨rfl, hb2⟩; have z1 : w2.cell? ⟨b, o + k, none⟩ = some (.string (mt y)) := (hb2.cell (p := ⟨b, o + k, none⟩) hbl).trans g1))
      all_goals
        have B2 : Below w.heap.size w w2 := (hb.trans ((Below.refl _ _).drew)).trans (hb2.mono hb.size)
        go_wp2
        go_roundw
        case rel => exact ⟨k + 1, by omega, by go_num, by have := HX.out; first | (congr 1; omega) | (simp; omega), B2⟩
        case measure => simp [intOf]; omega
    · have hkn : k = n := by omega
      subst hkn
      have FIN : Hid (Below w.heap.size w wr) := hb
      clear HB
      go_wp2
      go_ret
      exact ⟨rfl, FIN.out⟩

end Go.Proofs.YtpbpbppimkeodaaGreatDoor

namespace Go.Proofs.YtpbpbppimkeodaaGreatDoor
open Go.RowKit

/-- A node marked from a number on. -/
def mdN (x : Nat) (d : ND) : ND := ⟨(x : Int), d.nn, fun j => mt (x + 1 + j), d.nk, fun j => ((x + 1 + d.nn + j : Nat) : Int)⟩
/-- The number with which the nodes behind the first i begin. -/
def cntN (x : Nat) (G : Nat → ND) : Nat → Nat
  | 0 => x
  | i + 1 => cntN x G i + 1 + (G i).nn + (G i).nk
/-- The nodes, marked. -/
def MGr (x : Nat) (G : Nat → ND) (i : Nat) : ND := mdN (cntN x G i) (G i)

theorem cntN_le (x : Nat) (G : Nat → ND) (n : Nat) (h : ∀ i, i < n → (G i).nn ≤ 1048576 ∧ (G i).nk ≤ 1048576) : ∀ i, i ≤ n → x ≤ cntN x G i ∧ cntN x G i ≤ x + i * 2097153 := by
  intro i
  induction i with
  | zero => intro _; exact ⟨Nat.le_refl _, by show x ≤ _; omega⟩
  | succ i ih =>
    intro hi
    have := ih (by omega)
    have := h i (by omega)
    show x ≤ cntN x G i + 1 + (G i).nn + (G i).nk ∧ cntN x G i + 1 + (G i).nn + (G i).nk ≤ _
    omega

theorem cntN_cong {x : Nat} {G H : Nat → ND} : ∀ n, (∀ i, i < n → (G i).nn = (H i).nn ∧ (G i).nk = (H i).nk) → cntN x G n = cntN x H n
  | 0, _ => rfl
  | n + 1, h => by
    show cntN x G n + 1 + (G n).nn + (G n).nk = cntN x H n + 1 + (H n).nn + (H n).nk
    rw [cntN_cong n (fun i hi => h i (by omega)), (h n (by omega)).1, (h n (by omega)).2]

/-- All blocks but those of a graph are as they were. -/
structure Fro (w w' : World) (n b : Nat) (p : Nat → NP) (G : Nat → ND) : Prop where
  os : w'.os = w.os
  tape : w'.tape = w.tape
  output : w'.output = w.output
  size : w.heap.size ≤ w'.heap.size
  block : ∀ j, j < w.heap.size → (0 < n → j ≠ b) → (∀ i, i < n → (0 < (G i).nn → j ≠ (p i).b1) ∧ (0 < (G i).nk → j ≠ (p i).b2)) → w'.heap[j]? = w.heap[j]?

/-- The nodes while they are being marked. -/
structure MkG (w wr : World) (ao : Option Addr) (b o n k x : Nat) (p : Nat → NP) (G : Nat → ND) : Prop where
  fro : Fro w wr n b p G
  own : OwnG wr n b p G
  nodes : NodesAt wr ao b o n p (fun i => if i < k then MGr x G i else G i)

theorem strs_block {w w' : World} {ao : Option Addr} {b o n : Nat} {S : Nat → ByteArray} (h : StrsAt w ao b o n S) (hb : 0 < n → w'.heap[b]? = w.heap[b]?) : StrsAt w' ao b o n S :=
  ⟨h.at_, fun i hi => (World.cell?_of_block (w := w) (hb (by omega))).trans (h.cell i hi), h.size, h.len⟩
theorem ints_block {w w' : World} {ao : Option Addr} {b o n : Nat} {D : Nat → Int} (h : IntsAt w ao b o n D) (hb : 0 < n → w'.heap[b]? = w.heap[b]?) : IntsAt w' ao b o n D :=
  ⟨h.at_, fun i hi => (World.cell?_of_block (w := w) (hb (by omega))).trans (h.cell i hi), h.len⟩

theorem mkg_step {w wr w2 w3 : World} {ao : Option Addr} {b o n k x y : Nat} {p : Nat → NP} {G : Nat → ND} (h : MkG w wr ao b o n k x p G) (hk : k < n) (hy : y = cntN x G k)
    (h2 : But (p k).b1 (G k).nn (wr.setCell ⟨b, o + k * 3, none⟩ (.int .i64 (y : Int))) w2) (n2 : StrsAt w2 (p k).a1 (p k).b1 (p k).o1 (G k).nn (fun j => mt (y + 1 + j))) (v2 : 0 < (G k).nn → Wr w2 (p k).b1)
    (h3 : But (p k).b2 (G k).nk w2 w3) (n3 : IntsAt w3 (p k).a2 (p k).b2 (p k).o2 (G k).nk (fun j => ((y + 1 + (G k).nn + j : Nat) : Int))) (v3 : 0 < (G k).nk → Wr w3 (p k).b2) : MkG w w3 ao b o n (k + 1) x p G := by
  have hz : (wr.setCell ⟨b, o + k * 3, none⟩ (.int .i64 (y : Int))).heap.size = wr.heap.size := by simp
  have s2 := h2.size
  have s3 := h3.size
  rw [hz] at s2
  have hbl := (h.own.row (by omega)).lt
  obtain ⟨ok1, ok2⟩ := h.own.node k hk
  have key : ∀ j, j < wr.heap.size → j ≠ b → (0 < (G k).nn → j ≠ (p k).b1) → (0 < (G k).nk → j ≠ (p k).b2) → w3.heap[j]? = wr.heap[j]? := fun j hj q0 q1 q2 =>
    (h3.block j (by omega) q2).trans ((h2.block j (by omega) q1).trans (Below.heap_setCell _ _ _ _ q0))
  have keyb : w3.heap[b]? = (wr.setCell ⟨b, o + k * 3, none⟩ (.int .i64 (y : Int))).heap[b]? :=
    (h3.block b (by omega) (fun z e => (ok2 z).2 e.symm)).trans (h2.block b (by omega) (fun z e => (ok1 z).2 e.symm))
  have wrb : Wr w3 b := by
    obtain ⟨c, t, hc⟩ := h.own.row (by omega)
    have : (wr.setCell ⟨b, o + k * 3, none⟩ (.int .i64 (y : Int))).rowIs b t c.size _ := World.rowIs.set (f := fun i => c[i]!) ⟨c, hc, rfl, fun i hi => by simp [hi]⟩ (o + k * 3) _
    exact (wr_row this).of keyb
  have b1k : 0 < (G k).nn → w3.heap[(p k).b1]? = w2.heap[(p k).b1]? := fun z => h3.block _ (v2 z).lt (fun y => (h.own.sep k k hk hk).2.2 z y)
  have hcell : ∀ q, q ≠ o + k * 3 → w3.cell? ⟨b, q, none⟩ = wr.cell? ⟨b, q, none⟩ := fun q hq =>
    (World.cell?_of_block keyb).trans (World.cell?_setCell_other _ _ _ _ (fun e => hq (by have := congrArg Addr.off e; first | exact this | exact this.symm)))
  refine ⟨⟨?_, ?_, ?_, by have := h.fro.size; omega, fun j hj q0 q1 => ?_⟩, ⟨fun _ => wrb, fun i hi => ?_, h.own.sep⟩, ⟨h.nodes.at_, fun i hi => ?_, fun i hi => ?_, fun i hi => ?_, fun i hi => ?_, h.nodes.len⟩⟩
  · exact h3.os.trans (h2.os.trans h.fro.os)
  · exact h3.tape.trans (h2.tape.trans h.fro.tape)
  · exact h3.output.trans (h2.output.trans h.fro.output)
  · exact (key j (Nat.lt_of_lt_of_le hj h.fro.size) (q0 (by omega)) (q1 k hk).1 (q1 k hk).2).trans (h.fro.block j hj q0 q1)
  · obtain ⟨o1, o2⟩ := h.own.node i hi
    by_cases e : i = k
    · subst e
      exact ⟨fun z => ⟨(v2 z).of (b1k z), (o1 z).2⟩, fun z => ⟨v3 z, (o2 z).2⟩⟩
    · refine ⟨fun z => ⟨(o1 z).1.of (key _ (o1 z).1.lt (o1 z).2 (fun y => (h.own.sep i k hi hk).1 e z y) (fun y => (h.own.sep i k hi hk).2.2 z y)), (o1 z).2⟩, fun z => ⟨(o2 z).1.of (key _ (o2 z).1.lt (o2 z).2 (fun y e => (h.own.sep k i hk hi).2.2 y z e.symm) (fun y => (h.own.sep i k hi hk).2.1 e z y)), (o2 z).2⟩⟩
  · by_cases e : i = k
    · subst e
      simp only [Nat.lt_succ_self, if_true]
      show w3.cell? ⟨b, o + i * 3, none⟩ = some (.int .i64 ((cntN x G i : Nat) : Int))
      rw [World.cell?_of_block keyb, ← hy]
      have hc := h.nodes.c0 i hi
      exact World.cell?_setCell_same' _ _ _ (by rw [hc]; rfl)
    · rw [hcell _ (by omega), h.nodes.c0 i hi]
      by_cases e2 : i < k
      · rw [if_pos e2, if_pos (by omega)]
      · rw [if_neg e2, if_neg (by omega)]
  · rw [hcell _ (by omega), h.nodes.c1 i hi]
    by_cases e2 : i < k
    · rw [if_pos e2, if_pos (by omega)]
    · rw [if_neg e2]
      by_cases e3 : i < k + 1
      · rw [if_pos e3]; rfl
      · rw [if_neg e3]
  · rw [hcell _ (by omega), h.nodes.c2 i hi]
    by_cases e2 : i < k
    · rw [if_pos e2, if_pos (by omega)]
    · rw [if_neg e2]
      by_cases e3 : i < k + 1
      · rw [if_pos e3]; rfl
      · rw [if_neg e3]
  · by_cases e : i = k
    · subst e
      simp only [Nat.lt_succ_self, if_true]
      subst hy
      exact ⟨strs_block n2 b1k, n3⟩
    · have hN := h.nodes.node i hi
      obtain ⟨o1, o2⟩ := h.own.node i hi
      have e4 : (if i < k + 1 then MGr x G i else G i) = (if i < k then MGr x G i else G i) := by
        by_cases e2 : i < k
        · rw [if_pos e2, if_pos (by omega)]
        · rw [if_neg e2, if_neg (by omega)]
      have en : (if i < k then MGr x G i else G i).nn = (G i).nn := by
        by_cases e2 : i < k
        · rw [if_pos e2]; rfl
        · rw [if_neg e2]
      have ek : (if i < k then MGr x G i else G i).nk = (G i).nk := by
        by_cases e2 : i < k
        · rw [if_pos e2]; rfl
        · rw [if_neg e2]
      show NodeAt w3 (p i) (if i < k + 1 then MGr x G i else G i)
      rw [e4]
      refine ⟨strs_block hN.names (fun z => ?_), ints_block hN.kids (fun z => ?_)⟩
      · have z' : 0 < (G i).nn := by rw [← en]; exact z
        exact key _ (o1 z').1.lt (o1 z').2 (fun y => (h.own.sep i k hi hk).1 e z' y) (fun y => (h.own.sep i k hi hk).2.2 z' y)
      · have z' : 0 < (G i).nk := by rw [← ek]; exact z
        exact key _ (o2 z').1.lt (o2 z').2 (fun y e => (h.own.sep k i hk hi).2.2 y z' e.symm) (fun y => (h.own.sep i k hi hk).2.1 e z' y)

theorem MkG.at {w wr : World} {ao : Option Addr} {b o n k x : Nat} {p : Nat → NP} {G : Nat → ND} (h : MkG w wr ao b o n k x p G) (hk : k < n) : NodeAt wr (p k) (G k) ∧ wr.cell? ⟨b, o + k * 3, none⟩ = some (.int .i64 (G k).kind) ∧ wr.cell? ⟨b, o + k * 3 + 1, none⟩ = some (.slice (p k).a1 (G k).nn (p k).c1) ∧ wr.cell? ⟨b, o + k * 3 + 2, none⟩ = some (.slice (p k).a2 (G k).nk (p k).c2) := by
  have h0 := h.nodes.c0 k hk
  have h1 := h.nodes.c1 k hk
  have h2 := h.nodes.c2 k hk
  have h3 := h.nodes.node k hk
  simp only [Nat.lt_irrefl, if_false] at h0 h1 h2 h3
  exact ⟨h3, h0, h1, h2⟩

theorem wr_frozen {w : World} {b : Nat} (h : Wr w b) (o : Nat) : w.frozen? ⟨b, o, none⟩ = false := by
  obtain ⟨c, t, hc⟩ := h
  exact World.rowIs.frozen (t := t) (n := c.size) (f := fun i => c[i]!) ⟨c, hc, rfl, fun i hi => by simp [hi]⟩ o

set_option maxRecDepth 100000 in
set_option maxHeartbeats 4000000 in
theorem t_markNodeS (z : Int) (ao : Option Addr) (b o n c : Nat) (p : Nat → NP) (G : Nat → ND) (x : Nat) (w : World) (hz : z = (x : Int)) (h1 : NodesAt w ao b o n p G) (hO : OwnG w n b p G) (hx1 : 1 ≤ x) (hx2 : x ≤ 1048576) (hn : n ≤ 1048576) (hG : ∀ i, i < n → (G i).nn ≤ 1048576 ∧ (G i).nk ≤ 1048576) :
    Calls Tryz.prog 36 #[.slice ao n c, .int .i64 z] w fun e w' => e = .returned (.int .i64 ((cntN x G n : Nat) : Int)) ∧ NodesAt w' ao b o n p (MGr x G) ∧ OwnG w' n b p G ∧ Fro w w' n b p G := by
  subst hz
  have A1 := h1.at_
  have HG : Hid (∀ i, i < n → (G i).nn ≤ 1048576 ∧ (G i).nk ≤ 1048576) := hG
  have ST : MkG w w ao b o n 0 x p G := ⟨⟨rfl, rfl, rfl, Nat.le_refl _, fun _ _ _ _ => rfl⟩, hO, by simpa using h1⟩
  have HC : Hid (∀ i, i ≤ n → x ≤ cntN x G i ∧ cntN x G i ≤ x + i * 2097153) := cntN_le x G n hG
  clear h1 hG hO
  go_enter Tryz.func36, Tryz.ntmps36
  go_wp2
  go_loopw [1, 5] (fun y i wr => ∃ k : Nat, k ≤ n ∧ i = .int .i64 k ∧ y = .int .i64 ((cntN x G k : Nat) : Int) ∧ MkG w wr ao b o n k x p G) (fun _ i _ => n - (intOf i).toNat)
  case atStart => exact ⟨0, Nat.zero_le _, rfl, rfl, ST⟩
  case round =>
    obtain ⟨k, hk, rfl, rfl, hM⟩ := hrel
    clear ST
    by_cases hlt : k < n
    · have e1 := A1 (by omega)
      subst e1
      have HM : Hid (MkG w wr (some ⟨b, o, none⟩) b o n k x p G) := hM
      obtain ⟨hNk, k0, k1, k2⟩ := hM.at hlt
      have f0 := wr_frozen (hM.own.row (by omega)) (o + k * 3)
      obtain ⟨ok1, ok2⟩ := hM.own.node k hlt
      have hc := HC.out k hk
      have hg := HG.out k hlt
      obtain ⟨y, hy⟩ : ∃ y : Nat, y = cntN x G k := ⟨_, rfl⟩
      have HX : Hid (y = cntN x G k) := hy
      have hy1 : 1 ≤ y := by omega
      have hy2 : y ≤ 2199025352705 := by omega
      rw [← hy]
      have s1 : (wr.setCell ⟨b, o + k * 3, none⟩ (.int .i64 (y : Int))).cell? ⟨b, o + k * 3 + 1, none⟩ = some (.slice (p k).a1 (G k).nn (p k).c1) := (World.cell?_setCell_other _ _ _ _ (by simp)).trans k1
      have s2 : (wr.setCell ⟨b, o + k * 3, none⟩ (.int .i64 (y : Int))).cell? ⟨b, o + k * 3 + 2, none⟩ = some (.slice (p k).a2 (G k).nk (p k).c2) := (World.cell?_setCell_other _ _ _ _ (by simp)).trans k2
      have hbl := (hM.own.row (by omega)).lt
      have NS : Hid (StrsAt (wr.setCell ⟨b, o + k * 3, none⟩ (.int .i64 (y : Int))) (p k).a1 (p k).b1 (p k).o1 (G k).nn (G k).nm) := strs_block hNk.names (fun z => Below.heap_setCell _ _ _ _ (ok1 z).2)
      have NW : Hid (0 < (G k).nn → Wr (wr.setCell ⟨b, o + k * 3, none⟩ (.int .i64 (y : Int))) (p k).b1) := fun z => (ok1 z).1.set (a := ⟨b, o + k * 3, none⟩) (ok1 z).2 _
      have KS : Hid (∀ w2, But (p k).b1 (G k).nn (wr.setCell ⟨b, o + k * 3, none⟩ (.int .i64 (y : Int))) w2 → w2.cell? ⟨b, o + k * 3 + 2, none⟩ = some (.slice (p k).a2 (G k).nk (p k).c2) ∧ IntsAt w2 (p k).a2 (p k).b2 (p k).o2 (G k).nk (G k).kd ∧ (0 < (G k).nk → Wr w2 (p k).b2)) := fun w2 h2 => by
        have ht := h2.block b (by simp; exact hbl) (fun z e => (ok1 z).2 e.symm)
        have hq : 0 < (G k).nk → w2.heap[(p k).b2]? = wr.heap[(p k).b2]? := fun z => (h2.block _ (by simp; exact (ok2 z).1.lt) (fun z1 e => (HM.out.own.sep k k hlt hlt).2.2 z1 z e.symm)).trans (Below.heap_setCell _ _ _ _ (ok2 z).2)
        exact ⟨(World.cell?_of_block ht).trans s2, ints_block hNk.kids hq, fun z => (ok2 z).1.of (hq z)⟩
      clear hM hy hc hNk ok1 ok2 k1 k2 hbl s2
      go_wp2_with fail
      refine (t_markStringS _ (p k).a1 (p k).b1 (p k).o1 (G k).nn (p k).c1 (G k).nm (y + 1) _ (by omega) NS.out NW.out (by omega) (by omega) hg.1).mono ?_
      rintro e w2 ⟨rfl, N2, V2, B2⟩
      obtain ⟨s2, i2, v2⟩ := KS.out w2 B2
      have H2 : Hid (StrsAt w2 (p k).a1 (p k).b1 (p k).o1 (G k).nn (fun j => mt (y + 1 + j)) ∧ (0 < (G k).nn → Wr w2 (p k).b1) ∧ But (p k).b1 (G k).nn (wr.setCell ⟨b, o + k * 3, none⟩ (.int .i64 (y : Int))) w2) := ⟨N2, V2, B2⟩
      have I2 : Hid (IntsAt w2 (p k).a2 (p k).b2 (p k).o2 (G k).nk (G k).kd ∧ (0 < (G k).nk → Wr w2 (p k).b2)) := ⟨i2, v2⟩
      clear N2 V2 B2 i2 v2 k0 f0 s1 NS NW KS
      go_wp2_with fail
      refine (t_markIntS _ (p k).a2 (p k).b2 (p k).o2 (G k).nk (p k).c2 (G k).kd (y + 1 + (G k).nn) _ (by omega) I2.out.1 I2.out.2 (by omega) hg.2).mono ?_
      rintro e w3 ⟨rfl, N3, V3, B3⟩
      have HN : Hid (MkG w w3 (some ⟨b, o, none⟩) b o n (k + 1) x p G) := mkg_step HM.out hlt HX.out H2.out.2.2 H2.out.1 H2.out.2.1 B3 N3 V3
      clear N3 V3 B3 H2 I2 HM s2
      go_wp2
      go_roundw
      case rel => exact ⟨k + 1, by omega, by go_num, by have := HX.out; show _ = Value.int .i64 ((cntN x G k + 1 + (G k).nn + (G k).nk : Nat) : Int); rw [← this]; first | (congr 1; omega) | simp, HN.out⟩
      case measure => simp [intOf]; omega
    · have hkn : k = n := by omega
      subst hkn
      have FIN : Hid (NodesAt wr ao b o k p (MGr x G) ∧ OwnG wr k b p G ∧ Fro w wr k b p G) := by
        refine ⟨⟨hM.nodes.at_, fun i hi => ?_, fun i hi => ?_, fun i hi => ?_, fun i hi => ?_, hM.nodes.len⟩, hM.own, hM.fro⟩
        · have := hM.nodes.c0 i hi; rw [if_pos hi] at this; exact this
        · have := hM.nodes.c1 i hi; rw [if_pos hi] at this; exact this
        · have := hM.nodes.c2 i hi; rw [if_pos hi] at this; exact this
        · have := hM.nodes.node i hi; rw [if_pos hi] at this; exact this
      clear hM
      go_wp2
      go_ret
      exact ⟨rfl, FIN.out⟩

set_option maxRecDepth 100000 in
set_option maxHeartbeats 4000000 in
theorem t_heldNodeS (z : Int) (ao : Option Addr) (b o n c : Nat) (p : Nat → NP) (G : Nat → ND) (x : Nat) (w : World) (hz : z = (x : Int)) (h1 : NodesAt w ao b o n p (MGr x G)) (hx1 : 1 ≤ x) (hx2 : x ≤ 1048576) (hn : n ≤ 1048576) (hG : ∀ i, i < n → (G i).nn ≤ 1048576 ∧ (G i).nk ≤ 1048576) :
    Calls Tryz.prog 37 #[.slice ao n c, .int .i64 z] w fun e w' => e = .returned (.int .i64 ((cntN x G n : Nat) : Int)) ∧ Below w.heap.size w w' := by
  subst hz
  have A1 := h1.at_
  have HG : Hid (∀ i, i < n → (G i).nn ≤ 1048576 ∧ (G i).nk ≤ 1048576) := hG
  have HC : Hid (∀ i, i ≤ n → x ≤ cntN x G i ∧ cntN x G i ≤ x + i * 2097153) := cntN_le x G n hG
  have HB : Hid (∀ w', Below w.heap.size w w' → NodesAt w' ao b o n p (MGr x G)) := fun w' hb => h1.below hb
  clear h1 hG
  go_enter Tryz.func37, Tryz.ntmps37
  go_wp2
  go_loopw [1, 5] (fun y i wr => ∃ k : Nat, k ≤ n ∧ i = .int .i64 k ∧ y = .int .i64 ((cntN x G k : Nat) : Int) ∧ Below w.heap.size w wr) (fun _ i _ => n - (intOf i).toNat)
  case atStart => exact ⟨0, Nat.zero_le _, rfl, rfl, Below.refl _ _⟩
  case round =>
    obtain ⟨k, hk, rfl, rfl, hb⟩ := hrel
    by_cases hlt : k < n
    · have e1 := A1 (by omega)
      subst e1
      have hc := HC.out k hk
      have hg := HG.out k hlt
      obtain ⟨y, hy⟩ : ∃ y : Nat, y = cntN x G k := ⟨_, rfl⟩
      have HX : Hid (y = cntN x G k) := hy
      have hy1 : 1 ≤ y := by omega
      have hy2 : y ≤ 2199025352705 := by omega
      have HW : Hid (∀ w', Below w.heap.size w w' → w'.cell? ⟨b, o + k * 3, none⟩ = some (.int .i64 (y : Int)) ∧ w'.cell? ⟨b, o + k * 3 + 1, none⟩ = some (.slice (p k).a1 (G k).nn (p k).c1) ∧ w'.cell? ⟨b, o + k * 3 + 2, none⟩ = some (.slice (p k).a2 (G k).nk (p k).c2) ∧ StrsAt w' (p k).a1 (p k).b1 (p k).o1 (G k).nn (fun j => mt (y + 1 + j)) ∧ IntsAt w' (p k).a2 (p k).b2 (p k).o2 (G k).nk (fun j => ((y + 1 + (G k).nn + j : Nat) : Int))) := fun w' hb' => by
        have H := HB.out w' hb'
        have h0 := H.c0 k hlt
        have h1 := H.c1 k hlt
        have h2 := H.c2 k hlt
        have h3 := H.node k hlt
        unfold MGr at h0 h1 h2 h3
        rw [← hy] at h0 h1 h2 h3
        exact ⟨h0, h1, h2, h3.names, h3.kids⟩
      rw [← hy]
      clear hy hc
      obtain ⟨g0, g1, g2, hS, _⟩ := HW.out wr hb
      go_wp2_with fail
      refine (t_heldStringS _ (p k).a1 (p k).b1 (p k).o1 (G k).nn (p k).c1 (y + 1) _ (by omega) hS (by omega) (by omega) hg.1).mono ?_
      rintro e w2 ⟨rfl, hb2⟩
      have B2 : Hid (Below w.heap.size w w2) := hb.trans (hb2.mono hb.size)
      obtain ⟨_, _, q2, _, hI⟩ := HW.out w2 B2.out
      clear hb2 hS g0 g1 g2
      obtain ⟨u, hu⟩ : ∃ u : Nat, u = y + 1 + (G k).nn := ⟨_, rfl⟩
      have HU : Hid (u = y + 1 + (G k).nn) := hu
      have hu2 : u ≤ 2199026401282 := by omega
      rw [← hu]
      have nu : ¬ (u : Int) < 0 := by omega
      clear hu
      go_wp2_with fail
      refine (t_heldIntS _ (p k).a2 (p k).b2 (p k).o2 (G k).nk (p k).c2 u _ (by omega) (by rw [HU.out]; exact hI) (by omega) hg.2).mono ?_
      rintro e w3 ⟨rfl, hb3⟩
      have B3 : Hid (Below w.heap.size w w3) := B2.out.trans (hb3.mono B2.out.size)
      obtain ⟨s, hs⟩ : ∃ s : Nat, s = u + (G k).nk := ⟨_, rfl⟩
      have HS : Hid (s = u + (G k).nk) := hs
      rw [← hs]
      have ns : ¬ (s : Int) < 0 := by omega
      clear hs hb3 hI q2
      go_wp2
      go_roundw
      case rel => exact ⟨k + 1, by omega, by go_num, by have := HX.out; have := HU.out; have := HS.out; show _ = Value.int .i64 ((cntN x G k + 1 + (G k).nn + (G k).nk : Nat) : Int); first | (congr 1; omega) | (simp; omega), B3.out⟩
      case measure => simp [intOf]; omega
    · have hkn : k = n := by omega
      subst hkn
      go_wp2
      go_ret
      exact ⟨rfl, hb⟩

end Go.Proofs.YtpbpbppimkeodaaGreatDoor

namespace Go.Proofs.YtpbpbppimkeodaaGreatDoor
open Go.RowKit

set_option maxRecDepth 100000 in
set_option maxHeartbeats 1000000 in
theorem t_markGraph (z : Int) (ao : Option Addr) (b o n c : Nat) (p : Nat → NP) (G : Nat → ND) (x : Nat) (w : World) (hz : z = (x : Int)) (h1 : NodesAt w ao b o n p G) (hO : OwnG w n b p G) (hx1 : 1 ≤ x) (hx2 : x ≤ 1048576) (hn : n ≤ 1048576) (hG : ∀ i, i < n → (G i).nn ≤ 1048576 ∧ (G i).nk ≤ 1048576) :
    Calls Tryz.prog 14 #[.agg #[.slice ao n c], .int .i64 z] w fun e w' => e = .returned (.int .i64 ((cntN x G n : Nat) : Int)) ∧ NodesAt w' ao b o n p (MGr x G) ∧ OwnG w' n b p G ∧ Fro w w' n b p G := by
  subst hz
  have HN : Hid (NodesAt (w.alloc (.cells #[.slice ao n c] 29)) ao b o n p G ∧ OwnG (w.alloc (.cells #[.slice ao n c] 29)) n b p G) := ⟨h1.below (bel1 _ _), hO.below (bel1 _ _)⟩
  have HG : Hid (∀ i, i < n → (G i).nn ≤ 1048576 ∧ (G i).nk ≤ 1048576) := hG
  clear h1 hO hG
  go_enter Tryz.func14, Tryz.ntmps14
  go_wp2_with fail
  refine (t_markNodeS _ ao b o n c p G x _ rfl HN.out.1 HN.out.2 hx1 hx2 hn HG.out).mono ?_
  rintro e w1 ⟨rfl, N1, O1, F1⟩
  have F : Hid (NodesAt w1 ao b o n p (MGr x G) ∧ OwnG w1 n b p G ∧ Fro w w1 n b p G) := by
    refine ⟨N1, O1, ⟨F1.os, F1.tape, F1.output, by have := F1.size; simp at this; omega, fun j hj q0 q1 => (F1.block j (by simp; omega) q0 q1).trans (Below.heap_alloc _ _ _ hj)⟩⟩
  clear N1 O1 F1
  go_wp2
  go_ret
  exact ⟨rfl, F.out⟩

set_option maxRecDepth 100000 in
set_option maxHeartbeats 1000000 in
theorem t_heldGraph (z : Int) (ao : Option Addr) (b o n c : Nat) (p : Nat → NP) (G : Nat → ND) (x : Nat) (w : World) (hz : z = (x : Int)) (h1 : NodesAt w ao b o n p (MGr x G)) (hx1 : 1 ≤ x) (hx2 : x ≤ 1048576) (hn : n ≤ 1048576) (hG : ∀ i, i < n → (G i).nn ≤ 1048576 ∧ (G i).nk ≤ 1048576) :
    Calls Tryz.prog 16 #[.agg #[.slice ao n c], .int .i64 z] w fun e w' => e = .returned (.int .i64 ((cntN x G n : Nat) : Int)) ∧ Below w.heap.size w w' := by
  subst hz
  have HN : Hid (NodesAt (w.alloc (.cells #[.slice ao n c] 29)) ao b o n p (MGr x G)) := h1.below (bel1 _ _)
  have HG : Hid (∀ i, i < n → (G i).nn ≤ 1048576 ∧ (G i).nk ≤ 1048576) := hG
  clear h1 hG
  go_enter Tryz.func16, Tryz.ntmps16
  go_wp2_with fail
  refine (t_heldNodeS _ ao b o n c p G x _ rfl HN.out hx1 hx2 hn HG.out).mono ?_
  rintro e w1 ⟨rfl, hb1⟩
  have F : Hid (Below w.heap.size w w1) := (bel1 w _).trans (hb1.mono (by simp))
  obtain ⟨q, hq⟩ : ∃ q : Nat, q = cntN x G n := ⟨_, rfl⟩
  rw [← hq]
  have HQ : Hid (q = cntN x G n) := hq
  have hq0 : ¬ (q : Int) < 0 := by omega
  clear hb1 hq
  go_wp2
  go_ret
  exact ⟨by rw [HQ.out]; rfl, F.out⟩

end Go.Proofs.YtpbpbppimkeodaaGreatDoor

