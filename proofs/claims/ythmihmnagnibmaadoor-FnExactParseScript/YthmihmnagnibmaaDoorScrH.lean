/-
  Scripts: the law's marks.
-/
import Derived.Test.YthmihmnagnibmaaDoorScrG
import Derived.Laws.BytesString
namespace Go.Proofs.YthmihmnagnibmaaDoor
open Go.RowKit

/-- All blocks but those from lo to hi are as they were. -/
structure Span (lo hi : Nat) (w w' : World) : Prop where
  os : w'.os = w.os
  tape : w'.tape = w.tape
  output : w'.output = w.output
  size : w.heap.size ≤ w'.heap.size
  block : ∀ x, x < w.heap.size → (x < lo ∨ hi ≤ x) → w'.heap[x]? = w.heap[x]?

theorem Span.refl (lo hi : Nat) (w : World) : Span lo hi w w := ⟨rfl, rfl, rfl, Nat.le_refl _, fun _ _ _ => rfl⟩
theorem Span.trans {lo hi : Nat} {w w1 w2 : World} (h : Span lo hi w w1) (h2 : Span lo hi w1 w2) : Span lo hi w w2 :=
  ⟨h2.os.trans h.os, h2.tape.trans h.tape, h2.output.trans h.output, Nat.le_trans h.size h2.size, fun x hx hn => (h2.block x (Nat.lt_of_lt_of_le hx h.size) hn).trans (h.block x hx hn)⟩
theorem Span.below {lo hi : Nat} {w w1 w2 : World} (h : Span lo hi w w1) (hb : Below w1.heap.size w1 w2) : Span lo hi w w2 :=
  ⟨hb.os.trans h.os, hb.tape.trans h.tape, hb.output.trans h.output, Nat.le_trans h.size hb.size, fun x hx hn => (hb.block x (Nat.lt_of_lt_of_le hx h.size)).trans (h.block x hx hn)⟩
theorem Span.set {lo hi : Nat} {w w1 : World} (h : Span lo hi w w1) {b : Nat} (o : Nat) (h1 : lo ≤ b) (h2 : b < hi) (v : Value) : Span lo hi w (w1.setCell ⟨b, o, none⟩ v) :=
  ⟨h.os, h.tape, h.output, by simpa [World.setCell] using h.size, fun x hx hn => (Below.heap_setCell _ _ _ _ (by show x ≠ b; omega)).trans (h.block x hx hn)⟩
theorem Span.wide {lo hi lo' hi' : Nat} {w w' : World} (h : Span lo hi w w') (h1 : lo' ≤ lo) (h2 : hi ≤ hi') : Span lo' hi' w w' :=
  ⟨h.os, h.tape, h.output, h.size, fun x hx hn => h.block x hx (by omega)⟩
theorem Span.of_below {lo hi : Nat} {w w' : World} (h : Below w.heap.size w w') : Span lo hi w w' := (Span.refl lo hi w).below h
/-- What is made above is no matter to those below. -/
theorem Span.toBelow {lo hi base : Nat} {w w1 w2 : World} (h : Below base w w1) (h2 : Span lo hi w1 w2) (hl : base ≤ lo) (hs : base ≤ w1.heap.size) : Below base w w2 :=
  ⟨h2.os.trans h.os, h2.tape.trans h.tape, h2.output.trans h.output, Nat.le_trans h.size h2.size, fun x hx => (h2.block x (by omega) (by omega)).trans (h.block x hx)⟩

/-- The digits of a number, ahead of what is there. -/
def mdig (k : Nat) (acc : List UInt8) : List UInt8 := if k = 0 then acc else mdig (k / 10) (UInt8.ofNat (48 + k % 10) :: acc)
termination_by k
decreasing_by omega
theorem mdig_zero (acc : List UInt8) : mdig 0 acc = acc := by rw [mdig, if_pos rfl]
theorem mdig_step {k : Nat} (h : k ≠ 0) (acc : List UInt8) : mdig k acc = mdig (k / 10) (UInt8.ofNat (48 + k % 10) :: acc) := by
  rw [mdig, if_neg h]

/-- The text that marks a number above 0. -/
def mt (k : Nat) : ByteArray := ⟨(109 :: mdig k []).toArray⟩

theorem mdig_len : ∀ (j k : Nat) (acc : List UInt8), k ≤ j → (mdig k acc).length ≤ k + acc.length := by
  intro j
  induction j with
  | zero => intro k acc h; have : k = 0 := by omega
            subst this; rw [mdig_zero]; omega
  | succ j ih =>
    intro k acc h
    by_cases e : k = 0
    · subst e; rw [mdig_zero]; omega
    · rw [mdig_step e]
      have := ih (k / 10) (UInt8.ofNat (48 + k % 10) :: acc) (by omega)
      rw [List.length_cons] at this
      omega
theorem mt_size (k : Nat) : (mt k).size ≤ k + 1 := by
  have := mdig_len k k [] (Nat.le_refl _)
  show (109 :: mdig k []).toArray.size ≤ _
  simp at this ⊢
  omega

theorem cell_one_new (w : World) (v : Value) (t : TypeId) : ∀ j u, [v][j]? = some u → (w.alloc (.cells #[v] t)).cell? ((⟨w.heap.size, 0, none⟩ : Addr).add j) = some u := by
  intro j u h
  match j, h with
  | 0, h => simp at h; subst h; simp [Addr.add]

theorem conv_one (W : World) (n : Int) : (convert 65 9 (.slice (some ⟨W.heap.size, 0, none⟩) 1 1)).run Tryd.prog (W.alloc (.cells #[.int .u8 n] 5)) = .ok (.string ⟨#[UInt8.ofNat n.toNat]⟩) (W.alloc (.cells #[.int .u8 n] 5)) := by
  rw [run_convert_bytes_string _ 65 9 5 _ 1 1 Tryd.underlying65 Tryd.underlying5 Tryd.underlying9]
  have := run_bytesToString (P := Tryd.prog) (W.alloc (.cells #[.int .u8 n] 5)) ⟨W.heap.size, 0, none⟩ 1 1 [n] (run_loadCells_list _ ⟨W.heap.size, 0, none⟩ [.int .u8 n] (cell_one_new W (.int .u8 n) 5))
  exact this

set_option maxRecDepth 100000 in
set_option maxHeartbeats 2000000 in
theorem t_markText (z : Int) (k : Nat) (w : World) (hz : z = (k : Int)) (hk : 0 < k) (hk2 : k ≤ 4611686018427387904) :
    Calls Tryd.prog 34 #[.int .i64 z] w fun e w' => e = .returned (.string (mt k)) ∧ Below w.heap.size w w' := by
  subst hz
  have h0 : ¬ (k : Int) ≤ 0 := by omega
  go_enter Tryd.func34, Tryd.ntmps34
  go_wp2
  go_loopw [3, 0] (fun o i wr => ∃ (j : Nat) (acc : ByteArray), i = .int .i64 j ∧ o = .string acc ∧ Hid (mdig j acc.data.toList = mdig k []) ∧ acc.size + j ≤ k ∧ Below w.heap.size w wr) (fun _ i _ => (intOf i).toNat)
  case atStart => exact ⟨k, ⟨#[]⟩, rfl, rfl, by show _ = _; rfl, by show 0 + k ≤ k; omega, Below.refl _ _⟩
  case round =>
    obtain ⟨j, acc, rfl, rfl, HM, hsz, hb⟩ := hrel
    by_cases hlt : 0 < j
    · have hlt' : (0 : Int) < (j : Int) := by omega
      have hcv := conv_one wr (48 + (j : Int) % 10)
      obtain ⟨sx, hsx⟩ : ∃ sx : ByteArray, sx = ⟨#[UInt8.ofNat (48 + (j : Int) % 10).toNat]⟩ := ⟨_, rfl⟩
      rw [← hsx] at hcv
      have hq : (j : Int).tdiv 10 = ((j / 10 : Nat) : Int) := by rw [Int.tdiv_eq_ediv_of_nonneg (by omega)]; omega
      have hq2 : IntKind.i64.wrap ((j / 10 : Nat) : Int) = ((j / 10 : Nat) : Int) := by rw [IntKind.wrap_i64]; omega
      have HN : Hid (mdig (j / 10) (sx ++ acc).data.toList = mdig k []) := by
        show _ = _
        rw [← HM.out, mdig_step (k := j) (by omega), hsx]
        have : (48 + (j : Int) % 10).toNat = 48 + j % 10 := by omega
        rw [this]
        simp [ByteArray.data_append]
      have one : sx.size = 1 := by rw [hsx]; rfl
      have hsz2 : (sx ++ acc).size = 1 + acc.size := by
        rw [ByteArray.size_append, one]
      have hadd := fun W => run_string_add_sum (P := Tryd.prog) (w := W) sx acc (by rw [one]; omega)
      clear hsx
      go_wp2
      go_roundw
      case rel => exact ⟨j / 10, _, by first | rfl | (rw [hq, hq2]) | simp, rfl, HN, by omega, hb.alloc hb.size _⟩
      case measure => simp [intOf]; omega
    · have hj : j = 0 := by omega
      subst hj
      have HE : Hid (mt k = (⟨#[109]⟩ : ByteArray) ++ acc) := by
        show _ = _
        have := HM.out
        rw [mdig_zero] at this
        unfold mt
        rw [← this]
        apply ByteArray.ext
        simp [ByteArray.data_append]
      go_wp2
      go_ret
      exact ⟨by rw [HE.out]; rfl, hb⟩

/-- The event that is marked. -/
def mkE (x i : Nat) : EV := ⟨((x + 4 * i : Nat) : Int), mt (x + 4 * i + 1), mt (x + 4 * i + 2), ((x + 4 * i + 3 : Nat) : Int)⟩

/-- Half of the events are marked. -/
structure MkE (w wr : World) (g N k x : Nat) : Prop where
  span : Span g (g + 1) w wr
  row : ∃ f, wr.rowIs g 36 N f ∧ ∀ i j, i < k → j < 4 → f (i * 4 + j) = evf (mkE x i) j

theorem mk_step {w wr w2 w3 : World} {g N k x : Nat} (h : MkE w wr g N k x) (hk : k * 4 + 4 ≤ N) (hb2 : Below wr.heap.size (wr.setCell ⟨g, k * 4, none⟩ (.int .i64 (mkE x k).kind)) w2)
    (hb3 : Below w2.heap.size (w2.setCell ⟨g, k * 4 + 1, none⟩ (.string (mkE x k).name)) w3) :
    MkE w ((w3.setCell ⟨g, k * 4 + 2, none⟩ (.string (mkE x k).text)).setCell ⟨g, k * 4 + 3, none⟩ (.int .i64 (mkE x k).wk)) g N (k + 1) x := by
  obtain ⟨f, hr, hf⟩ := h.row
  have hg := hr.lt
  have r1 := hr.set (k * 4) (.int .i64 (mkE x k).kind)
  have r2 := r1.of_block (hb2.block _ hg)
  have hg2 := r2.lt
  have r3 := r2.set (k * 4 + 1) (.string (mkE x k).name)
  have r4 := r3.of_block (hb3.block _ hg2)
  have r5 := (r4.set (k * 4 + 2) (.string (mkE x k).text)).set (k * 4 + 3) (.int .i64 (mkE x k).wk)
  have s1 := h.span.set (b := g) (k * 4) (Nat.le_refl _) (Nat.lt_succ_self _) (.int .i64 (mkE x k).kind)
  have s2 := s1.below (w2 := w2) (by simpa [World.setCell] using hb2)
  have s3 := s2.set (b := g) (k * 4 + 1) (Nat.le_refl _) (Nat.lt_succ_self _) (.string (mkE x k).name)
  have s4 := s3.below (w2 := w3) (by simpa [World.setCell] using hb3)
  refine ⟨(s4.set (b := g) (k * 4 + 2) (Nat.le_refl _) (Nat.lt_succ_self _) _).set (b := g) (k * 4 + 3) (Nat.le_refl _) (Nat.lt_succ_self _) _, _, r5, fun i j hi hj => ?_⟩
  show (if i * 4 + j = k * 4 + 3 then _ else if i * 4 + j = k * 4 + 2 then _ else if i * 4 + j = k * 4 + 1 then _ else if i * 4 + j = k * 4 then _ else f (i * 4 + j)) = _
  by_cases e : i = k
  · subst e
    match j, hj with
    | 0, _ => rw [if_neg (by omega), if_neg (by omega), if_neg (by omega), if_pos (by omega)]; rfl
    | 1, _ => rw [if_neg (by omega), if_neg (by omega), if_pos rfl]; rfl
    | 2, _ => rw [if_neg (by omega), if_pos rfl]; rfl
    | 3, _ => rw [if_pos rfl]; rfl
  · rw [if_neg (by omega), if_neg (by omega), if_neg (by omega), if_neg (by omega)]
    exact hf i j (by omega) hj

set_option maxRecDepth 100000 in
set_option maxHeartbeats 2000000 in
theorem l_markEvents (ao : Option Addr) (g c n : Nat) (E : Nat → EV) (x : Nat) (w : World) (h : EvsIn w ao g n E) (hx1 : 1 ≤ x) (hx2 : x ≤ 1048576) :
    Calls Tryd.prog 18 #[.slice ao n c, .int .i64 (x : Int)] w fun e w' => e = .returned (.int .i64 ((x + 4 * n : Nat) : Int)) ∧ EvsIn w' ao g n (mkE x) ∧ Span g (g + 1) w w' := by
  by_cases hn0 : n = 0
  · subst hn0
    clear h
    go_enter Tryd.func18, Tryd.ntmps18
    go_wp2
    go_loopw [1, 5] (fun z i wr => z = .int .i64 (x : Int) ∧ i = .int .i64 0 ∧ w = wr) (fun _ _ _ => 0)
    case atStart => exact ⟨rfl, rfl, rfl⟩
    case round =>
      obtain ⟨rfl, rfl, rfl⟩ := hrel
      go_wp2
      go_ret
      exact ⟨rfl, ⟨fun h => absurd h (Nat.lt_irrefl _), fun h => absurd h (Nat.lt_irrefl _), Nat.zero_le _⟩, Span.refl _ _ _⟩
  obtain ⟨N, f, hr, hN, hf⟩ := h.row (by omega)
  have e1 := h.at_ (by omega)
  have hlen := h.len
  subst e1
  have M0 : Hid (MkE w w g N 0 x) := ⟨Span.refl _ _ _, f, hr, fun i j hi => absurd hi (Nat.not_lt_zero _)⟩
  clear h hr hf
  go_enter Tryd.func18, Tryd.ntmps18
  go_wp2
  go_loopw [1, 5] (fun z i wr => ∃ k : Nat, k ≤ n ∧ i = .int .i64 (k : Int) ∧ z = .int .i64 ((x + 4 * k : Nat) : Int) ∧ Hid (MkE w wr g N k x)) (fun _ i _ => n - (intOf i).toNat)
  case atStart => exact ⟨0, Nat.zero_le _, rfl, rfl, M0⟩
  case round =>
    clear M0
    obtain ⟨k, hk, rfl, rfl, HM⟩ := hrel
    by_cases hlt : k < n
    · obtain ⟨y, hy⟩ : ∃ y, y = x + 4 * k := ⟨_, rfl⟩
      rw [← hy]
      obtain ⟨f, hr, hf⟩ := HM.out.row
      have hgl := hr.lt
      have d0 := hr.cell (i := k * 4) (by omega)
      have d0f := hr.frozen (k * 4)
      have hki : (k : Int) < (n : Int) := by omega
      have hk0 : (0 : Int) ≤ (k : Int) := by omega
      have w1 : IntKind.i64.wrap ((y : Int) + 1) = (y : Int) + 1 := by rw [IntKind.wrap_i64]; omega
      have w2 : IntKind.i64.wrap ((y : Int) + 1 + 1) = (y : Int) + 1 + 1 := by rw [IntKind.wrap_i64]; omega
      have w3 : IntKind.i64.wrap ((y : Int) + 1 + 1 + 1) = (y : Int) + 1 + 1 + 1 := by rw [IntKind.wrap_i64]; omega
      have w4 : IntKind.i64.wrap ((y : Int) + 1 + 1 + 1 + 1) = (y : Int) + 1 + 1 + 1 + 1 := by rw [IntKind.wrap_i64]; omega
      have HY : Hid (y = x + 4 * k) := hy
      have hyb : y ≤ 10485760 := by omega
      have HRW : Hid (wr.rowIs g 36 N f) := hr
      clear hr hf hy
      go_wp2_with fail
      refine (t_markText ((y : Int) + 1) (y + 1) _ (by omega) (by omega) (by omega)).mono ?_
      rintro e wa ⟨rfl, hba⟩
      have hza : (wr.setCell ⟨g, k * 4, none⟩ (.int .i64 (y : Int))).heap.size = wr.heap.size := by simp
      have HBA : Hid (Below wr.heap.size (wr.setCell ⟨g, k * 4, none⟩ (.int .i64 (y : Int))) wa) := by rw [hza] at hba; exact hba
      have ra := (HRW.out.set (k * 4) (.int .i64 (y : Int))).of_block (HBA.out.block _ hgl)
      have HRA : Hid (wa.rowIs g 36 N _) := ra
      have d1 := ra.cell (i := k * 4 + 1) (by omega)
      have d1f := ra.frozen (k * 4 + 1)
      clear hba ra d0 d0f hza
      go_wp2_with fail
      refine (t_markText ((y : Int) + 1 + 1) (y + 2) _ (by omega) (by omega) (by omega)).mono ?_
      rintro e wb ⟨rfl, hbb⟩
      have hzb : (wa.setCell ⟨g, k * 4 + 1, none⟩ (.string (mt (y + 1)))).heap.size = wa.heap.size := by simp
      have HBB : Hid (Below wa.heap.size (wa.setCell ⟨g, k * 4 + 1, none⟩ (.string (mt (y + 1)))) wb) := by rw [hzb] at hbb; exact hbb
      have rb := (HRA.out.set (k * 4 + 1) (.string (mt (y + 1)))).of_block (HBB.out.block _ HRA.out.lt)
      have d2 := rb.cell (i := k * 4 + 2) (by omega)
      have d2f := rb.frozen (k * 4 + 2)
      have d3 := (rb.set (k * 4 + 2) (.string (mt (y + 2)))).cell (i := k * 4 + 3) (by omega)
      have d3f := (rb.set (k * 4 + 2) (.string (mt (y + 2)))).frozen (k * 4 + 3)
      clear hbb rb d1 d1f hzb
      have FIN : Hid (MkE w ((wb.setCell ⟨g, k * 4 + 2, none⟩ (.string (mt (y + 2)))).setCell ⟨g, k * 4 + 3, none⟩ (.int .i64 ((y : Int) + 1 + 1 + 1))) g N (k + 1) x) := by
        have e0 : (mkE x k).kind = (y : Int) := by show ((x + 4 * k : Nat) : Int) = _; rw [← HY.out]
        have e1 : (mkE x k).name = mt (y + 1) := by show mt (x + 4 * k + 1) = _; rw [← HY.out]
        have e2 : (mkE x k).text = mt (y + 2) := by show mt (x + 4 * k + 2) = _; rw [← HY.out]
        have e3 : (mkE x k).wk = (y : Int) + 1 + 1 + 1 := by show ((x + 4 * k + 3 : Nat) : Int) = _; rw [← HY.out]; omega
        have := mk_step (w2 := wa) (w3 := wb) HM.out (by omega) (by rw [e0]; exact HBA.out) (by rw [e1]; exact HBB.out)
        rw [e2, e3] at this
        exact this
      go_wp2
      go_roundw
      case rel => exact ⟨k + 1, by omega, by go_num, by rw [show x + 4 * (k + 1) = y + 4 by have := HY.out; omega]; rfl, FIN⟩
      case measure => simp [intOf]; omega
    · have e1 : k = n := by omega
      subst e1
      go_wp2
      go_ret
      refine ⟨rfl, ⟨fun _ => rfl, fun _ => ?_, hlen⟩, HM.out.span⟩
      obtain ⟨f, hr, hf⟩ := HM.out.row
      exact ⟨N, f, hr, hN, hf⟩

end Go.Proofs.YthmihmnagnibmaaDoor
