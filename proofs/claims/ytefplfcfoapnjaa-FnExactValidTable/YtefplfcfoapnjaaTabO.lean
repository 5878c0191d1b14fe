/-
  Tables: how the program keeps a table at work.
-/
import Derived.Test.YtefplfcfoapnjaaTabJ
import Derived.Test.YtefplfcfoapnjaaTabTo
namespace Go.Proofs.Ytefplfcfoapnjaa
open Go.RowKit

/-- An entry's cells. -/
def ec (p : SP) (d : SD) : List Value := [.int .i64 d.k, .string d.m, .int .i64 d.sin, .int .i64 d.own, .bool d.has, .string d.v, .slice p.a d.n p.c, .int .i64 d.ver, .int .i64 d.chg]
/-- The cells of the first n entries. -/
def ecells (p : Nat → SP) (D : Nat → SD) : Nat → List Value
  | 0 => []
  | n + 1 => ecells p D n ++ ec (p n) (D n)

theorem ecells_len (p : Nat → SP) (D : Nat → SD) (n : Nat) : (ecells p D n).length = n * 9 := by
  induction n with
  | zero => rfl
  | succ n ih => show (ecells p D n ++ ec (p n) (D n)).length = _; rw [List.length_append, ih]; show n * 9 + 9 = _; omega

theorem ecells_at (p : Nat → SP) (D : Nat → SD) (n i j : Nat) (hi : i < n) (hj : j < 9) : (ecells p D n)[i * 9 + j]? = (ec (p i) (D i))[j]? := by
  induction n with
  | zero => omega
  | succ n ih =>
    show (ecells p D n ++ ec (p n) (D n))[i * 9 + j]? = _
    by_cases e : i = n
    · subst e
      rw [List.getElem?_append_right (by rw [ecells_len]; omega), ecells_len, Nat.add_sub_cancel_left]
    · rw [List.getElem?_append_left (by rw [ecells_len]; omega)]
      exact ih (by omega)

/-- The two functions that a store's list keeps. -/
abbrev kf : Value := .func (.func 70) #[] #[]
abbrev of_ : Value := .func (.func 71) #[] #[]

/-- Three values by their place. -/
def v3 (a b c : Value) : Nat → Value
  | 0 => a
  | 1 => b
  | _ => c

theorem row3 (w : World) (a b c : Value) (t : TypeId) : (w.alloc (.cells #[a, b, c] t)).rowIs w.heap.size t 3 (v3 a b c) :=
  World.rowIs_alloc w #[a, b, c] t _ (fun i hi => by
    match i, hi with
    | 0, _ => rfl
    | 1, _ => rfl
    | 2, _ => rfl)

/-- A list of entries in memory. -/
structure OS (w : World) (base lb : Nat) (sv : Value) (n : Nat) (p : Nat → SP) (D : Nat → SD) : Prop where
  row : w.rowIs lb 107 3 (v3 sv kf of_)
  own : w.ownsRow base 81 9 sv n (ecells p D n)
  lo : base ≤ lb
  ne : some lb ≠ sv.ownBlock
  form : ∃ g cap, sv = .slice (some ⟨g, 0, none⟩) n cap

theorem own_same {w w' : World} {base : Nat} {e : TypeId} {size : Nat} {v : Value} {n : Nat} {xs : List Value} (h : w.ownsRow base e size v n xs) (hs : ∀ g, v.ownBlock = some g → w'.heap[g]? = w.heap[g]?) : w'.ownsRow base e size v n xs := by
  obtain ⟨h1, h2⟩ := h
  refine ⟨h1, ?_⟩
  rcases h2 with h2 | ⟨g, cap, cur, hv, hb, hh, r⟩
  · exact Or.inl h2
  · exact Or.inr ⟨g, cap, cur, hv, hb, (hs g (by rw [hv]; rfl)).trans hh, r⟩

theorem own_form {w : World} {base : Nat} {e : TypeId} {size : Nat} {v : Value} {n : Nat} {xs : List Value} (h : w.ownsRow base e size v n xs) : ∃ oa cap, v = .slice oa n cap := by
  rcases h.2 with ⟨rfl, rfl⟩ | ⟨g, cap, _, rfl, _⟩
  · exact ⟨none, 0, rfl⟩
  · exact ⟨_, cap, rfl⟩

theorem OS.below {w w' : World} {base lb : Nat} {sv : Value} {n : Nat} {p : Nat → SP} {D : Nat → SD} (h : OS w base lb sv n p D) (hb : Below w.heap.size w w') : OS w' base lb sv n p D :=
  ⟨h.row.of_block (hb.block _ h.row.lt), own_same h.own (fun g hg => hb.block g (h.own.lt g hg).2), h.lo, h.ne, h.form⟩

theorem Try.info81 : (Try.prog.info? 81).map (fun i => (i.zero, i.size, i.bytes)) = some (some (.agg #[.int .i64 0, .string ByteArray.empty, .int .i64 0, .int .i64 0, .bool false, .string ByteArray.empty, .slice none 0 0, .int .i64 0, .int .i64 0]), 9, 104) := by kernel_rfl

theorem make81 (n : Nat) (hn : n ≤ 1048577) (w : World) :
    (Instr.makeSlice 103 (.int .i64 0) (.int .i64 (n : Int))).run Try.prog w = .ok (.slice (some ⟨w.heap.size, 0, none⟩) 0 n) (w.alloc (.cells (madeCells #[.int .i64 0, .string ByteArray.empty, .int .i64 0, .int .i64 0, .bool false, .string ByteArray.empty, .slice none 0 0, .int .i64 0, .int .i64 0] (n * 9)) 81)) := by
  obtain ⟨i, hi, hzz⟩ := Option.map_eq_some_iff.1 Try.info81
  simp only [Prod.mk.injEq] at hzz
  obtain ⟨hz, hs, hb⟩ := hzz
  have hr := run_make (P := Try.prog) w 103 81 i _ Try.underlying103 hi hz .i64 .i64 0 n (by omega) (by omega) (by rw [hb]; omega) (by omega)
  rw [Int.toNat_natCast, hs] at hr
  exact hr

set_option maxRecDepth 100000 in
set_option maxHeartbeats 2000000 in
theorem c69 (n : Nat) (w : World) (hn : n ≤ 1048577) (p : Nat → SP) (D : Nat → SD) :
    Calls Try.prog 69 #[.int .i64 (n : Int), kf, of_] w fun e w' => ∃ lb sv, e = .returned (.pointer (some ⟨lb, 0, none⟩)) ∧ OS w' w.heap.size lb sv 0 p D ∧ Below w.heap.size w w' := by
  have hmk := make81 n hn
  have HM : Hid ((w.alloc (.cells (madeCells #[.int .i64 0, .string ByteArray.empty, .int .i64 0, .int .i64 0, .bool false, .string ByteArray.empty, .slice none 0 0, .int .i64 0, .int .i64 0] (n * 9)) 81)).ownsRow w.heap.size 81 9 (.slice (some ⟨w.heap.size, 0, none⟩) 0 n) 0 []) :=
    World.ownsRow_made w _ n (Nat.le_refl _) (by unfold maxLen; omega) (by rw [size_madeCells])
  go_enter Try.func69, Try.ntmps69
  go_wp2
  have hrow := row3 (w.alloc (.cells (madeCells #[.int .i64 0, .string ByteArray.empty, .int .i64 0, .int .i64 0, .bool false, .string ByteArray.empty, .slice none 0 0, .int .i64 0, .int .i64 0] (n * 9)) 81)) (.slice (some ⟨w.heap.size, 0, none⟩) 0 n) kf of_ 107
  rw [World.size_alloc] at hrow
  go_ret
  exact ⟨w.heap.size + 1, .slice (some ⟨w.heap.size, 0, none⟩) 0 n, rfl, ⟨hrow, HM.out.alloc _, by omega, by simp [Value.ownBlock], ⟨_, _, rfl⟩⟩, bel2 _ _ _⟩

set_option maxRecDepth 100000 in
set_option maxHeartbeats 2000000 in
theorem c50 (n : Nat) (w : World) (hn : n ≤ 1048577) (p : Nat → SP) (D : Nat → SD) :
    Calls Try.prog 50 #[.int .i64 (n : Int)] w fun e w' => ∃ sb lb sv, e = .returned (.pointer (some ⟨sb, 0, none⟩)) ∧ OS w' w.heap.size lb sv 0 p D ∧ w'.cell? ⟨sb, 0, none⟩ = some (.pointer (some ⟨lb, 0, none⟩)) ∧ w.heap.size ≤ sb ∧ sb ≠ lb ∧ some sb ≠ sv.ownBlock ∧ Below w.heap.size w w' := by
  go_enter Try.func50, Try.ntmps50
  go_wp2_with fail
  refine (c69 n w hn p D).mono ?_
  rintro e w1 ⟨lb, sv, rfl, HO, hb1⟩
  have HH : Hid (OS w1 w.heap.size lb sv 0 p D ∧ Below w.heap.size w w1) := ⟨HO, hb1⟩
  clear HO hb1
  go_wp2
  go_ret
  obtain ⟨h1, h2⟩ := HH.out
  refine ⟨w1.heap.size, lb, sv, rfl, h1.below (bel1 _ _), by simp, h2.size, ?_, ?_, h2.trans ((bel1 _ _).mono h2.size)⟩
  · have := h1.row.lt; omega
  · intro e; have := (h1.own.lt _ e.symm).2; omega

theorem info_parts {x : TypeInfo} {o : Option TypeInfo} {z : Value} {s b : Nat} (_ : o = some x) (h : o.map (fun i => (i.zero, i.size, i.bytes)) = some (some z, s, b)) : ∃ i, o = some i ∧ i.zero = some z ∧ i.size = s ∧ i.bytes = b := by
  obtain ⟨i, hi, hzz⟩ := Option.map_eq_some_iff.1 h
  simp only [Prod.mk.injEq] at hzz
  exact ⟨i, hi, hzz.1, hzz.2.1, hzz.2.2⟩

theorem cb_lt : ∀ a b : List UInt8, decide (Lib.compareBytes a b < 0) = Op.bytesLess a b
  | [], [] => rfl
  | [], _ :: _ => rfl
  | _ :: _, [] => rfl
  | a :: x, b :: y => by
    unfold Lib.compareBytes Op.bytesLess
    by_cases h1 : a < b
    · rw [if_pos h1]; simp [h1]
    · rw [if_neg h1]
      by_cases h2 : b < a
      · rw [if_pos h2]
        have : (a == b) = false := by
          rw [beq_eq_false_iff_ne]; intro e; subst e; exact h1 h2
        simp [h1, this]
      · rw [if_neg h2]
        have : a = b := by
          rw [UInt8.lt_iff_toNat_lt] at h1 h2
          exact UInt8.toNat_inj.1 (by omega)
        rw [cb_lt x y]
        simp [this]

theorem ck_lt (k : Int) (m : ByteArray) (k' : Int) (m' : ByteArray) : decide (ck k m k' m' < 0) = kl k m k' m' := by
  unfold ck or2 kl cmpI cmpS lt
  rw [ByteArray.toList_eq, ByteArray.toList_eq, ← cb_lt]
  by_cases h1 : k < k'
  · simp [h1]
  · by_cases h2 : k' < k
    · have : ¬ k = k' := by omega
      simp [h1, h2, this]
    · have : k = k' := by omega
      simp [this]

theorem add0 (g k : Nat) : (⟨g, 0, none⟩ : Addr).add k = ⟨g, k, none⟩ := by simp [Addr.add]; omega

theorem nine_ec {w : World} {base : Nat} {g n cap : Nat} {p : Nat → SP} {D : Nat → SD} (h : w.ownsRow base 81 9 (.slice (some ⟨g, 0, none⟩) n cap) n (ecells p D n)) (i : Nat) (hi : i < n) :
    w.cell? ⟨g, i * 9, none⟩ = some (.int .i64 (D i).k) ∧ w.cell? ⟨g, i * 9 + 1, none⟩ = some (.string (D i).m) ∧ w.cell? ⟨g, i * 9 + 2, none⟩ = some (.int .i64 (D i).sin) ∧
    w.cell? ⟨g, i * 9 + 3, none⟩ = some (.int .i64 (D i).own) ∧ w.cell? ⟨g, i * 9 + 4, none⟩ = some (.bool (D i).has) ∧ w.cell? ⟨g, i * 9 + 5, none⟩ = some (.string (D i).v) ∧
    w.cell? ⟨g, i * 9 + 6, none⟩ = some (.slice (p i).a (D i).n (p i).c) ∧ w.cell? ⟨g, i * 9 + 7, none⟩ = some (.int .i64 (D i).ver) ∧ w.cell? ⟨g, i * 9 + 8, none⟩ = some (.int .i64 (D i).chg) := by
  have key : ∀ j u, j < 9 → (ec (p i) (D i))[j]? = some u → w.cell? ⟨g, i * 9 + j, none⟩ = some u := fun j u hj hu => by
    have := h.cells (g := g) rfl (i * 9 + j) u (by rw [ecells_at p D n i j hi hj]; exact hu)
    rw [add0] at this
    exact this
  exact ⟨key 0 _ (by omega) rfl, key 1 _ (by omega) rfl, key 2 _ (by omega) rfl, key 3 _ (by omega) rfl, key 4 _ (by omega) rfl, key 5 _ (by omega) rfl, key 6 _ (by omega) rfl, key 7 _ (by omega) rfl, key 8 _ (by omega) rfl⟩

/-- A list that has at least one entry lies in a block. -/
theorem OS.some {w : World} {base lb : Nat} {sv : Value} {n : Nat} {p : Nat → SP} {D : Nat → SD} (h : OS w base lb sv n p D) (hn : 0 < n) : ∃ g cap, sv = .slice (some ⟨g, 0, none⟩) n cap := by
  rcases h.own.2 with ⟨_, h0⟩ | ⟨g, cap, _, hv, _⟩
  · omega
  · exact ⟨g, cap, hv⟩

/-- What stays under putLast. -/
structure Kept (keep : Nat → Prop) (w w' : World) : Prop where
  os : w'.os = w.os
  tape : w'.tape = w.tape
  output : w'.output = w.output
  size : w.heap.size ≤ w'.heap.size
  block : ∀ k, keep k → w'.heap[k]? = w.heap[k]?

/-- What putLast says. -/
def pl (D : Nat → SD) : Nat → Bool
  | 0 => true
  | q + 1 => kl (D q).k (D q).m (D (q + 1)).k (D (q + 1)).m

theorem os_step {w X w3 : World} {base lb n cap gg cap3 : Nat} {oa : Option Addr} {o : Obj} {p : Nat → SP} {D : Nat → SD} (h : OS w base lb (.slice oa n cap) n p D) (hX : Below w.heap.size w X)
    (hown3 : w3.ownsRow base 81 9 (.slice (some ⟨gg, 0, none⟩) (n + 1) cap3) (n + 1) (ecells p D n ++ ec (p n) (D n))) (hg3 : (X.alloc o).drew.grownBy w3 (Value.slice oa n cap).ownBlock)
    (hat : (Value.slice oa n cap).ownBlock = some gg ∨ gg = X.heap.size + 1) :
    Kept (fun b => b < w.heap.size ∧ b ≠ lb ∧ some b ≠ (Value.slice oa n cap).ownBlock) w (w3.setCell ⟨lb, 0, none⟩ (.slice (some ⟨gg, 0, none⟩) (n + 1) cap3)) ∧
      ∃ sv', OS (w3.setCell ⟨lb, 0, none⟩ (.slice (some ⟨gg, 0, none⟩) (n + 1) cap3)) base lb sv' (n + 1) p D ∧ (sv'.ownBlock = (Value.slice oa n cap).ownBlock ∨ ∃ g, sv'.ownBlock = some g ∧ w.heap.size ≤ g) := by
  have hsz := hX.size
  have hll := h.row.lt
  have b3 : ∀ k, k < w.heap.size → some k ≠ (Value.slice oa n cap).ownBlock → w3.heap[k]? = w.heap[k]? := fun k hk hne => by
    rw [hg3.block k (by simp; omega) hne]
    show (X.alloc o).heap[k]? = _
    rw [Below.heap_alloc _ _ _ (by omega), hX.block k hk]
  have hgl : gg ≠ lb := by
    rcases hat with e | e
    · intro e2; subst e2; exact h.ne e.symm
    · omega
  have hs3 := hg3.size
  refine ⟨⟨?_, ?_, ?_, ?_, fun k ⟨h1, h2, h4⟩ => ?_⟩, .slice (some ⟨gg, 0, none⟩) (n + 1) cap3, ⟨?_, ?_, h.lo, ?_, ⟨gg, cap3, rfl⟩⟩, ?_⟩
  · exact hg3.os.trans hX.os
  · exact hg3.tape.trans hX.tape
  · exact hg3.output.trans hX.output
  · simp at hs3 ⊢; omega
  · rw [Below.heap_setCell _ _ _ _ (by show k ≠ lb; exact h2), b3 k h1 h4]
  · exact ((h.row.of_block (b3 lb hll h.ne)).set 0 _).congr (fun i hi => by
      match i, hi with
      | 0, _ => rfl
      | 1, _ => rfl
      | 2, _ => rfl)
  · refine own_same hown3 (fun g hg => ?_)
    have : g = gg := by simpa [Value.ownBlock] using hg.symm
    subst this
    exact Below.heap_setCell _ _ _ _ (by show g ≠ lb; exact hgl)
  · simp only [Value.ownBlock]
    intro e; exact hgl (by simpa using e.symm)
  · rcases hat with e | e
    · left; rw [e]; rfl
    · right; exact ⟨gg, rfl, by omega⟩

end Go.Proofs.Ytefplfcfoapnjaa
