/-
  Scripts: what the library's variables hold; the program's numberWithin.
-/
import Derived.Test.YthmihmnagnibmaaDoorPrB
import Derived.Test.YthmihmnagnibmaaDoorShelf
namespace Go.Proofs.YthmihmnagnibmaaDoor
open Go.RowKit

/-- The library's variables that the reading of a script asks for. -/
structure Vars (W : World) : Prop where
  tab : Lib.TabIs Tryd.prog W "internal/strconv.uint64pow10" .u64 Lib.pow10Tab
  syn : ∃ tp p, W.var? Tryd.prog "strconv.ErrSyntax" = some #[.iface tp p]
  rng : ∃ tp p, W.var? Tryd.prog "strconv.ErrRange" = some #[.iface tp p]
  max : ∃ m, W.cell? ⟨0, 0, none⟩ = some (.int .i64 m)
theorem var_below {P : Program} {W W' : World} {n : String} {x : Array Value} (h : W.var? P n = some x) (hb : Below W.heap.size W W') : W'.var? P n = some x := by
  unfold World.var? at h ⊢
  rw [Option.bind_eq_some_iff] at h ⊢
  obtain ⟨g, hg, hx⟩ := h
  refine ⟨g, hg, ?_⟩
  have hl : g < W.heap.size := by
    rcases Nat.lt_or_ge g W.heap.size with h2 | h2
    · exact h2
    · rw [Array.getElem?_eq_none h2] at hx; cases hx
  rw [hb.block g hl]
  exact hx
theorem cell_below {W W' : World} {a : Addr} {v : Value} (h : W.cell? a = some v) (hb : Below W.heap.size W W') : W'.cell? a = some v := by
  have hl : a.block < W.heap.size := by
    rcases Nat.lt_or_ge a.block W.heap.size with h2 | h2
    · exact h2
    · unfold World.cell? at h; rw [Array.getElem?_eq_none h2] at h; cases h
  rw [World.cell?_of_block (hb.block _ hl)]
  exact h
theorem Vars.below {W W' : World} (h : Vars W) (hb : Below W.heap.size W W') : Vars W' := by
  obtain ⟨h1, ⟨t1, p1, h2⟩, ⟨t2, p2, h3⟩, ⟨m, h4⟩⟩ := h
  exact ⟨var_below h1 hb, ⟨t1, p1, var_below h2 hb⟩, ⟨t2, p2, var_below h3 hb⟩, ⟨m, cell_below h4 hb⟩⟩

theorem below_grow (w : World) (k : Nat) (os : Array Obj) : Below w.heap.size w (Sort.grow (w.drewN k) os) :=
  ⟨rfl, rfl, rfl, by show w.heap.size ≤ (w.heap ++ os).size; rw [Array.size_append]; omega, fun i hi => by
    show (w.heap ++ os)[i]? = w.heap[i]?
    rw [Array.getElem?_append_left hi]⟩

/-- strconv.Atoi and strconv.Itoa, in one word each. -/
theorem k_atoi (p : ByteArray) (w : World) (hv : Vars w) (hp : p.size ≤ 1048576) :
    Calls Tryd.prog 45 #[.string p] w fun e w' => Below w.heap.size w w' ∧ ((∃ n, Lib.atoiAll p.data.toList = .ok n ∧ -9223372036854775808 ≤ n ∧ n ≤ 9223372036854775807 ∧ e = .returned (.tuple #[.int .i64 n, .nilIface])) ∨ ((∀ n, Lib.atoiAll p.data.toList ≠ .ok n) ∧ ∃ n t x, e = .returned (.tuple #[.int .i64 n, .iface t x]))) := by
  cases h : Lib.atoiAll p.data.toList with
  | ok v =>
    refine (Tryd.strconv_Atoi_ok p (by omega) v h w).mono fun e w' ⟨he, hw⟩ => ⟨?_, Or.inl ⟨v, rfl, (Lib.atoiAll_bounds h).1, (Lib.atoiAll_bounds h).2, he⟩⟩
    rcases hw with rfl | ⟨t, rfl⟩
    · exact Below.refl _ _
    · exact Lib.bytesWorld_below _ _ _
  | «syntax» =>
    obtain ⟨tp, q, hq⟩ := hv.syn
    exact (Tryd.strconv_Atoi_syntax_var p (by omega) h tp q w hq).mono fun e w' ⟨N, he, _, _, hb⟩ => ⟨hb, Or.inr ⟨fun _ hn => (nomatch hn), 0, _, _, he⟩⟩
  | range =>
    obtain ⟨tp, q, hq⟩ := hv.rng
    exact (Tryd.strconv_Atoi_range_var p (by omega) h tp q w hq).mono fun e w' ⟨N, he, _, _, hb⟩ => ⟨hb, Or.inr ⟨fun _ hn => (nomatch hn), _, _, _, he⟩⟩
theorem k_itoa (n : Int) (w : World) (hv : Vars w) (h0 : -9223372036854775808 ≤ n) (h1 : n ≤ 9223372036854775807) :
    Calls Tryd.prog 46 #[.int .i64 n] w fun e w' => e = .returned (.string ⟨(Lib.itoa n).toArray⟩) ∧ Below w.heap.size w w' :=
  (Tryd.strconv_Itoa n h0 h1 w hv.tab).mono fun e w' ⟨he, k, os, hw⟩ => ⟨he, by rw [hw]; exact below_grow _ _ _⟩

/-- What the reading of a number gives. -/
def NumPost (p : ByteArray) (lo hi : Int) (w : World) (e : Ending) (w' : World) : Prop :=
  ∃ n, e = .returned (.tuple #[.int .i64 n, .bool (decide (lo ≤ num p ∧ num p ≤ hi))]) ∧ ((lo ≤ num p ∧ num p ≤ hi) → n = num p) ∧ Below w.heap.size w w'
theorem num_post {p : ByteArray} {lo hi n : Int} {b c : Bool} {w w' : World} (hd : decide (lo ≤ num p ∧ num p ≤ hi) = c) (hb : b = c) (h : (lo ≤ num p ∧ num p ≤ hi) → n = num p) (hw : Below w.heap.size w w') : NumPost p lo hi w (.returned (.tuple #[.int .i64 n, .bool b])) w' := by
  rw [hb, ← hd]
  exact ⟨n, rfl, h, hw⟩

set_option maxRecDepth 100000 in
set_option maxHeartbeats 4000000 in
theorem p_num (p : ByteArray) (lo hi : Int) (w : World) (hv : Vars w) (hp : p.size ≤ 1048576) (h0 : 0 ≤ lo) (h1 : hi ≤ 999999) :
    Calls Tryd.prog 38 #[.string p, .int .i64 lo, .int .i64 hi] w fun e w' => NumPost p lo hi w e w' := by
  have CA : Hid (Calls Tryd.prog 45 #[.string p] w fun e w' => Hid (Below w.heap.size w w') ∧ ((∃ n, Hid (Lib.atoiAll p.data.toList = .ok n ∧ -9223372036854775808 ≤ n ∧ n ≤ 9223372036854775807) ∧ e = .returned (.tuple #[.int .i64 n, .nilIface])) ∨ (Hid (∀ n, Lib.atoiAll p.data.toList ≠ .ok n) ∧ ∃ n t x, e = .returned (.tuple #[.int .i64 n, .iface t x])))) :=
    (k_atoi p w hv hp).mono fun e w' h => ⟨h.1, h.2.imp (fun ⟨n, a, b, c, d⟩ => ⟨n, ⟨a, b, c⟩, d⟩) id⟩
  have HV : Hid (Vars w) := hv
  have H01 : Hid (0 ≤ lo ∧ hi ≤ 999999) := ⟨h0, h1⟩
  clear hv h0 h1
  go_enter Tryd.func38, Tryd.ntmps38
  go_wp2_with fail
  refine CA.out.mono ?_
  rintro e w1 ⟨hb1, (⟨n, hn, rfl⟩ | ⟨hn, n, t, x, rfl⟩)⟩
  · have CI : Hid (Calls Tryd.prog 46 #[.int .i64 n] w1 fun e w' => e = .returned (.string ⟨(Lib.itoa n).toArray⟩) ∧ Hid (Below w.heap.size w w')) := (k_itoa n w1 (HV.out.below hb1.out) hn.out.2.1 hn.out.2.2).mono fun e w' ⟨he, hb⟩ => ⟨he, hb1.out.trans (hb.mono hb1.out.size)⟩
    obtain ⟨q, hq⟩ : ∃ q : ByteArray, q = ⟨(Lib.itoa n).toArray⟩ := ⟨_, rfl⟩
    rw [← hq] at CI
    have HQ : Hid (q.data.toList = Lib.itoa n) := by rw [hq]; rfl
    clear hq
    have W := within_ok hn.out.1 H01.out.1 H01.out.2
    have HW : Hid ((decide (Lib.itoa n = p.data.toList) && decide (lo ≤ n) && decide (n ≤ hi)) = decide (lo ≤ num p ∧ num p ≤ hi) ∧ ((lo ≤ num p ∧ num p ≤ hi) → n = num p)) := W
    clear W
    by_cases g : q.toList = p.toList
    · have e : Lib.itoa n = p.data.toList := by rw [← HQ.out, ← Lib.toList_data, g, Lib.toList_data]
      have HE : Hid (Lib.itoa n = p.data.toList) := e
      clear e
      by_cases g1 : lo ≤ n
      · by_cases g2 : n ≤ hi
        · have HD : Hid (decide (lo ≤ num p ∧ num p ≤ hi) = true) := Lib.hid (by rw [← HW.out.1]; simp [HE.out, g1, g2])
          go_wp2_with (first | (go_at_call 46; (with_reducible refine CI.out.mono ?_); rintro e w2 ⟨rfl, hb2⟩))
          go_ret2
          exact num_post HD.out (by first | rfl | simp [g2]) HW.out.2 hb2.out
        · have HD : Hid (decide (lo ≤ num p ∧ num p ≤ hi) = false) := Lib.hid (by rw [← HW.out.1]; simp [g2])
          go_wp2_with (first | (go_at_call 46; (with_reducible refine CI.out.mono ?_); rintro e w2 ⟨rfl, hb2⟩))
          go_ret2
          exact num_post HD.out (by first | rfl | simp [g2]) HW.out.2 hb2.out
      · have HD : Hid (decide (lo ≤ num p ∧ num p ≤ hi) = false) := Lib.hid (by rw [← HW.out.1]; simp [g1])
        go_wp2_with (first | (go_at_call 46; (with_reducible refine CI.out.mono ?_); rintro e w2 ⟨rfl, hb2⟩))
        go_ret2
        exact num_post HD.out (by first | rfl | simp [g2]) HW.out.2 hb2.out
    · have e : ¬ Lib.itoa n = p.data.toList := fun h => g (by rw [Lib.toList_data, Lib.toList_data, HQ.out, h])
      have HE : Hid (¬ Lib.itoa n = p.data.toList) := e
      clear e
      have HD : Hid (decide (lo ≤ num p ∧ num p ≤ hi) = false) := Lib.hid (by rw [← HW.out.1]; simp [HE.out])
      go_wp2_with (first | (go_at_call 46; (with_reducible refine CI.out.mono ?_); rintro e w2 ⟨rfl, hb2⟩))
      go_ret2
      exact num_post HD.out (by first | rfl | simp [g2]) HW.out.2 hb2.out
  · have HD : Hid (decide (lo ≤ num p ∧ num p ≤ hi) = false) := within_no hn.out H01.out.1
    go_wp2_with fail
    go_ret2
    exact num_post HD.out rfl (fun h => absurd (decide_eq_true h) (by rw [HD.out]; decide)) hb1.out

end Go.Proofs.YthmihmnagnibmaaDoor
