/-
  Tables: the program's copies of texts and keys.
-/
import Derived.Test.YtijgiingfgaakaaTabS
import Derived.Test.YtijgiingfgaakaaTabU
import Derived.Lib.UnsafeStr
import Derived.Lib.BufferWrite
import Derived.Laws.MakeOwn
import Derived.Lib.AppendZerosOnto
import Derived.Deep.RegionHeld3
namespace Go.Proofs.Ytijgiingfgaakaa
open Go.RowKit

theorem Try.info5 : (Try.prog.info? 5).map (fun i => (i.zero, i.size, i.bytes)) = some (some (.int .u8 0), 1, 1) := by kernel_rfl

set_option maxHeartbeats 4000000 in
theorem t_lite (s : ByteArray) (w : World) (hp : 0 < s.size) (hs : s.size ≤ 1048576) :
    Calls Try.prog 94 #[.string s] w fun e w' => e = .returned (.string s) ∧ Below w.heap.size w w' := by
  obtain ⟨i0, hi, hz0, hz1, hz2⟩ := info_parts' Try.info5
  have hsz : (Try.prog.info? 5).map (·.size) = some 1 := by rw [hi]; simp [hz1]
  have hone : Try.prog.cellsOf 5 = 1 := by simp [Program.cellsOf, hi, hz1]
  have hlen : s.data.toList.length = s.size := rfl
  obtain ⟨M, hM⟩ : ∃ M, M = madeCells (Value.int .u8 0).cells (((s.size : Nat) : Int).toNat * i0.size) := ⟨_, rfl⟩
  have hMs : M.size = s.size := by rw [hM, size_madeCells, hz1]; simp
  have hmk : ∀ W : World, (Instr.makeSlice 118 (.int .i64 (s.size : Int)) (.int .i64 (s.size : Int))).run Try.prog W = .ok (.slice (some ⟨W.heap.size, 0, none⟩) s.size s.size) (W.alloc (.cells M 5)) := fun W => by
    have h := run_make (P := Try.prog) W 118 5 i0 (.int .u8 0) Try.underlying118 hi hz0 .i64 .i64 (s.size : Int) (s.size : Int) (by omega) (by omega) (by rw [hz2]; omega) (by omega)
    rw [← hM] at h
    simpa using h
  clear hM
  have hcp := Lib.run_copy_row_string (P := Try.prog) (w.alloc (.cells M 5)) 118 9 3 5 w.heap.size 0 s.size s.size s M 5 Try.underlying118 hsz (heap_alloc_new w _) (Nat.le_refl _) (by omega)
  obtain ⟨Y, hY⟩ : ∃ Y, Y = (M.toList.take 0 ++ Lib.byteCells s.data.toList ++ M.toList.drop (0 + s.size)).toArray := ⟨_, rfl⟩
  rw [← hY] at hcp
  have hYl : Y.toList = Lib.byteCells s.data.toList := by
    rw [hY, List.toList_toArray, List.take_zero, List.nil_append, List.drop_of_length_le (by rw [Array.length_toList]; omega), List.append_nil]
  have hYs : Y.size = s.size := by rw [← Array.length_toList, hYl, Lib.byteCells_length, hlen]
  have hgY : ((w.alloc (.cells M 5)).setRow w.heap.size Y).heap[w.heap.size]? = some (.cells Y 5 (0, 0)) := setRow_heap _ _ M _ 5 (0, 0) (heap_alloc_new w _)
  have hUS := Lib.run_unsafeString_row (P := Try.prog) ((w.alloc (.cells M 5)).setRow w.heap.size Y) 132 3 9 5 Try.underlying132 hone w.heap.size Y.size (by unfold World.shape?; rw [hgY]) s.data.toList (fun e => by rw [e] at hlen; simp at hlen; omega) (by omega) (by omega)
    (fun j x hx => Lib.cells_of_row hgY Y.size j _ (by rw [List.take_of_length_le (by rw [Array.length_toList]; exact Nat.le_refl _), hYl]; simp [Lib.byteCells, hx]))
  rw [hlen] at hUS
  have b0 : ((s.size : Int) == 0) = false := beq_eq_false_iff_ne.2 (by omega)
  clear hY
  go_enter Try.func94, Try.ntmps94
  go_wp2
  go_ret
  have hb : Below w.heap.size (w.alloc (.cells M 5)) ((w.alloc (.cells M 5)).setRow w.heap.size Y) := ⟨rfl, rfl, rfl, by simp, fun k hk => setRow_other _ _ _ _ (by omega)⟩
  exact ⟨rfl, Lib.below_freeze ((bel1 w _).trans hb) (p := ⟨w.heap.size, 0, none⟩) (Nat.le_refl _) _⟩

theorem ba_empty {s : ByteArray} (h : s.size = 0) : s = ByteArray.empty := by
  apply ByteArray.ext
  apply Array.ext
  · exact h
  · intro i h1 h2
    exact absurd h2 (by simp)

set_option maxHeartbeats 1000000 in
theorem t_lite0 (w : World) :
    Calls Try.prog 94 #[.string ByteArray.empty] w fun e w' => e = .returned (.string ByteArray.empty) ∧ Below w.heap.size w w' := by
  go_enter Try.func94, Try.ntmps94
  go_wp2
  go_ret
  exact ⟨rfl, Below.refl _ _⟩

set_option maxHeartbeats 1000000 in
theorem t_clone (s : ByteArray) (w : World) (hs : s.size ≤ 1048576) :
    Calls Try.prog 77 #[.string s] w fun e w' => e = .returned (.string s) ∧ Below w.heap.size w w' := by
  have C : Calls Try.prog 94 #[.string s] w fun e w' => e = .returned (.string s) ∧ Below w.heap.size w w' := by
    by_cases h0 : s.size = 0
    · rw [ba_empty h0]; exact t_lite0 w
    · exact t_lite s w (by omega) hs
  go_enter Try.func77, Try.ntmps77
  go_wp2_with (go_at_call 94; refine C.mono ?_; rintro e w' ⟨rfl, hb⟩)
  go_ret
  exact ⟨rfl, hb⟩

theorem row2 (w : World) (a b : Value) (t : TypeId) : (w.alloc (.cells #[a, b] t)).rowIs w.heap.size t 2 (fun i => if i = 0 then a else b) :=
  World.rowIs_alloc w #[a, b] t _ (fun i hi => by
    match i, hi with
    | 0, _ => rfl
    | 1, _ => rfl)

set_option maxRecDepth 100000 in
set_option maxHeartbeats 2000000 in
theorem t_newKey (k : Int) (m : ByteArray) (w : World) (hm : m.size ≤ 1048576) :
    Calls Try.prog 76 #[.agg #[.int .i64 k, .string m]] w fun e w' => e = .returned (.agg #[.int .i64 k, .string m]) ∧ Below w.heap.size w w' := by
  have R1 := (row2 w (.int .i64 k) (.string m) 37).alloc (.cells #[.int .i64 0, .string ⟨#[]⟩] 37)
  have R2 := row2 (w.alloc (.cells #[.int .i64 k, .string m] 37)) (.int .i64 0) (.string ⟨#[]⟩) 37
  rw [World.size_alloc] at R2
  have BB : Below w.heap.size w ((w.alloc (.cells #[.int .i64 k, .string m] 37)).alloc (.cells #[.int .i64 0, .string ⟨#[]⟩] 37)) := bel2 _ _ _
  go_enter Try.func76, Try.ntmps76
  go_wp2_with fail
  obtain ⟨X, hX⟩ : ∃ X, X = ((w.alloc (.cells #[.int .i64 k, .string m] 37)).alloc (.cells #[.int .i64 0, .string ⟨#[]⟩] 37)) := ⟨_, rfl⟩
  rw [← hX] at R1 R2 BB
  rw [← hX]
  clear hX
  have HX : Hid (Below w.heap.size w X ∧ X.rowIs w.heap.size 37 2 (fun i => if i = 0 then .int .i64 k else .string m) ∧ X.rowIs (w.heap.size + 1) 37 2 (fun i => if i = 0 then .int .i64 0 else .string ⟨#[]⟩)) := ⟨BB, R1, R2⟩
  have a0 : X.cell? ⟨w.heap.size, 0, none⟩ = some (.int .i64 k) := R1.cell (i := 0) (by omega)
  have a1 : X.cell? ⟨w.heap.size, 1, none⟩ = some (.string m) := R1.cell (i := 1) (by omega)
  have C : Hid (∀ W, Below X.heap.size X W → Calls Try.prog 77 #[.string m] W fun e w' => e = .returned (.string m) ∧ Hid (Below X.heap.size X w')) := fun W hW => (t_clone m W hm).mono fun e w' ⟨he, hb⟩ => ⟨he, hW.trans (hb.mono hW.size)⟩
  have HZ : Hid (∀ W, Below X.heap.size X W → W.cell? ⟨w.heap.size, 0, none⟩ = some (.int .i64 k) ∧ W.cell? ⟨w.heap.size, 1, none⟩ = some (.string m) ∧ W.cell? ⟨w.heap.size + 1, 0, none⟩ = some (.int .i64 0) ∧ W.cell? ⟨w.heap.size + 1, 1, none⟩ = some (.string ⟨#[]⟩) ∧ W.frozen? ⟨w.heap.size + 1, 0, none⟩ = false ∧ W.frozen? ⟨w.heap.size + 1, 1, none⟩ = false) := fun W hW => by
    have r1 := HX.out.2.1.of_block (hW.block _ HX.out.2.1.lt)
    have r2 := HX.out.2.2.of_block (hW.block _ HX.out.2.2.lt)
    exact ⟨r1.cell (i := 0) (by omega), r1.cell (i := 1) (by omega), r2.cell (i := 0) (by omega), r2.cell (i := 1) (by omega), r2.frozen 0, r2.frozen 1⟩
  clear R1 R2 BB
  go_region_held3 (fun w' => w'.cell? ⟨w.heap.size, 0, none⟩ = some (.int .i64 k) ∧ w'.cell? ⟨w.heap.size, 1, none⟩ = some (.string m)) (go_keep)
    (first | (go_at_call 77; (with_reducible refine (C.out _ (Below.refl _ _).drew).mono ?_); rintro e w2 ⟨rfl, H2⟩; obtain ⟨b0, b1, b2, b3, b4, b5⟩ := HZ.out w2 H2.out))
  all_goals
    have B2 : Hid (Below w.heap.size w w2) := HX.out.1.trans (H2.out.mono HX.out.1.size)
    clear a0 a1 b0 b1 C HZ H2
    go_wp2
    refine bodyPost_ret (v := .agg #[.int .i64 k, .string m]) (by simp [results, Try.results76, go_sem, b2, b3]) rfl ⟨rfl, ?_⟩
    repeat' (first | with_reducible exact B2.out | refine Below.setCell ?_ ?_ _)
    all_goals (simp; try omega)

theorem own_below {w w' : World} {base : Nat} {e : TypeId} {size : Nat} {v : Value} {n : Nat} {xs : List Value} (h : w.ownsRow base e size v n xs) (hb : Below w.heap.size w w') : w'.ownsRow base e size v n xs :=
  own_same h (fun g hg => hb.block g (h.lt g hg).2)

set_option maxRecDepth 100000 in
set_option maxHeartbeats 2000000 in
theorem t_growK (n : Nat) (w : World) (hn : n ≤ 1048576) :
    Calls Try.prog 95 #[.slice none 0 0, .int .i64 (n : Int)] w fun e w' => ∃ sv, e = .returned sv ∧ w'.ownsRow w.heap.size 37 2 sv 0 [] ∧ Below w.heap.size w w' := by
  by_cases h0 : n = 0
  · subst h0
    go_enter Try.func95, Try.ntmps95
    go_wp2
    go_ret
    exact ⟨_, rfl, World.ownsRow_nil _ _ _ _, Below.refl _ _⟩
  · obtain ⟨i0, hi0, hz0, hz1, hz2⟩ := info_parts' Try.info37
    have hold : (Builtin.firstCells i0.size 0 (.slice none 0 0)).run Try.prog w.drew = .ok ([] : List Value).toArray w.drew := run_firstCells_none w.drew i0.size 0 0 0
    have hrz : ∀ ty, (Builtin.append_ #[38, 3] ty #[.slice none 0 0, .int .i64 (n : Int)]).run Try.prog w = _ := fun ty => Lib.run_append_grow_zeros w 38 3 ty 37 i0 _ .i64 .i64 Try.underlying38 Try.underlying3 hi0 hz0 none 0 0 [] hold n (by omega) (by omega) (by omega) (by omega) (by rw [hz2]; omega) (by rw [hz2]; exact growslice_fits (by omega) (by omega))
    rw [Nat.zero_add] at hrz
    obtain ⟨G, hG⟩ : ∃ G, G = grownCap w n 0 37 := ⟨_, rfl⟩
    have hGn : n ≤ G := by rw [hG]; exact grownCap_ge w _ _ _
    have hGm : G ≤ maxLen := by rw [hG]; exact grownCap_le_maxLen w n 0 37 (by unfold maxLen; omega)
    rw [← hG] at hrz
    obtain ⟨cs, hcs⟩ : ∃ cs, cs = (([] : List Value).toArray ++ Builtin.zeroCells (Value.agg #[.int .i64 0, .string ByteArray.empty]).cells n ++ Builtin.zeroCells (Value.agg #[.int .i64 0, .string ByteArray.empty]).cells (G - n)) := ⟨_, rfl⟩
    rw [← hcs] at hrz
    have hsz : cs.size = G * 2 := by rw [hcs]; simp [size_zeroCells, Value.cells]; omega
    have HF : Hid ((w.drew.alloc (.cells cs 37)).ownsRow w.heap.size 37 2 (.slice (some ⟨w.heap.size, 0, none⟩) 0 G) 0 [] ∧ Below w.heap.size w (w.drew.alloc (.cells cs 37))) :=
      ⟨World.ownsRow_made w.drew cs G (Nat.le_refl _) hGm hsz, (Below.refl _ _).drew.alloc (Nat.le_refl _) _⟩
    have hn0 : (0 : Int) < (n : Int) := by omega
    have hG63 : (G : Int) ≤ 9223372036854775807 := by unfold maxLen at hGm; omega
    clear hcs hG hGm hsz hold
    go_enter Try.func95, Try.ntmps95
    go_wp2_with (at_builtin; refine Lib.wpList_append_run _ rfl _ _ _ _ rfl _ _ rfl rfl _ _ (hrz _) ?_)
    go_ret
    exact ⟨_, rfl, HF.out.1, HF.out.2⟩

end Go.Proofs.Ytijgiingfgaakaa
