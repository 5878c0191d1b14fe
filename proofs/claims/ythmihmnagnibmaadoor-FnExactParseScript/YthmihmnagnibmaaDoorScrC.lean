/-
  Scripts: the lines of a text, in the model.
-/
import Derived.Test.YthmihmnagnibmaaDoorScrB
import Derived.Deep.AppendLies
import Derived.Laws.OwnMore
import Derived.Deep.OwnRows
namespace Go.Proofs.YthmihmnagnibmaaDoor
open Go.RowKit

/-- The lines that are complete ahead of a place, and where the next begins. -/
def cuts (s : ByteArray) : Nat → List ByteArray × Nat
  | 0 => ([], 0)
  | i + 1 => if by_ s i = 10 then ((cuts s i).1 ++ [s.extract (cuts s i).2 i], i + 1) else cuts s i
/-- The lines of a text. -/
def linesOf (s : ByteArray) : List ByteArray :=
  if (cuts s s.size).2 < s.size then (cuts s s.size).1 ++ [s.extract (cuts s s.size).2 s.size] else (cuts s s.size).1
def strs (l : List ByteArray) : List Value := l.map Value.string

theorem cuts_le (s : ByteArray) : ∀ i, (cuts s i).2 ≤ i ∧ (cuts s i).1.length ≤ i
  | 0 => ⟨Nat.le_refl _, Nat.le_refl _⟩
  | i + 1 => by
    obtain ⟨h1, h2⟩ := cuts_le s i
    show (if by_ s i = 10 then ((cuts s i).1 ++ [s.extract (cuts s i).2 i], i + 1) else cuts s i).2 ≤ i + 1 ∧ (if by_ s i = 10 then ((cuts s i).1 ++ [s.extract (cuts s i).2 i], i + 1) else cuts s i).1.length ≤ i + 1
    split
    · exact ⟨Nat.le_refl _, by simp; omega⟩
    · exact ⟨by omega, by omega⟩
theorem cuts_yes {s : ByteArray} {i : Nat} (h : by_ s i = 10) : cuts s (i + 1) = ((cuts s i).1 ++ [s.extract (cuts s i).2 i], i + 1) := if_pos h
theorem cuts_no {s : ByteArray} {i : Nat} (h : ¬ by_ s i = 10) : cuts s (i + 1) = cuts s i := if_neg h

/-- A list of texts in memory of its own. -/
def Own9 (w : World) (base : Nat) (v : Value) (l : List ByteArray) : Prop := w.ownsRow base 9 1 v l.length (strs l)

theorem Tryd.info9 : (Tryd.prog.info? 9).map (fun i => (i.zero, i.size, i.bytes)) = some (some (.string ByteArray.empty), 1, 16) := by kernel_rfl
theorem info_parts9 {o : Option TypeInfo} {z : Value} {s b : Nat} (h : o.map (fun i => (i.zero, i.size, i.bytes)) = some (some z, s, b)) : ∃ i, o = some i ∧ i.zero = some z ∧ i.size = s ∧ i.bytes = b := by
  obtain ⟨i, hi, hzz⟩ := Option.map_eq_some_iff.1 h
  simp only [Prod.mk.injEq] at hzz
  exact ⟨i, hi, hzz.1, hzz.2.1, hzz.2.2⟩

theorem own_form9 {w : World} {base : Nat} {v : Value} {l : List ByteArray} (h : Own9 w base v l) : ∃ oa cap, v = .slice oa l.length cap := by
  rcases h.2 with ⟨rfl, h0⟩ | ⟨g, cap, _, rfl, _⟩
  · exact ⟨none, 0, by rw [h0]⟩
  · exact ⟨_, cap, rfl⟩

theorem bel1 (w : World) (o : Obj) : Below w.heap.size w (w.alloc o) := (Below.refl _ _).alloc (Nat.le_refl _) _

theorem below_grown {base : Nat} {w W W' : World} {v : Value} {l : List ByteArray} (hbw : base ≤ W.heap.size) (hb : Below base w W) (ho : Own9 W base v l) {o : Obj} (hg : (W.alloc o).grownBy W' v.ownBlock) : Below base w W' := by
  have hs := hg.size
  have hws := hb.size
  refine ⟨hg.os.trans hb.os, hg.tape.trans hb.tape, hg.output.trans hb.output, by simp at hs; omega, fun x hx => ?_⟩
  have hx2 : x < W.heap.size := by omega
  rw [hg.block x (by simp; omega) (fun e => by have := (ho.lt x e.symm).1; omega)]
  rw [Below.heap_alloc _ _ _ hx2, hb.block x hx]

set_option maxRecDepth 100000 in
set_option maxHeartbeats 2000000 in
theorem m_lines (s : ByteArray) (w : World) (hs : s.size ≤ 1048576) :
    Calls Tryd.prog 9 #[.string s] w fun e w' => ∃ v, e = .returned v ∧ Own9 w' w.heap.size v (linesOf s) ∧ Below w.heap.size w w' := by
  obtain ⟨i0, hi0, hz0, hz1, hz2⟩ := info_parts9 Tryd.info9
  have O0 : Hid (Own9 (w.alloc (.cells #[] 9)) w.heap.size (.slice (some ⟨w.heap.size, 0, none⟩) 0 0) []) := World.ownsRow_lit w #[] 0 (Nat.le_refl _) (by unfold maxLen; omega) rfl
  have B0 : Hid (Below w.heap.size w (w.alloc (.cells #[] 9))) := bel1 _ _
  go_enter Tryd.func9, Tryd.ntmps9
  go_wp2
  go_loopw [3, 4, 5] (fun v f i wr => ∃ k fr : Nat, k ≤ s.size ∧ fr ≤ k ∧ i = .int .i64 (k : Int) ∧ f = .int .i64 (fr : Int) ∧ Hid (fr = (cuts s k).2) ∧ Hid (Own9 wr w.heap.size v (cuts s k).1) ∧ Hid (Below w.heap.size w wr)) (fun _ _ i _ => s.size - (intOf i).toNat)
  case atStart => exact ⟨0, 0, Nat.zero_le _, Nat.le_refl _, rfl, rfl, rfl, O0, B0⟩
  case round =>
    obtain ⟨k, fr, hk, hfr, rfl, rfl, HFR, HO, HB⟩ := hrel
    clear O0 B0
    by_cases hlt : k < s.size
    · have hb := by_at s k hlt
      obtain ⟨d, hd⟩ : ∃ d, d = by_ s k := ⟨_, rfl⟩
      rw [← hd] at hb
      have HDD : Hid (d = by_ s k) := hd
      clear hd
      have hw : IntKind.i64.wrap ((k : Int) + 1) = (k : Int) + 1 := by rw [IntKind.wrap_i64]; omega
      by_cases h10 : d = 10
      · obtain ⟨L, hL⟩ : ∃ L, L = (cuts s k).1 := ⟨_, rfl⟩
        have HC : Hid (cuts s (k + 1) = (L ++ [s.extract fr k], k + 1)) := by rw [cuts_yes (HDD.out.symm.trans h10), hL, HFR.out]; rfl
        obtain ⟨oa, cap, hv⟩ := own_form9 HO.out
        obtain ⟨ln, hln⟩ : ∃ ln, ln = L.length := ⟨_, rfl⟩
        have hl1 : ln ≤ k := by rw [hln, hL]; exact (cuts_le s k).2
        rw [← hL, ← hln] at hv
        have HOW : Hid (wr.ownsRow w.heap.size 9 1 (.slice oa ln cap) ln (strs L)) := by
          have := HO.out
          rw [hv] at this
          unfold Own9 at this
          rw [← hL, ← hln] at this
          exact this
        have HLN : Hid (ln = L.length) := hln
        subst hv
        have hws := HB.out.size
        have hml : ln + 1 ≤ maxLen := by unfold maxLen; omega
        have hbb : (ln + 1) * 16 ≤ 140737488355328 := by omega
        have a1 : (fr : Int) ≤ (k : Int) := by omega
        have a2 : (k : Int) ≤ (s.size : Int) := by omega
        have a3 : k ≤ s.size := by omega
        clear hL hln HO
        go_wp2_with (at_builtin; refine wpList_append_lies _ rfl _ _ 30 rfl w.heap.size 9 i0 _ 1 16 Tryd.underlying30 hi0 hz0 hz1 hz2 rfl (by omega) (.slice oa ln cap) ln (strs L) rfl (HOW.out.alloc _) ⟨wr.heap.size, 0, none⟩ 1 1 [.string (s.extract fr k)] rfl rfl (World.news_of_block (cs := #[.string (s.extract fr k)]) (t := 9) (fr := (0, 0)) (heap_alloc_new wr _)) (by simp [Value.oneCell']) (by omega) hml hbb (by simp; omega) (wr.heap.size + 1) (by simp) ?_; intro gg cap3 w3 hown3 hg3 hat hlt3)
        have FIN : Hid (Own9 w3 w.heap.size (.slice (some ⟨gg, 0, none⟩) (ln + 1) cap3) (cuts s (k + 1)).1 ∧ Below w.heap.size w w3) := by
          have e1 : Own9 wr w.heap.size (.slice oa ln cap) L := by unfold Own9; rw [← HLN.out]; exact HOW.out
          refine ⟨?_, below_grown hws HB.out e1 hg3⟩
          unfold Own9
          rw [HC.out]
          show w3.ownsRow w.heap.size 9 1 _ (L ++ [s.extract fr k]).length (strs (L ++ [s.extract fr k]))
          unfold strs
          rw [List.length_append, List.map_append, ← HLN.out]
          exact hown3
        clear hown3 hg3 hat hlt3
        go_wp2
        go_roundw
        case rel => exact ⟨k + 1, k + 1, by omega, Nat.le_refl _, by go_num, by go_num, (congrArg Prod.snd HC.out).symm, FIN.out.1, FIN.out.2⟩
        case measure => simp [intOf]; omega
      · have HC : Hid (cuts s (k + 1) = cuts s k) := cuts_no (fun h => h10 (HDD.out.trans h))
        have h11 : (d == 10) = false := beq_eq_false_iff_ne.2 h10
        go_wp2
        go_roundw
        case rel => exact ⟨k + 1, fr, by omega, by omega, by go_num, rfl, by rw [HC.out]; exact HFR.out, by rw [HC.out]; exact HO.out, HB.out⟩
        case measure => simp [intOf]; omega
    · have e1 : k = s.size := by omega
      subst e1
      by_cases h2 : fr < s.size
      · obtain ⟨L, hL⟩ : ∃ L, L = (cuts s s.size).1 := ⟨_, rfl⟩
        have HC : Hid (linesOf s = L ++ [s.extract fr s.size]) := by show _ = _; unfold linesOf; rw [← HFR.out, if_pos h2, hL]
        obtain ⟨oa, cap, hv⟩ := own_form9 HO.out
        obtain ⟨ln, hln⟩ : ∃ ln, ln = L.length := ⟨_, rfl⟩
        have hl1 : ln ≤ s.size := by rw [hln, hL]; exact (cuts_le s s.size).2
        rw [← hL, ← hln] at hv
        have HOW : Hid (wr.ownsRow w.heap.size 9 1 (.slice oa ln cap) ln (strs L)) := by
          have := HO.out
          rw [hv] at this
          unfold Own9 at this
          rw [← hL, ← hln] at this
          exact this
        have HLN : Hid (ln = L.length) := hln
        subst hv
        have hws := HB.out.size
        have hml : ln + 1 ≤ maxLen := by unfold maxLen; omega
        have hbb : (ln + 1) * 16 ≤ 140737488355328 := by omega
        have a1 : (fr : Int) ≤ (s.size : Int) := by omega
        have a3 : fr ≤ s.size := by omega
        clear hL hln HO
        go_wp2_with (at_builtin; refine wpList_append_lies _ rfl _ _ 30 rfl w.heap.size 9 i0 _ 1 16 Tryd.underlying30 hi0 hz0 hz1 hz2 rfl (by omega) (.slice oa ln cap) ln (strs L) rfl (HOW.out.alloc _) ⟨wr.heap.size, 0, none⟩ 1 1 [.string (s.extract fr s.size)] rfl rfl (World.news_of_block (cs := #[.string (s.extract fr s.size)]) (t := 9) (fr := (0, 0)) (heap_alloc_new wr _)) (by simp [Value.oneCell']) (by omega) hml hbb (by simp; omega) (wr.heap.size + 1) (by simp) ?_; intro gg cap3 w3 hown3 hg3 hat hlt3)
        have FIN : Hid (Own9 w3 w.heap.size (.slice (some ⟨gg, 0, none⟩) (ln + 1) cap3) (linesOf s) ∧ Below w.heap.size w w3) := by
          have e1 : Own9 wr w.heap.size (.slice oa ln cap) L := by unfold Own9; rw [← HLN.out]; exact HOW.out
          refine ⟨?_, below_grown hws HB.out e1 hg3⟩
          unfold Own9 strs
          rw [HC.out, List.length_append, List.map_append, ← HLN.out]
          exact hown3
        clear hown3 hg3 hat hlt3
        go_wp2
        go_ret
        exact ⟨_, rfl, FIN.out.1, FIN.out.2⟩
      · have HC : Hid (linesOf s = (cuts s s.size).1) := by show _ = _; unfold linesOf; rw [← HFR.out, if_neg h2]
        have h2' : ¬ (fr : Int) < (s.size : Int) := by omega
        go_wp2
        go_ret
        exact ⟨_, rfl, by rw [HC.out]; exact HO.out, HB.out⟩

end Go.Proofs.YthmihmnagnibmaaDoor
