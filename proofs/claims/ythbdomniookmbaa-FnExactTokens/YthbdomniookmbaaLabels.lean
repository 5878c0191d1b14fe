/-
  The program's Tokens: from label to label.
-/
import Derived.Test.YthbdomniookmbaaFresh
import Derived.Test.YthbdomniookmbaaJumps
import Derived.Deep.AppendLies
namespace Go.Proofs.Ythbdomniookmbaa
open Go.RowKit

theorem jumps_mono {J J' : Nat → Act → World → Prop} {Q : Exit → Act → World → Prop} (h : ∀ l a w, J l a w → J' l a w) {e : Exit} {a : Act} {w : World} (hj : jumps J Q e a w) : jumps J' Q e a w := by
  cases e <;> first | exact h _ _ _ hj | exact hj

theorem wp_scope_six {P : Program} {a : Act} {w : World} {Q : Exit → Act → World → Prop} {c r0 r1 r2 r3 r4 r5 : Code} (J : Nat → Act → World → Prop) (μ : Nat → Act → World → Nat) (hl : ∀ l a w, J l a w → l < 6)
    (f0 : findLabel c 0 = some (Code.skip.seq r0)) (f1 : findLabel c 1 = some (Code.skip.seq r1)) (f2 : findLabel c 2 = some (Code.skip.seq r2)) (f3 : findLabel c 3 = some (Code.skip.seq r3)) (f4 : findLabel c 4 = some (Code.skip.seq r4)) (f5 : findLabel c 5 = some (Code.skip.seq r5))
    (first : (∀ a w, J 0 a w → r0.wp P (jumps J Q) a w) → c.wp P (jumps J Q) a w)
    (p0 : ∀ a w, J 0 a w → r0.wp P (jumps (fun l' a' w' => J l' a' w' ∧ μ l' a' w' < μ 0 a w) Q) a w)
    (p1 : ∀ a w, J 1 a w → r1.wp P (jumps (fun l' a' w' => J l' a' w' ∧ μ l' a' w' < μ 1 a w) Q) a w)
    (p2 : ∀ a w, J 2 a w → r2.wp P (jumps (fun l' a' w' => J l' a' w' ∧ μ l' a' w' < μ 2 a w) Q) a w)
    (p3 : ∀ a w, J 3 a w → r3.wp P (jumps (fun l' a' w' => J l' a' w' ∧ μ l' a' w' < μ 3 a w) Q) a w)
    (p4 : ∀ a w, J 4 a w → r4.wp P (jumps (fun l' a' w' => J l' a' w' ∧ μ l' a' w' < μ 4 a w) Q) a w)
    (p5 : ∀ a w, J 5 a w → r5.wp P (jumps (fun l' a' w' => J l' a' w' ∧ μ l' a' w' < μ 5 a w) Q) a w) : (Code.scope c).wp P Q a w := by
  refine wp_scope_labels (fun l => Code.skip.seq (match l with | 0 => r0 | 1 => r1 | 2 => r2 | 3 => r3 | 4 => r4 | _ => r5)) J μ (fun l a w h => ?_) (first fun a w h => ?_) (fun l a w h => ?_)
  · have := hl l a w h
    match l, this with
    | 0, _ => exact f0
    | 1, _ => exact f1
    | 2, _ => exact f2
    | 3, _ => exact f3
    | 4, _ => exact f4
    | 5, _ => exact f5
  · intro b k cs
    obtain ⟨e, a1, w1, hq, harr⟩ := p0 a w h b k cs
    exact ⟨e, a1, w1, jumps_mono (fun _ _ _ q => q.1) hq, harr⟩
  · have := hl l a w h
    match l, this with
    | 0, _ => exact wp_seq (wp_skip (p0 a w h))
    | 1, _ => exact wp_seq (wp_skip (p1 a w h))
    | 2, _ => exact wp_seq (wp_skip (p2 a w h))
    | 3, _ => exact wp_seq (wp_skip (p3 a w h))
    | 4, _ => exact wp_seq (wp_skip (p4 a w h))
    | 5, _ => exact wp_seq (wp_skip (p5 a w h))

/-- The cells of tokens. -/
def tcells (l : List TK) : List Value := l.flatMap fun t => [.int .i64 t.cls, .string t.txt, .int .i64 (t.loc : Int)]
theorem tcells_snoc (l : List TK) (t : TK) : tcells (l ++ [t]) = tcells l ++ [.int .i64 t.cls, .string t.txt, .int .i64 (t.loc : Int)] := by simp [tcells]

/-- A list of tokens of the call's own. -/
structure Own (w wr : World) (v : Value) (l : List TK) : Prop where
  own : wr.ownsRow w.heap.size 42 3 v l.length (tcells l)
  below : Below w.heap.size w wr

theorem tks_len {s : ByteArray} {i : Nat} : (tks s i).length ≤ s.size - i := by
  by_cases h : i < s.size
  · have hp := plen_pos s i
    have := tks_len (s := s) (i := i + plen s i)
    cases hb : blk s i
    · rw [tks_tok h hb, List.length_cons]
      have := plen_le h
      omega
    · rw [tks_blk h hb]; omega
  · rw [tks_end h]; exact Nat.zero_le _
termination_by s.size - i
decreasing_by omega

/-- What stands so far, and what is still to come from a place on. -/
def Till (s : ByteArray) (l : List TK) (i : Nat) : Prop := l ++ tks s i = tks s 0
theorem till_start (s : ByteArray) : Till s [] 0 := rfl
theorem till_blk {s : ByteArray} {l : List TK} {i : Nat} (h : Till s l i) (hi : i < s.size) (hb : blk s i = true) : Till s l (i + plen s i) := by
  unfold Till at *; rw [← tks_blk hi hb]; exact h
theorem till_tok {s : ByteArray} {l : List TK} {i : Nat} (h : Till s l i) (hi : i < s.size) (hb : blk s i = false) : Till s (l ++ [⟨cls (ptx s i).toList, ptx s i, i⟩]) (i + plen s i) := by
  unfold Till at *
  rw [tks_tok hi hb] at h
  rw [← h]; simp
theorem till_end {s : ByteArray} {l : List TK} {i : Nat} (h : Till s l i) (hi : ¬ i < s.size) : l = tks s 0 := by
  unfold Till at h
  rw [tks_end hi, List.append_nil] at h; exact h
theorem till_len {s : ByteArray} {l : List TK} {i : Nat} (h : Till s l i) : l.length ≤ s.size := by
  unfold Till at h
  have h1 := congrArg List.length h
  have h2 := tks_len (s := s) (i := 0)
  rw [List.length_append] at h1; omega

/-- The frame of Tokens at a label. -/
def Fr (s : ByteArray) (v x4 : Value) (k : Nat) (a : Act) : Prop := ∃ u : Nat → Value, a = { tmps := #[.string s, u 1, u 2, v, x4, .int .i64 (k : Int), u 6, u 7, u 8, u 9, u 10, u 11, u 12, u 13, u 14, u 15, u 16, u 17, u 18, u 19, u 20, u 21, u 22, u 23, u 24, u 25, u 26, u 27, u 28, u 29, u 30, u 31, u 32, u 33, u 34, u 35, u 36, u 37, u 38, u 39, u 40, u 41, u 42, u 43, u 44, u 45, u 46, u 47, u 48, u 49, u 50, u 51, u 52, u 53, u 54, u 55, u 56, u 57, u 58, u 59, u 60, u 61, u 62, u 63, u 64, u 65, u 66, u 67, u 68, u 69, u 70, u 71, u 72, u 73, u 74, u 75, u 76, u 77, u 78, u 79, u 80, u 81, u 82, u 83, u 84, u 85, u 86, u 87, u 88, u 89, u 90, u 91, u 92, u 93, u 94, u 95, u 96], defers := [] }

theorem list_all (l : List Value) : l = (List.range l.length).map (fun i => l.getD i undef) := by
  apply List.ext_getElem
  · simp
  · intro i h1 h2
    simp [h1]

theorem fr_of {s : ByteArray} {v x4 : Value} {k : Nat} {ar : Array Value} (h : ar.size = 97) (h0 : ar.toList.getD 0 undef = .string s) (h3 : ar.toList.getD 3 undef = v) (h4 : ar.toList.getD 4 undef = x4) (h5 : ar.toList.getD 5 undef = .int .i64 (k : Int)) : Fr s v x4 k { tmps := ar, defers := [] } := by
  obtain ⟨l⟩ := ar
  have hl : l.length = 97 := h
  have ha := list_all l
  rw [hl] at ha
  obtain ⟨u, hu⟩ : ∃ u : Nat → Value, u = fun i => l.getD i undef := ⟨_, rfl⟩
  rw [← hu] at ha
  have e0 : u 0 = .string s := by rw [hu]; exact h0
  have e3 : u 3 = v := by rw [hu]; exact h3
  have e4 : u 4 = x4 := by rw [hu]; exact h4
  have e5 : u 5 = .int .i64 (k : Int) := by rw [hu]; exact h5
  have hf : l = [u 0, u 1, u 2, u 3, u 4, u 5, u 6, u 7, u 8, u 9, u 10, u 11, u 12, u 13, u 14, u 15, u 16, u 17, u 18, u 19, u 20, u 21, u 22, u 23, u 24, u 25, u 26, u 27, u 28, u 29, u 30, u 31, u 32, u 33, u 34, u 35, u 36, u 37, u 38, u 39, u 40, u 41, u 42, u 43, u 44, u 45, u 46, u 47, u 48, u 49, u 50, u 51, u 52, u 53, u 54, u 55, u 56, u 57, u 58, u 59, u 60, u 61, u 62, u 63, u 64, u 65, u 66, u 67, u 68, u 69, u 70, u 71, u 72, u 73, u 74, u 75, u 76, u 77, u 78, u 79, u 80, u 81, u 82, u 83, u 84, u 85, u 86, u 87, u 88, u 89, u 90, u 91, u 92, u 93, u 94, u 95, u 96] := ha
  rw [e0, e3, e4, e5] at hf
  exact ⟨u, by rw [hf]⟩

/-- The piece that is being read. -/
def Rd (p : Int → Bool) (s : ByteArray) (f k : Nat) : Prop := f < s.size ∧ f + 1 ≤ k ∧ k ≤ s.size ∧ k + run p s k = f + 1 + run p s (f + 1)

/-- What holds at the labels. -/
def Lab (s : ByteArray) (w : World) (l : Nat) (a : Act) (wr : World) : Prop :=
  ∃ (v x4 : Value) (k : Nat) (d : List TK), Fr s v x4 k a ∧ Own w wr v d ∧ k ≤ s.size ∧
    ((l = 0 ∧ Till s d k) ∨
     (∃ f : Nat, x4 = .int .i64 (f : Int) ∧ f < s.size ∧ Till s d f ∧
       ((l = 1 ∧ bt s f = 35 ∧ Rd nn s f k) ∨ (l = 2 ∧ sl (bt s f) = true ∧ Rd wb s f k) ∨ (l = 3 ∧ dg (bt s f) = true ∧ Rd dg s f k) ∨ (l = 4 ∧ bt s f = 45 ∧ k = f + 1) ∨
        (l = 5 ∧ blk s f = false ∧ k = f + plen s f))))

/-- How far it still is. -/
def far (s : ByteArray) (l : Nat) (a : Act) (_ : World) : Nat := 3 * (s.size - (intOf (a.tmps.getD 5 undef)).toNat) + (if l = 0 then 0 else if l = 1 ∨ l = 5 then 1 else 2)

theorem lab_lt {s : ByteArray} {w : World} {l : Nat} {a : Act} {wr : World} (h : Lab s w l a wr) : l < 6 := by
  obtain ⟨v, x4, k, d, _, _, _, h⟩ := h
  rcases h with ⟨h, _⟩ | ⟨f, _, _, _, h⟩
  · omega
  · rcases h with ⟨h, _⟩ | ⟨h, _⟩ | ⟨h, _⟩ | ⟨h, _⟩ | ⟨h, _⟩ <;> omega

end Go.Proofs.Ythbdomniookmbaa
