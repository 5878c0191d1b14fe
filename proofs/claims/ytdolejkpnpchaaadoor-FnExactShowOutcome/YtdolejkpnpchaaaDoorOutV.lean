/-
  Outcomes: the contracts of the functions that copy: answers.
-/
import Derived.Test.YtdolejkpnpchaaaDoorOutU
namespace Go.Proofs.YtdolejkpnpchaaaDoor
open Go.RowKit

theorem five_at {w : World} {B : Nat} {t : TypeId} {a b c d e : Value} (h : w.rowIs B t 5 (t5 a b c d e)) :
    (w.cell? ⟨B, 0, none⟩ = some a ∧ w.cell? ⟨B, 1, none⟩ = some b ∧ w.cell? ⟨B, 2, none⟩ = some c ∧ w.cell? ⟨B, 3, none⟩ = some d ∧ w.cell? ⟨B, 4, none⟩ = some e) ∧ (w.frozen? ⟨B, 0, none⟩ = false ∧ w.frozen? ⟨B, 1, none⟩ = false ∧ w.frozen? ⟨B, 2, none⟩ = false ∧ w.frozen? ⟨B, 3, none⟩ = false ∧ w.frozen? ⟨B, 4, none⟩ = false) :=
  ⟨⟨h.cell (i := 0) (by omega), h.cell (i := 1) (by omega), h.cell (i := 2) (by omega), h.cell (i := 3) (by omega), h.cell (i := 4) (by omega)⟩, ⟨h.frozen _, h.frozen _, h.frozen _, h.frozen _, h.frozen _⟩⟩

set_option maxHeartbeats 4000000 in
theorem t_answer (call : Int) (nm : ByteArray) (rv : Int) (fl : Bool) (od : Option Addr) (gd o nd cd : Nat) (dg : Nat → Int × Int) (w : World) (hn : nd ≤ 1048576) (dh : 0 < nd → od = some ⟨gd, o, none⟩) (d0 : ∀ j, j < nd → w.cell? ⟨gd, o + j * 2, none⟩ = some (.int .i64 (dg j).1)) (d1 : ∀ j, j < nd → w.cell? ⟨gd, o + j * 2 + 1, none⟩ = some (.int .i64 (dg j).2)) :
    Calls Tryd.prog 31 #[.agg #[.int .i64 call, .string nm, .int .i64 rv, .bool fl, .slice od nd cd]] w fun e w' => ∃ g, e = .returned (.agg #[.int .i64 call, .string nm, .int .i64 rv, .bool fl, .slice (some ⟨g, 0, none⟩) nd nd]) ∧ (∀ j, j < nd → w'.cell? ⟨g, j * 2, none⟩ = some (.int .i64 (dg j).1) ∧ w'.cell? ⟨g, j * 2 + 1, none⟩ = some (.int .i64 (dg j).2)) ∧ Below w.heap.size w w' ∧ w.heap.size ≤ g ∧ g < w'.heap.size := by
  have HB : Hid (∀ w', Below w.heap.size w w' → ∀ j, j < nd → w'.cell? ⟨gd, o + j * 2, none⟩ = some (.int .i64 (dg j).1) ∧ w'.cell? ⟨gd, o + j * 2 + 1, none⟩ = some (.int .i64 (dg j).2)) := fun w' hb j hj => ⟨cell_kept (d0 j hj) hb, cell_kept (d1 j hj) hb⟩
  clear d0 d1
  go_enter Tryd.func31, Tryd.ntmps31
  go_wp2_with fail
  have BY := bel3 w (.cells #[.int .i64 call, .string nm, .int .i64 rv, .bool fl, .slice od nd cd] 75) (.cells #[.int .i64 0, .string ⟨#[]⟩, .int .i64 0, .bool false, .slice none 0 0] 47) (.cells #[.int .i64 call, .string nm, .int .i64 rv, .bool fl, .slice none 0 0] 47)
  have R2 := (rowt5 (w.alloc (.cells #[.int .i64 call, .string nm, .int .i64 rv, .bool fl, .slice od nd cd] 75)) (.int .i64 0) (.string ⟨#[]⟩) (.int .i64 0) (.bool false) (.slice none 0 0) 47).alloc (.cells #[.int .i64 call, .string nm, .int .i64 rv, .bool fl, .slice none 0 0] 47)
  have R3 := rowt5 ((w.alloc (.cells #[.int .i64 call, .string nm, .int .i64 rv, .bool fl, .slice od nd cd] 75)).alloc (.cells #[.int .i64 0, .string ⟨#[]⟩, .int .i64 0, .bool false, .slice none 0 0] 47)) (.int .i64 call) (.string nm) (.int .i64 rv) (.bool fl) (.slice none 0 0) 47
  refine (t_diags od gd o nd cd dg _ hn dh (fun j hj => (HB.out _ BY j hj).1) (fun j hj => (HB.out _ BY j hj).2)).mono ?_
  rintro e w2 ⟨rfl, D2, hb2, hz2⟩
  have B2 := BY.trans (hb2.mono (by simp; omega))
  have S2 := R2.of_block (hb2.block _ (by simp))
  have S3 := R3.of_block (hb2.block _ (by simp))
  simp only [World.size_alloc] at S2 S3 D2 hz2
  obtain ⟨⟨m0, m1, m2, m3, m4⟩, ⟨l0, l1, l2, l3, l4⟩⟩ := five_at S2
  obtain ⟨⟨y0, y1, y2, y3, y4⟩, ⟨z0, z1, z2, z3, z4⟩⟩ := five_at S3
  have HK : Hid ((∀ j, j < nd → w2.cell? ⟨w.heap.size + 1 + 1 + 1, j * 2, none⟩ = some (.int .i64 (dg j).1) ∧ w2.cell? ⟨w.heap.size + 1 + 1 + 1, j * 2 + 1, none⟩ = some (.int .i64 (dg j).2)) ∧ Below w.heap.size w w2 ∧ w.heap.size + 1 + 1 + 1 < w2.heap.size) := ⟨D2, B2, hz2⟩
  clear BY R2 R3 S2 S3 D2 B2 hb2 hz2 HB
  simp only [World.size_alloc]
  go_wp2_with fail
  refine bodyPost_ret (v := .agg #[.int .i64 call, .string nm, .int .i64 rv, .bool fl, .slice (some ⟨w.heap.size + 1 + 1 + 1, 0, none⟩) nd nd]) (by simp [results, Tryd.results31, go_sem, m0, m1, m2, m3, m4]) rfl ⟨w.heap.size + 1 + 1 + 1, rfl, fun j hj => ?_, ?_, by omega, ?_⟩
  · obtain ⟨k0, k1⟩ := HK.out.1 j hj
    constructor
    · repeat rw [World.cell?_setCell_other _ _ _ _ (by simp)]
      exact k0
    · repeat rw [World.cell?_setCell_other _ _ _ _ (by simp)]
      exact k1
  · repeat' (first | with_reducible exact HK.out.2.1 | refine Below.setCell ?_ ?_ _)
    all_goals (simp; try omega)
  · simp only [World.size_setCell]
    exact HK.out.2.2

theorem put5_cell {w : World} {g o : Nat} {a b c d e : Value} {x : Addr} (h : x.block ≠ g) : (put5 w g o a b c d e).cell? x = w.cell? x := by
  unfold put5
  iterate 5 rw [World.cell?_setCell_other _ _ _ _ (fun e => h (by have := congrArg Addr.block e; first | exact this | exact this.symm))]
/-- The findings of the first k answers, in their new blocks. -/
def DgsAt (w wr : World) (A : Nat → AD) (k : Nat) (q : Nat → Nat) : Prop :=
  ∀ i, i < k → w.heap.size < q i ∧ q i < wr.heap.size ∧ ∀ j, j < (A i).nd → wr.cell? ⟨q i, j * 2, none⟩ = some (.int .i64 ((A i).dg j).1) ∧ wr.cell? ⟨q i, j * 2 + 1, none⟩ = some (.int .i64 ((A i).dg j).2)
def entA (A : Nat → AD) (q : Nat → Nat) (i : Nat) : Nat → Value := ent5 (.int .i64 (A i).call) (.string (A i).name) (.int .i64 (A i).rev) (.bool (A i).full) (.slice (some ⟨q i, 0, none⟩) (A i).nd (A i).nd)
structure FilA (w wr : World) (n k : Nat) (A : Nat → AD) (q : Nat → Nat) : Prop where
  fil : Fil5 w wr n k (entA A q)
  dgs : DgsAt w wr A k q
theorem filA_step {w wr w' : World} {n k g : Nat} {A : Nat → AD} {q : Nat → Nat} (h : FilA w wr n k A q) (hb : Below wr.heap.size wr w') (hg : wr.heap.size ≤ g) (hg2 : g < w'.heap.size) (hd : ∀ j, j < (A k).nd → w'.cell? ⟨g, j * 2, none⟩ = some (.int .i64 ((A k).dg j).1) ∧ w'.cell? ⟨g, j * 2 + 1, none⟩ = some (.int .i64 ((A k).dg j).2)) :
    FilA w (put5 w' w.heap.size (k * 5) (.int .i64 (A k).call) (.string (A k).name) (.int .i64 (A k).rev) (.bool (A k).full) (.slice (some ⟨g, 0, none⟩) (A k).nd (A k).nd)) n (k + 1) A (fun i => if i = k then g else q i) := by
  have hlt : w.heap.size < wr.heap.size := by obtain ⟨f, hf, _⟩ := h.fil.row; exact hf.lt
  have hsz : (put5 w' w.heap.size (k * 5) (.int .i64 (A k).call) (.string (A k).name) (.int .i64 (A k).rev) (.bool (A k).full) (.slice (some ⟨g, 0, none⟩) (A k).nd (A k).nd)).heap.size = w'.heap.size := by
    unfold put5; simp only [World.size_setCell]
  have hbs := hb.size
  refine ⟨fil5_step h.fil hb _ (fun i j hi => ?_) _ _ _ _ _ (fun j hj => ?_), fun i hi => ?_⟩
  · show ent5 _ _ _ _ (.slice (some ⟨if i = k then g else q i, 0, none⟩) _ _) j = _
    rw [if_neg (by omega)]; rfl
  · show ent5 _ _ _ _ (.slice (some ⟨if k = k then g else q k, 0, none⟩) _ _) j = _
    rw [if_pos rfl]
  · rw [hsz]
    by_cases e : i = k
    · subst e
      simp only [if_true]
      refine ⟨by omega, hg2, fun j hj => ?_⟩
      rw [put5_cell (by show g ≠ w.heap.size; omega), put5_cell (by show g ≠ w.heap.size; omega)]
      exact hd j hj
    · obtain ⟨a1, a2, a3⟩ := h.dgs i (by omega)
      simp only [if_neg e]
      refine ⟨a1, by omega, fun j hj => ?_⟩
      rw [put5_cell (by show q i ≠ w.heap.size; omega), put5_cell (by show q i ≠ w.heap.size; omega), hb.cell (p := ⟨q i, j * 2, none⟩) a2, hb.cell (p := ⟨q i, j * 2 + 1, none⟩) a2]
      exact a3 j hj
/-- Where the copied answers' findings lie. -/
def newP (A : Nat → AD) (q : Nat → Nat) (i : Nat) : Option Addr × Nat × Nat := (some ⟨q i, 0, none⟩, q i, (A i).nd)
theorem filA_end {w wr : World} {n : Nat} {A : Nat → AD} {q : Nat → Nat} (h : FilA w wr n n A q) : AnsAt wr (some ⟨w.heap.size, 0, none⟩) w.heap.size n A (newP A q) := by
  obtain ⟨f, hf, hv⟩ := h.fil.row
  refine ⟨fun _ => rfl, fun j hj => ?_, fun j hj => ?_, fun j hj => ?_, fun j hj => ?_, fun j hj => ?_, fun i hi _ => rfl, fun i hi j hj => ((h.dgs i hi).2.2 j hj).1, fun i hi j hj => ((h.dgs i hi).2.2 j hj).2⟩
  · have := hv j 0 hj (by omega)
    rw [hf.cell (by omega)]; exact congrArg some this
  · rw [hf.cell (by omega)]; exact congrArg some (hv j 1 hj (by omega))
  · rw [hf.cell (by omega)]; exact congrArg some (hv j 2 hj (by omega))
  · rw [hf.cell (by omega)]; exact congrArg some (hv j 3 hj (by omega))
  · rw [hf.cell (by omega)]; exact congrArg some (hv j 4 hj (by omega))

set_option maxHeartbeats 4000000 in
theorem t_answers (oa : Option Addr) (ga o n c : Nat) (A : Nat → AD) (P : Nat → DP) (w : World) (hn : n ≤ 1048576) (hd : ∀ i, i < n → (A i).nd ≤ 1048576) (h1 : AnsO w oa ga o n A P) :
    Calls Tryd.prog 15 #[.slice oa n c] w fun e w' => ∃ q, e = .returned (.slice (some ⟨w.heap.size, 0, none⟩) n n) ∧ AnsAt w' (some ⟨w.heap.size, 0, none⟩) w.heap.size n A (newP A q) ∧ Below w.heap.size w w' ∧ w.heap.size < w'.heap.size ∧ ∀ i, i < n → w.heap.size < q i := by
  have hmk := makeF5 n hn
  have HB : Hid (∀ w', Below w.heap.size w w' → AnsO w' oa ga o n A P) := fun w' hb => h1.below hb
  have A1 := h1.here
  have HN : Hid (∀ i, i < n → (A i).nd ≤ 1048576) := hd
  clear h1 hd
  go_enter Tryd.func15, Tryd.ntmps15
  go_wp2
  clear hmk
  go_loopw [4] (fun i wr => ∃ (k : Nat) (q : Nat → Nat), k ≤ n ∧ i = .int .i64 k ∧ FilA w wr n k A q) (fun i _ => n - (intOf i).toNat)
  case atStart => exact ⟨0, fun _ => 0, Nat.zero_le _, rfl, fil5_start _ _ _, fun i hi => absurd hi (Nat.not_lt_zero _)⟩
  case round =>
    obtain ⟨k, q, hk, rfl, hF⟩ := hrel
    by_cases hlt : k < n
    · have e1 := A1 (by omega)
      have q1 := HB.out wr hF.fil.below
      have g0 := q1.c0 k hlt
      have g1 := q1.c1 k hlt
      have g2 := q1.c2 k hlt
      have g3 := q1.c3 k hlt
      have g4 := q1.c4 k hlt
      have dh := q1.dh k hlt
      have dd0 := q1.d0 k hlt
      have dd1 := q1.d1 k hlt
      have hnd := HN.out k hlt
      have CA := hid_of (t_answer (A k).call (A k).name (A k).rev (A k).full (P k).a (P k).b (P k).o (A k).nd (P k).c (A k).dg wr hnd dh dd0 dd1)
      clear q1 HB dh dd0 dd1
      subst e1
      go_wp2_with fail
      refine CA.out.mono ?_
      rintro e w' ⟨g, rfl, hd, hb', hg1, hg2⟩
      obtain ⟨f, hf, hv⟩ := hF.fil.row
      have hr := hf.of_block (hb'.block _ hf.lt)
      obtain ⟨⟨s0, s1, s2, s3, s4⟩, ⟨t0, t1, t2, t3, t4'⟩⟩ := ats5 hr (k * 5) (by omega)
      have HN' := filA_step hF hb' hg1 hg2 hd
      unfold put5 at HN'
      have HH := hid_of HN'
      clear hF hr hf hv hb' HN' g0 g1 g2 g3 g4 hd hg1 hg2 CA
      go_wp2
      go_roundw
      case rel => exact ⟨k + 1, _, by omega, by go_num, HH.out⟩
      case measure => simp [intOf]; omega
    · have hkn : k = n := by omega
      subst hkn
      have HE : Hid (AnsAt wr (some ⟨w.heap.size, 0, none⟩) w.heap.size k A (newP A q) ∧ Below w.heap.size w wr ∧ w.heap.size < wr.heap.size ∧ ∀ i, i < k → w.heap.size < q i) := by
        obtain ⟨f, hf, hv⟩ := hF.fil.row
        exact ⟨filA_end hF, hF.fil.below, hf.lt, fun i hi => (hF.dgs i hi).1⟩
      clear hF HB A1
      go_wp2
      go_ret
      exact ⟨q, rfl, HE.out⟩
end Go.Proofs.YtdolejkpnpchaaaDoor
