/-
  The program's Tokens, walked.
-/
import Derived.Test.YthbdomniookmbaaLabels
namespace Go.Proofs.Ythbdomniookmbaa
open Go.RowKit

theorem lab0 {s : ByteArray} {d : List TK} {k : Nat} {x4 : Value} {l : Nat} (hl : l = 0) (h : (l = 0 ∧ Till s d k) ∨
     (∃ f : Nat, x4 = .int .i64 (f : Int) ∧ f < s.size ∧ Till s d f ∧
       ((l = 1 ∧ bt s f = 35 ∧ Rd nn s f k) ∨ (l = 2 ∧ sl (bt s f) = true ∧ Rd wb s f k) ∨ (l = 3 ∧ dg (bt s f) = true ∧ Rd dg s f k) ∨ (l = 4 ∧ bt s f = 45 ∧ k = f + 1) ∨
        (l = 5 ∧ blk s f = false ∧ k = f + plen s f)))) : Till s d k := by
  rcases h with ⟨_, h⟩ | ⟨f, _, _, _, h⟩
  · exact h
  · rcases h with ⟨h, _⟩ | ⟨h, _⟩ | ⟨h, _⟩ | ⟨h, _⟩ | ⟨h, _⟩ <;> omega

theorem rd_start {p : Int → Bool} {s : ByteArray} {f : Nat} (h : f < s.size) : Rd p s f (f + 1) := ⟨h, Nat.le_refl _, by omega, rfl⟩
theorem rd_step {p : Int → Bool} {s : ByteArray} {f k : Nat} (h : Rd p s f k) (hk : k < s.size) (hp : p (bt s k) = true) : Rd p s f (k + 1) := by
  obtain ⟨h1, h2, h3, h4⟩ := h
  rw [run_step hk hp] at h4
  exact ⟨h1, by omega, by omega, by omega⟩
theorem rd_stop {p : Int → Bool} {s : ByteArray} {f k : Nat} (h : Rd p s f k) (hk : k < s.size → p (bt s k) = false) : k = f + 1 + run p s (f + 1) := by
  obtain ⟨h1, h2, h3, h4⟩ := h
  by_cases q : k < s.size
  · rw [run_stop q (hk q)] at h4; omega
  · rw [run_end q] at h4; omega

theorem at_space {s : ByteArray} {i : Nat} (h : bt s i = 32 ∨ bt s i = 10) : plen s i = 1 ∧ blk s i = true := by
  unfold plen blk
  rw [if_pos h]
  exact ⟨rfl, decide_eq_true (by omega)⟩
theorem at_hash {s : ByteArray} {i : Nat} (h : bt s i = 35) : plen s i = 1 + run nn s (i + 1) ∧ blk s i = true := by
  unfold plen blk
  rw [if_neg (by omega), if_pos h]
  exact ⟨rfl, decide_eq_true (by omega)⟩
theorem sl_range {c : Int} : sl c = true ↔ 97 ≤ c ∧ c ≤ 122 := by simp [sl]
theorem dg_range {c : Int} : dg c = true ↔ 48 ≤ c ∧ c ≤ 57 := by simp [dg]
theorem sl_not {c : Int} : sl c = false ↔ ¬ (97 ≤ c ∧ c ≤ 122) := by simp only [sl, decide_eq_false_iff_not]
theorem dg_not {c : Int} : dg c = false ↔ ¬ (48 ≤ c ∧ c ≤ 57) := by simp only [dg, decide_eq_false_iff_not]
theorem at_word {s : ByteArray} {i : Nat} (h : sl (bt s i) = true) : plen s i = 1 + run wb s (i + 1) ∧ blk s i = false := by
  have h' := sl_range.1 h
  unfold plen blk
  rw [if_neg (by omega), if_neg (by omega), if_pos h]
  exact ⟨rfl, decide_eq_false (by omega)⟩
theorem at_num {s : ByteArray} {i : Nat} (h : dg (bt s i) = true) : plen s i = 1 + run dg s (i + 1) ∧ blk s i = false := by
  have h' := dg_range.1 h
  have h2 : sl (bt s i) = false := sl_not.2 (by omega)
  unfold plen blk
  rw [if_neg (by omega), if_neg (by omega), h2, if_neg (by decide), if_pos h]
  exact ⟨rfl, decide_eq_false (by omega)⟩
theorem at_minus {s : ByteArray} {i : Nat} (h : bt s i = 45) : plen s i = (if bt s (i + 1) = 62 then 2 else 1) ∧ blk s i = false := by
  have h2 : sl (bt s i) = false := sl_not.2 (by omega)
  have h3 : dg (bt s i) = false := dg_not.2 (by omega)
  unfold plen blk
  rw [if_neg (by omega), if_neg (by omega), h2, if_neg (by decide), h3, if_neg (by decide)]
  refine ⟨?_, decide_eq_false (by omega)⟩
  by_cases q : bt s (i + 1) = 62
  · rw [if_pos ⟨h, q⟩, if_pos q]
  · rw [if_neg (fun c => q c.2), if_neg q]
theorem at_one {s : ByteArray} {i : Nat} (h0 : bt s i ≠ 32) (h1 : bt s i ≠ 10) (h2 : bt s i ≠ 35) (h3 : sl (bt s i) = false) (h4 : dg (bt s i) = false) (h5 : bt s i ≠ 45) : plen s i = 1 ∧ blk s i = false := by
  unfold plen blk
  rw [if_neg (by omega), if_neg h2, h3, if_neg (by decide), h4, if_neg (by decide), if_neg (fun c => h5 c.1)]
  exact ⟨rfl, decide_eq_false (by omega)⟩

/-- A token's first byte is no sign, or it is all of it. -/
theorem ptx_first {s : ByteArray} {i : Nat} (h : i < s.size) (hb : blk s i = false) (hp : 0 < (ptx s i).size) : (ptx s i).size = 1 ∨ sg (((ptx s i)[0]'hp).toNat : Int) = false := by
  have hh := ptx_head h
  rw [ByteArray.toList_eq, head_at _ hp] at hh
  rw [hh, ptx_size h]
  cases h1 : sl (bt s i)
  · cases h2 : dg (bt s i)
    · by_cases h3 : bt s i = 45
      · right
        rw [h3]; decide
      · left
        have hb' : ¬ (bt s i = 32 ∨ bt s i = 10 ∨ bt s i = 35) := by simpa [blk] using hb
        exact (at_one (by omega) (by omega) (by omega) h1 h2 h3).1
    · right
      have := dg_range.1 h2
      simp only [sg, decide_eq_false_iff_not]; omega
  · right
    have := sl_range.1 h1
    simp only [sg, decide_eq_false_iff_not]; omega

theorem own_form {w : World} {base : Nat} {e : TypeId} {size : Nat} {v : Value} {n : Nat} {xs : List Value} (h : w.ownsRow base e size v n xs) : ∃ oa cap, v = .slice oa n cap := by
  rcases h.2 with ⟨rfl, rfl⟩ | ⟨g, cap, _, rfl, _⟩
  · exact ⟨none, 0, rfl⟩
  · exact ⟨_, cap, rfl⟩

theorem Try.info42 : (Try.prog.info? 42).map (fun i => (i.zero, i.size, i.bytes)) = some (some (.agg #[.int .i64 0, .string ByteArray.empty, .int .i64 0]), 3, 32) := by kernel_rfl

/-- One token more. -/
theorem own_grow {w wr w2 w3 : World} {oa : Option Addr} {cap gg cap3 : Nat} {d : List TK} {tk : TK} {o2 : Obj} (h : Own w wr (.slice oa d.length cap) d) (hb : Below wr.heap.size wr w2)
    (hown3 : w3.ownsRow w.heap.size 42 3 (.slice (some ⟨gg, 0, none⟩) (d.length + 1) cap3) (d.length + 1) (tcells d ++ [.int .i64 tk.cls, .string tk.txt, .int .i64 (tk.loc : Int)]))
    (hg3 : (w2.alloc o2).grownBy w3 (Value.slice oa d.length cap).ownBlock) : Own w w3 (.slice (some ⟨gg, 0, none⟩) (d.length + 1) cap3) (d ++ [tk]) := by
  have hb2 : Below w.heap.size w (w2.alloc o2) := (h.below.trans (hb.mono h.below.size)).alloc (Nat.le_trans h.below.size hb.size) _
  refine ⟨?_, ⟨hg3.os.trans hb2.os, hg3.tape.trans hb2.tape, hg3.output.trans hb2.output, Nat.le_trans hb2.size hg3.size, fun k hk => ?_⟩⟩
  · rw [tcells_snoc, List.length_append]; exact hown3
  · rw [hg3.block k (Nat.lt_of_lt_of_le hk hb2.size) (fun e => by have := (h.own.lt k e.symm).1; omega)]
    exact hb2.block k hk

theorem cells_three (w : World) (x y z : Value) (t : TypeId) : ∀ j u, [x, y, z][j]? = some u → (w.alloc (.cells #[x, y, z] t)).cell? ((⟨w.heap.size, 0, none⟩ : Addr).add j) = some u := by
  intro j u hj
  match j, hj with
  | 0, hj =>
    simp at hj; subst hj
    simp [Addr.add]
  | 1, hj =>
    simp at hj; subst hj
    simp [Addr.add]
  | 2, hj =>
    simp at hj; subst hj
    simp [Addr.add]

theorem tk_one (tk : TK) : ∀ u ∈ [Value.int .i64 tk.cls, .string tk.txt, .int .i64 (tk.loc : Int)], u.oneCell' = true := by
  intro u hu
  simp only [List.mem_cons, List.not_mem_nil, or_false] at hu
  rcases hu with rfl | rfl | rfl <;> rfl

theorem own_block {w w' : World} {base : Nat} {e : TypeId} {size : Nat} {v : Value} {n : Nat} {xs : List Value} (h : w.ownsRow base e size v n xs) (hb : ∀ k, some k = v.ownBlock → w'.heap[k]? = w.heap[k]?) : w'.ownsRow base e size v n xs := by
  obtain ⟨h1, h2⟩ := h
  refine ⟨h1, ?_⟩
  rcases h2 with h2 | ⟨g, cap, cur, hv, hb', hh, r⟩
  · exact Or.inl h2
  · exact Or.inr ⟨g, cap, cur, hv, hb', (hb g (by rw [hv]; rfl)).trans hh, r⟩

theorem own_below {w wr w2 : World} {v : Value} {d : List TK} (h : Own w wr v d) (hb : Below wr.heap.size wr w2) : Own w w2 v d :=
  ⟨own_block h.own (fun k e => hb.block k (h.own.lt k e.symm).2), h.below.trans (hb.mono h.below.size)⟩

set_option maxRecDepth 100000 in
set_option maxHeartbeats 8000000 in
theorem c6 (s : ByteArray) (m : Int) (w : World) (_hs : s.size ≤ 9223372036854775807) (hm : w.cell? ⟨0, 0, none⟩ = some (.int .i64 m)) :
    Calls Try.prog 6 #[.string s] w fun e w' => ∃ v, e = .returned v ∧ Own w w' v (toks s) := by
  by_cases h1 : s.size ≤ 1000
  case neg =>
    have HT : Hid (toks s = []) := by show _ = _; unfold toks; rw [if_neg h1]
    go_enter Try.func6, Try.ntmps6
    go_wp2
    apply wp_scope_straight
    go_wp2
    rw [Exit.noGoto_ret]
    go_ret
    exact ⟨_, rfl, by rw [HT.out]; exact ⟨World.ownsRow_nil _ _ _ _, Below.refl _ _⟩⟩
  have HT : Hid (toks s = tks s 0) := by show _ = _; unfold toks; rw [if_pos h1]
  have HM : Hid (∀ w', Below w.heap.size w w' → w'.cell? ⟨0, 0, none⟩ = some (.int .i64 m)) := fun w' hb => max_below hm hb
  clear hm
  go_enter Try.func6, Try.ntmps6
  go_wp2
  refine wp_scope_six (Lab s w) (far s) (fun l a w' => lab_lt) rfl rfl rfl rfl rfl rfl ?first ?p0 ?p1 ?p2 ?p3 ?p4 ?p5
  case first =>
    intro P0
    go_wp2
    go_step3
    rename_i ha
    exact ha _ _ (P0 _ _ ⟨_, _, 0, [], fr_of rfl rfl rfl rfl rfl, ⟨World.ownsRow_nil _ _ _ _, Below.refl _ _⟩, Nat.zero_le _, Or.inl ⟨rfl, till_start s⟩⟩)
  case p0 =>
    rintro a wr ⟨v, x4, k, d, ⟨u, rfl⟩, hO, hk, hl⟩
    have hT : Hid (Till s d k) := lab0 rfl hl
    have HO : Hid (Own w wr v d) := hO
    clear hl hO
    by_cases hlt : k < s.size
    case neg =>
      have hb : ((k : Int) == (s.size : Int)) = true := by rw [beq_iff_eq]; omega
      have HE : Hid (toks s = d) := by show _ = _; rw [HT.out]; exact (till_end hT.out hlt).symm
      go_wp2
      simp only [jumps]
      go_ret
      exact ⟨_, rfl, by rw [HE.out]; exact HO.out⟩
    have hb : ((k : Int) == (s.size : Int)) = false := beq_eq_false_iff_ne.2 (by omega)
    have HB : Hid (bt s k = (s[k].toNat : Int)) := bt_in hlt
    by_cases c0 : (s[k].toNat : Int) = 32
    · have b0 : ((s[k].toNat : Int) == 32) = true := beq_iff_eq.2 c0
      have HP : Hid (plen s k = 1 ∧ blk s k = true) := at_space (Or.inl (by rw [HB.out, c0]))
      clear c0
      go_wp2
      go_step3
      exact ⟨⟨_, _, k + 1, d, fr_of rfl rfl rfl rfl rfl, HO.out, by omega, Or.inl ⟨rfl, by have := till_blk hT.out hlt HP.out.2; rw [HP.out.1] at this; exact this⟩⟩, by simp [far, intOf]; omega⟩
    have b0 : ((s[k].toNat : Int) == 32) = false := beq_eq_false_iff_ne.2 c0
    by_cases c1 : (s[k].toNat : Int) = 10
    · have b1 : ((s[k].toNat : Int) == 10) = true := beq_iff_eq.2 c1
      have HP : Hid (plen s k = 1 ∧ blk s k = true) := at_space (Or.inr (by rw [HB.out, c1]))
      clear c0 c1
      go_wp2
      go_step3
      exact ⟨⟨_, _, k + 1, d, fr_of rfl rfl rfl rfl rfl, HO.out, by omega, Or.inl ⟨rfl, by have := till_blk hT.out hlt HP.out.2; rw [HP.out.1] at this; exact this⟩⟩, by simp [far, intOf]; omega⟩
    have b1 : ((s[k].toNat : Int) == 10) = false := beq_eq_false_iff_ne.2 c1
    by_cases c2 : (s[k].toNat : Int) = 35
    · have b2 : ((s[k].toNat : Int) == 35) = true := beq_iff_eq.2 c2
      have HP : Hid (bt s k = 35) := by show _ = _; rw [HB.out, c2]
      clear c0 c1 c2
      go_wp2
      go_step3
      exact ⟨⟨_, _, k + 1, d, fr_of rfl rfl rfl rfl rfl, HO.out, by omega, Or.inr ⟨k, rfl, hlt, hT.out, Or.inl ⟨rfl, HP.out, rd_start hlt⟩⟩⟩, by simp [far, intOf]; omega⟩
    have b2 : ((s[k].toNat : Int) == 35) = false := beq_eq_false_iff_ne.2 c2
    cases c3 : sl (s[k].toNat : Int)
    case true =>
      have HP : Hid (sl (bt s k) = true) := by show _ = _; rw [HB.out, c3]
      clear c0 c1 c2
      go_wp2_with (go_at_call 18; refine (c18 _ _).mono ?_; rintro e w' ⟨rfl, rfl⟩)
      go_step3
      exact ⟨⟨_, _, k + 1, d, fr_of rfl rfl rfl rfl rfl, HO.out, by omega, Or.inr ⟨k, rfl, hlt, hT.out, Or.inr (Or.inl ⟨rfl, HP.out, rd_start hlt⟩)⟩⟩, by simp [far, intOf]; omega⟩
    cases c4 : dg (s[k].toNat : Int)
    case true =>
      have HP : Hid (dg (bt s k) = true) := by show _ = _; rw [HB.out, c4]
      clear c0 c1 c2
      go_wp2_with (first | (go_at_call 18; refine (c18 _ _).mono ?_; rintro e w' ⟨rfl, rfl⟩) | (go_at_call 19; refine (c19 _ _).mono ?_; rintro e w' ⟨rfl, rfl⟩))
      go_step3
      exact ⟨⟨_, _, k + 1, d, fr_of rfl rfl rfl rfl rfl, HO.out, by omega, Or.inr ⟨k, rfl, hlt, hT.out, Or.inr (Or.inr (Or.inl ⟨rfl, HP.out, rd_start hlt⟩))⟩⟩, by simp [far, intOf]; omega⟩
    by_cases c5 : (s[k].toNat : Int) = 45
    · have b5 : ((s[k].toNat : Int) == 45) = true := beq_iff_eq.2 c5
      have HP : Hid (bt s k = 45) := by show _ = _; rw [HB.out, c5]
      clear c0 c1 c2 c5
      go_wp2_with (first | (go_at_call 18; refine (c18 _ _).mono ?_; rintro e w' ⟨rfl, rfl⟩) | (go_at_call 19; refine (c19 _ _).mono ?_; rintro e w' ⟨rfl, rfl⟩))
      go_step3
      exact ⟨⟨_, _, k + 1, d, fr_of rfl rfl rfl rfl rfl, HO.out, by omega, Or.inr ⟨k, rfl, hlt, hT.out, Or.inr (Or.inr (Or.inr (Or.inl ⟨rfl, HP.out, rfl⟩)))⟩⟩, by simp [far, intOf]; omega⟩
    · have b5 : ((s[k].toNat : Int) == 45) = false := beq_eq_false_iff_ne.2 c5
      have HP : Hid (plen s k = 1 ∧ blk s k = false) := at_one (by rw [HB.out]; exact c0) (by rw [HB.out]; exact c1) (by rw [HB.out]; exact c2) (by rw [HB.out]; exact c3) (by rw [HB.out]; exact c4) (by rw [HB.out]; exact c5)
      clear c0 c1 c2 c5
      go_wp2_with (first | (go_at_call 18; refine (c18 _ _).mono ?_; rintro e w' ⟨rfl, rfl⟩) | (go_at_call 19; refine (c19 _ _).mono ?_; rintro e w' ⟨rfl, rfl⟩))
      go_step3
      exact ⟨⟨_, _, k + 1, d, fr_of rfl rfl rfl rfl rfl, HO.out, by omega, Or.inr ⟨k, rfl, hlt, hT.out, Or.inr (Or.inr (Or.inr (Or.inr ⟨rfl, HP.out.2, by rw [HP.out.1]⟩)))⟩⟩, by simp [far, intOf]; omega⟩
  case p1 =>
    rintro a wr ⟨v, x4, k, d, ⟨u, rfl⟩, hO, hk, hl⟩
    have HO : Hid (Own w wr v d) := hO
    rcases hl with ⟨h, _⟩ | ⟨f, rfl, hf, hT0, hl⟩
    · exact absurd h (by decide)
    have hT : Hid (Till s d f) := hT0
    have hXR : Hid (bt s f = 35 ∧ Rd nn s f k) := by
      rcases hl with ⟨_, hX, hR⟩ | ⟨h, _⟩ | ⟨h, _⟩ | ⟨h, _⟩ | ⟨h, _⟩ <;> first | exact ⟨hX, hR⟩ | exact absurd h (by decide)
    clear hl hO hT0
    have HP : Hid (plen s f = 1 + run nn s (f + 1) ∧ blk s f = true) := at_hash hXR.out.1
    by_cases hlt : k < s.size
    · have HB : Hid (bt s k = (s[k].toNat : Int)) := bt_in hlt
      by_cases c0 : (s[k].toNat : Int) = 10
      · have b0 : ((s[k].toNat : Int) != 10) = false := by rw [bne_eq_false_iff_eq]; exact c0
        have HS : Hid (k = f + 1 + run nn s (f + 1)) := rd_stop hXR.out.2 (fun _ => by rw [HB.out, c0]; rfl)
        clear c0
        go_wp2
        go_step3
        exact ⟨⟨_, _, k, d, fr_of rfl rfl rfl rfl rfl, HO.out, hk, Or.inl ⟨rfl, by have h := till_blk hT.out hf HP.out.2; rw [HP.out.1] at h; rw [show k = f + (1 + run nn s (f + 1)) from by have := HS.out; omega]; exact h⟩⟩, by simp [far, intOf]; try omega⟩
      · have b0 : ((s[k].toNat : Int) != 10) = true := by rw [bne_iff_ne]; exact c0
        have HS : Hid (Rd nn s f (k + 1)) := rd_step hXR.out.2 hlt (by rw [HB.out]; simp only [nn]; exact decide_eq_true c0)
        clear c0
        go_wp2
        go_step3
        exact ⟨⟨_, _, k + 1, d, fr_of rfl rfl rfl rfl rfl, HO.out, by omega, Or.inr ⟨f, rfl, hf, hT.out, Or.inl ⟨rfl, hXR.out.1, HS.out⟩⟩⟩, by simp [far, intOf]; try omega⟩
    · have HS : Hid (k = f + 1 + run nn s (f + 1)) := rd_stop hXR.out.2 (fun q => absurd q hlt)
      go_wp2
      go_step3
      exact ⟨⟨_, _, k, d, fr_of rfl rfl rfl rfl rfl, HO.out, hk, Or.inl ⟨rfl, by have h := till_blk hT.out hf HP.out.2; rw [HP.out.1] at h; rw [show k = f + (1 + run nn s (f + 1)) from by have := HS.out; omega]; exact h⟩⟩, by simp [far, intOf]; try omega⟩
  case p2 =>
    rintro a wr ⟨v, x4, k, d, ⟨u, rfl⟩, hO, hk, hl⟩
    have HO : Hid (Own w wr v d) := hO
    rcases hl with ⟨h, _⟩ | ⟨f, rfl, hf, hT0, hl⟩
    · exact absurd h (by decide)
    have hT : Hid (Till s d f) := hT0
    have hXR : Hid (sl (bt s f) = true ∧ Rd wb s f k) := by
      rcases hl with ⟨h, _⟩ | ⟨_, hX, hR⟩ | ⟨h, _⟩ | ⟨h, _⟩ | ⟨h, _⟩ <;> first | exact ⟨hX, hR⟩ | exact absurd h (by decide)
    clear hl hO hT0
    have HP : Hid (plen s f = 1 + run wb s (f + 1) ∧ blk s f = false) := at_word hXR.out.1
    by_cases hlt : k < s.size
    · have HB : Hid (bt s k = (s[k].toNat : Int)) := bt_in hlt
      cases c0 : wb (s[k].toNat : Int)
      · have HS : Hid (k = f + 1 + run wb s (f + 1)) := rd_stop hXR.out.2 (fun _ => by rw [HB.out, c0])
        go_wp2_with (go_at_call 20; refine (c20 _ _).mono ?_; rintro e w' ⟨rfl, rfl⟩)
        go_step3
        exact ⟨⟨_, _, k, d, fr_of rfl rfl rfl rfl rfl, HO.out, hk, Or.inr ⟨f, rfl, hf, hT.out, Or.inr (Or.inr (Or.inr (Or.inr ⟨rfl, HP.out.2, by rw [HP.out.1]; have := HS.out; omega⟩)))⟩⟩, by simp [far, intOf]; try omega⟩
      · have HS : Hid (Rd wb s f (k + 1)) := rd_step hXR.out.2 hlt (by rw [HB.out, c0])
        go_wp2_with (go_at_call 20; refine (c20 _ _).mono ?_; rintro e w' ⟨rfl, rfl⟩)
        go_step3
        exact ⟨⟨_, _, k + 1, d, fr_of rfl rfl rfl rfl rfl, HO.out, by omega, Or.inr ⟨f, rfl, hf, hT.out, Or.inr (Or.inl ⟨rfl, hXR.out.1, HS.out⟩)⟩⟩, by simp [far, intOf]; try omega⟩
    · have HS : Hid (k = f + 1 + run wb s (f + 1)) := rd_stop hXR.out.2 (fun q => absurd q hlt)
      go_wp2
      go_step3
      exact ⟨⟨_, _, k, d, fr_of rfl rfl rfl rfl rfl, HO.out, hk, Or.inr ⟨f, rfl, hf, hT.out, Or.inr (Or.inr (Or.inr (Or.inr ⟨rfl, HP.out.2, by rw [HP.out.1]; have := HS.out; omega⟩)))⟩⟩, by simp [far, intOf]; try omega⟩
  case p3 =>
    rintro a wr ⟨v, x4, k, d, ⟨u, rfl⟩, hO, hk, hl⟩
    have HO : Hid (Own w wr v d) := hO
    rcases hl with ⟨h, _⟩ | ⟨f, rfl, hf, hT0, hl⟩
    · exact absurd h (by decide)
    have hT : Hid (Till s d f) := hT0
    have hXR : Hid (dg (bt s f) = true ∧ Rd dg s f k) := by
      rcases hl with ⟨h, _⟩ | ⟨h, _⟩ | ⟨_, hX, hR⟩ | ⟨h, _⟩ | ⟨h, _⟩ <;> first | exact ⟨hX, hR⟩ | exact absurd h (by decide)
    clear hl hO hT0
    have HP : Hid (plen s f = 1 + run dg s (f + 1) ∧ blk s f = false) := at_num hXR.out.1
    by_cases hlt : k < s.size
    · have HB : Hid (bt s k = (s[k].toNat : Int)) := bt_in hlt
      cases c0 : dg (s[k].toNat : Int)
      · have HS : Hid (k = f + 1 + run dg s (f + 1)) := rd_stop hXR.out.2 (fun _ => by rw [HB.out, c0])
        go_wp2_with (go_at_call 19; refine (c19 _ _).mono ?_; rintro e w' ⟨rfl, rfl⟩)
        go_step3
        exact ⟨⟨_, _, k, d, fr_of rfl rfl rfl rfl rfl, HO.out, hk, Or.inr ⟨f, rfl, hf, hT.out, Or.inr (Or.inr (Or.inr (Or.inr ⟨rfl, HP.out.2, by rw [HP.out.1]; have := HS.out; omega⟩)))⟩⟩, by simp [far, intOf]; try omega⟩
      · have HS : Hid (Rd dg s f (k + 1)) := rd_step hXR.out.2 hlt (by rw [HB.out, c0])
        go_wp2_with (go_at_call 19; refine (c19 _ _).mono ?_; rintro e w' ⟨rfl, rfl⟩)
        go_step3
        exact ⟨⟨_, _, k + 1, d, fr_of rfl rfl rfl rfl rfl, HO.out, by omega, Or.inr ⟨f, rfl, hf, hT.out, Or.inr (Or.inr (Or.inl ⟨rfl, hXR.out.1, HS.out⟩))⟩⟩, by simp [far, intOf]; try omega⟩
    · have HS : Hid (k = f + 1 + run dg s (f + 1)) := rd_stop hXR.out.2 (fun q => absurd q hlt)
      go_wp2
      go_step3
      exact ⟨⟨_, _, k, d, fr_of rfl rfl rfl rfl rfl, HO.out, hk, Or.inr ⟨f, rfl, hf, hT.out, Or.inr (Or.inr (Or.inr (Or.inr ⟨rfl, HP.out.2, by rw [HP.out.1]; have := HS.out; omega⟩)))⟩⟩, by simp [far, intOf]; try omega⟩
  case p4 =>
    rintro a wr ⟨v, x4, k, d, ⟨u, rfl⟩, hO, hk, hl⟩
    have HO : Hid (Own w wr v d) := hO
    rcases hl with ⟨h, _⟩ | ⟨f, rfl, hf, hT0, hl⟩
    · exact absurd h (by decide)
    have hT : Hid (Till s d f) := hT0
    have hXR : Hid (bt s f = 45 ∧ k = f + 1) := by
      rcases hl with ⟨h, _⟩ | ⟨h, _⟩ | ⟨h, _⟩ | ⟨_, hX, hR⟩ | ⟨h, _⟩ <;> first | exact ⟨hX, hR⟩ | exact absurd h (by decide)
    clear hl hO hT0
    have HP : Hid (plen s f = (if bt s (f + 1) = 62 then 2 else 1) ∧ blk s f = false) := at_minus hXR.out.1
    have HK : Hid (k = f + 1) := hXR.out.2
    by_cases hlt : k < s.size
    · have HB : Hid (bt s (f + 1) = (s[k].toNat : Int)) := by show _ = _; rw [← HK.out]; exact bt_in hlt
      by_cases c0 : (s[k].toNat : Int) = 62
      · have b0 : ((s[k].toNat : Int) == 62) = true := beq_iff_eq.2 c0
        have HQ : Hid (plen s f = 2) := by show _ = _; rw [HP.out.1, HB.out, if_pos c0]
        clear c0
        go_wp2
        go_step3
        exact ⟨⟨_, _, k + 1, d, fr_of rfl rfl rfl rfl rfl, HO.out, by omega, Or.inr ⟨f, rfl, hf, hT.out, Or.inr (Or.inr (Or.inr (Or.inr ⟨rfl, HP.out.2, by rw [HQ.out]; have := HK.out; omega⟩)))⟩⟩, by simp [far, intOf]; try omega⟩
      · have b0 : ((s[k].toNat : Int) == 62) = false := beq_eq_false_iff_ne.2 c0
        have HQ : Hid (plen s f = 1) := by show _ = _; rw [HP.out.1, HB.out, if_neg c0]
        clear c0
        go_wp2
        go_step3
        exact ⟨⟨_, _, k, d, fr_of rfl rfl rfl rfl rfl, HO.out, hk, Or.inr ⟨f, rfl, hf, hT.out, Or.inr (Or.inr (Or.inr (Or.inr ⟨rfl, HP.out.2, by rw [HQ.out]; have := HK.out; omega⟩)))⟩⟩, by simp [far, intOf]; try omega⟩
    · have HQ : Hid (plen s f = 1) := by
        show _ = _
        rw [HP.out.1, bt_out (by have := HK.out; omega), if_neg (by decide)]
      go_wp2
      go_step3
      exact ⟨⟨_, _, k, d, fr_of rfl rfl rfl rfl rfl, HO.out, hk, Or.inr ⟨f, rfl, hf, hT.out, Or.inr (Or.inr (Or.inr (Or.inr ⟨rfl, HP.out.2, by rw [HQ.out]; have := HK.out; omega⟩)))⟩⟩, by simp [far, intOf]; try omega⟩
  case p5 =>
    rintro a wr ⟨v, x4, k, d, ⟨u, rfl⟩, hO, hk, hl⟩
    have HO : Hid (Own w wr v d) := hO
    rcases hl with ⟨h, _⟩ | ⟨f, rfl, hf, hT0, hl⟩
    · exact absurd h (by decide)
    have hT : Hid (Till s d f) := hT0
    have hXR : Hid (blk s f = false ∧ k = f + plen s f) := by
      rcases hl with ⟨h, _⟩ | ⟨h, _⟩ | ⟨h, _⟩ | ⟨h, _⟩ | ⟨_, hX, hR⟩ <;> first | exact ⟨hX, hR⟩ | exact absurd h (by decide)
    clear hl hO hT0
    have HK : Hid (k = f + plen s f) := hXR.out.2
    have HF : Hid (blk s f = false) := hXR.out.1
    obtain ⟨oa, cap, rfl⟩ := own_form HO.out.own
    obtain ⟨i0, hi0, hz0, hz1, hz2⟩ := info_parts Try.info42
    have hdl := till_len hT.out
    have hfk : f ≤ k := by have := HK.out; omega
    have HE : Hid (s.extract f k = ptx s f) := by show _ = _; unfold ptx; rw [HK.out]
    have hz : (ptx s f).size = plen s f := ptx_size hf
    have hpl := plen_pos s f
    have hple := plen_le hf
    have HN : Hid (Till s (d ++ [⟨cls (ptx s f).toList, ptx s f, f⟩]) k) := by
      have := till_tok hT.out hf HF.out
      rw [← HK.out] at this; exact this
    clear hXR
    go_wp2_with fail
    rw [HE.out]
    refine (c21 (ptx s f) f m _ (by omega) (by omega) (HM.out _ HO.out.below) (ptx_first hf HF.out (by omega))).mono ?_
    rintro e w2 ⟨rfl, hb2⟩
    have OW := own_below HO.out hb2
    have hbs : w.heap.size ≤ w2.heap.size := OW.below.size
    obtain ⟨tk, htk⟩ : ∃ tk : TK, tk = ⟨cls (ptx s f).toList, ptx s f, f⟩ := ⟨_, rfl⟩
    have e1 : cls (ptx s f).toList = tk.cls := by rw [htk]
    have e2 : ptx s f = tk.txt := by rw [htk]
    have e3 : f = tk.loc := by rw [htk]
    rw [← htk] at HN
    rw [e1, e2]
    have E3 : Hid (f = tk.loc) := e3
    clear hz hpl hple hb2 e1 e2 e3 htk HE
    have OWN := OW.own
    have HOW : Hid (Own w w2 (.slice oa d.length cap) d) := OW
    clear OW HO
    have HZ : Hid ((f : Int) = (tk.loc : Int)) := by show _ = _; rw [E3.out]
    have hnew : ∀ W : World, ∀ T : TypeId, ∀ j u, [Value.int .i64 tk.cls, .string tk.txt, .int .i64 (f : Int)][j]? = some u → (W.alloc (.cells #[Value.int .i64 tk.cls, .string tk.txt, .int .i64 (f : Int)] T)).cell? ((⟨W.heap.size, 0, none⟩ : Addr).add j) = some u := fun W T => cells_three W _ _ _ T
    have hone : ∀ u ∈ [Value.int .i64 tk.cls, .string tk.txt, .int .i64 (f : Int)], u.oneCell' = true := by
      have := tk_one tk
      rw [← HZ.out] at this; exact this
    go_wp2_with (first | (at_builtin; refine wpList_append_lies _ rfl _ _ 22 rfl w.heap.size 42 i0 _ 3 32 Try.underlying22 hi0 hz0 hz1 hz2 rfl (by omega) (.slice oa d.length cap) d.length (tcells d) rfl (OWN.alloc _) ⟨w2.heap.size, 0, none⟩ 1 1 [.int .i64 tk.cls, .string tk.txt, .int .i64 (f : Int)] rfl rfl (hnew _ _) hone (by omega) (by unfold maxLen; omega) (by omega) (by simp; omega) (w2.heap.size + 1) (by simp) ?_; intro gg cap3 w3 hown3 hg3 hat hlt3))
    go_step3
    rw [HZ.out] at hown3
    have FIN := own_grow (wr := w2) HOW.out (Below.refl _ _) hown3 hg3
    exact ⟨⟨_, _, k, d ++ [tk], fr_of rfl rfl rfl rfl rfl, FIN, hk, Or.inl ⟨rfl, HN.out⟩⟩, by simp [far, intOf]⟩

end Go.Proofs.Ythbdomniookmbaa
