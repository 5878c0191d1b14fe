/-
  A ring of records is added to a graph.
-/
import Derived.Test.YtoanhnmpkonbfaaGreatDoorDrE0
namespace Go.Proofs.YtoanhnmpkonbfaaGreatDoor
open Go.RowKit Go.Maps

abbrev sN : ByteArray := ⟨#[110]⟩
/-- The node at a place of a ring of n that begins at f. -/
def ringF (f n : Nat) (s : ByteArray) (i : Nat) : ND := if i = n - 1 then nodeL 3 [sN, s] [(f : Int), (f : Int)] else nodeL 3 [sN] [((f + (i + 1) % n : Nat) : Int)]

/-- A list of nodes that may grow on. -/
structure Lr (w1 wr : World) (v : Value) (q : Nat → NP) (L : List ND) : Prop where
  own : wr.ownsRow w1.heap.size 39 3 v L.length (ncells q (gd L) L.length)
  below : Below w1.heap.size w1 wr
  node : ∀ i, i < L.length → NodeAt wr (q i) (gd L i) ∧ (0 < (gd L i).nn → (q i).b1 < wr.heap.size ∧ some (q i).b1 ≠ v.ownBlock) ∧ (0 < (gd L i).nk → (q i).b2 < wr.heap.size ∧ some (q i).b2 ≠ v.ownBlock)

theorem Lq.lr {X : Nat} {w1 wr : World} {v : Value} {q : Nat → NP} {L : List ND} (h : Lq X w1 wr v q L) : Lr w1 wr v q L :=
  ⟨h.own, h.below, fun i hi => ⟨(h.node i hi).1, fun z => ⟨((h.node i hi).2.1 z).1, ((h.node i hi).2.1 z).2.1⟩, fun z => ⟨((h.node i hi).2.2 z).1, ((h.node i hi).2.2 z).2.1⟩⟩⟩

theorem Lr.lq {w1 w w' : World} {v : Value} {q : Nat → NP} {L : List ND} (h : Lr w1 w v q L) (hb : Below w.heap.size w w') {X : Nat} (h1 : w.heap.size ≤ X) (h2 : X < w'.heap.size) : Lq X w1 w' v q L := by
  have hs := hb.size
  refine ⟨own_block h.own (fun j e => hb.block j (h.own.lt j e.symm).2), h.below.trans (hb.mono h.below.size), ⟨h2, own_ne h.own h1⟩, fun i hi => ?_⟩
  obtain ⟨n0, n1, n2⟩ := h.node i hi
  exact ⟨n0.below hb, fun z => ⟨by have := (n1 z).1; omega, (n1 z).2, by have := (n1 z).1; omega⟩, fun z => ⟨by have := (n2 z).1; omega, (n2 z).2, by have := (n2 z).1; omega⟩⟩

theorem lq_set' {X Y : Nat} {w1 wr : World} {v : Value} {q : Nat → NP} {L : List ND} (h : Lq X w1 wr v q L) (h' : Lq Y w1 wr v q L) (hX : w1.heap.size ≤ X) (o : Nat) (u : Value) : Lq Y w1 (wr.setCell ⟨X, o, none⟩ u) v q L := by
  have := lq_set h hX o u
  refine ⟨this.own, this.below, ⟨by simp; exact h'.box.1, h'.box.2⟩, fun i hi => ⟨(this.node i hi).1, fun z => ⟨((this.node i hi).2.1 z).1, ((h'.node i hi).2.1 z).2⟩, fun z => ⟨((this.node i hi).2.2 z).1, ((h'.node i hi).2.2 z).2⟩⟩⟩

def RingPost (w1 : World) (L : List ND) (e : Ending) (w' : World) : Prop :=
  ∃ (v : Value) (q : Nat → NP), e = .returned (.agg #[v]) ∧ Lr w1 w' v q L

set_option maxRecDepth 100000 in
set_option maxHeartbeats 16000000 in
theorem d_ring (w1 : World) (v0 : Value) (q0 : Nat → NP) (Z : List ND) (f n : Nat) (s : ByteArray) (w : World) (h : Lr w1 w v0 q0 Z) (hf : Z.length = f) (hf2 : f ≤ 2000) (hn : 0 < n) (hn2 : n ≤ 2000) (hs : s.size ≤ 12) :
    Calls Tryz.prog 37 #[.agg #[v0], .int .i64 (n : Int), .string s] w fun e w' => RingPost w1 (Z ++ upN (ringF f n s) n) e w' := by
  have H0 := h.own
  rw [hf] at H0
  obtain ⟨oa0, cap0, rfl⟩ := own_form H0
  clear H0
  have HZ : Hid (Z.length = f) := hf
  have HS : Hid (s.size ≤ 12) := hs
  have hw1 := h.below.size
  have B2 := bel2 w (.cells #[.slice oa0 f cap0] 25) (.cells #[.slice none 0 0] 25)
  have Q1 := h.lq B2 (X := w.heap.size) (Nat.le_refl _) (by simp; omega)
  have Q2 := h.lq B2 (X := w.heap.size + 1) (by omega) (by simp)
  have RB := (row1 w (.slice oa0 f cap0) 25).alloc (.cells #[.slice none 0 0] 25)
  have RC : ((w.alloc (.cells #[.slice oa0 f cap0] 25)).alloc (.cells #[.slice none 0 0] 25)).rowIs (w.heap.size + 1) 25 1 (fun _ => .slice none 0 0) := by
    have := row1 (w.alloc (.cells #[.slice oa0 f cap0] 25)) (.slice none 0 0) 25
    simpa using this
  have ST : Hid (Lq w.heap.size w1 ((w.alloc (.cells #[.slice oa0 f cap0] 25)).alloc (.cells #[.slice none 0 0] 25)) (.slice oa0 f cap0) q0 (Z ++ upN (ringF f n s) 0) ∧ Lq (w.heap.size + 1) w1 ((w.alloc (.cells #[.slice oa0 f cap0] 25)).alloc (.cells #[.slice none 0 0] 25)) (.slice oa0 f cap0) q0 (Z ++ upN (ringF f n s) 0)) := by
    have e : Z ++ upN (ringF f n s) 0 = Z := by simp [upN]
    rw [e]; exact ⟨Q1, Q2⟩
  clear h Q1 Q2 hf hs B2
  obtain ⟨i0, hi0, hz0, hz1, hz2⟩ := info_parts Tryz.info39
  have hnn : ¬ (n : Int) = 0 := by omega
  go_enter Tryz.func37, Tryz.ntmps37
  go_wp2
  go_loopw [8] (fun s8 wr => ∃ (i : Nat) (q : Nat → NP) (v : Value), i ≤ n ∧ s8 = .int .i64 i ∧ Lq w.heap.size w1 wr v q (Z ++ upN (ringF f n s) i) ∧ Lq (w.heap.size + 1) w1 wr v q (Z ++ upN (ringF f n s) i) ∧ wr.rowIs w.heap.size 25 1 (fun _ => v) ∧ wr.rowIs (w.heap.size + 1) 25 1 (fun _ => .slice none 0 0)) (fun s8 _ => n - (intOf s8).toNat)
  case atStart => exact ⟨0, q0, _, Nat.zero_le _, rfl, ST.out.1, ST.out.2, RB, RC⟩
  case round =>
    obtain ⟨i, q, v, hi, rfl, hQ1, hQ2, hRB, hRC⟩ := hrel
    clear ST RB RC
    have hlen : (Z ++ upN (ringF f n s) i).length = f + i := by rw [List.length_append, upN_len, HZ.out]
    have OWN := hQ1.own
    rw [hlen] at OWN
    obtain ⟨oa, cap, rfl⟩ := own_form OWN
    have cB := hRB.cell (i := 0) (by omega)
    have fB := hRB.frozen 0
    by_cases hlt : i < n
    case neg =>
      have hin : i = n := by omega
      subst hin
      have k0 := hRC.cell (i := 0) (by omega)
      have k1 := hRC.frozen 0
      have FIN : Hid (Lr w1 (wr.setCell ⟨w.heap.size + 1, 0, none⟩ (.slice oa (f + i) cap)) (.slice oa (f + i) cap) q (Z ++ upN (ringF f i s) i)) := (lq_set hQ2 (by omega) 0 _).lr
      clear hQ1 hQ2 OWN hRB hRC
      go_wp2
      exact bodyPost_ret (v := .agg #[.slice oa (f + i) cap]) (by simp [results, Tryz.results37, go_sem, k0]) rfl ⟨.slice oa (f + i) cap, q, rfl, FIN.out⟩
    have HN1 : Hid (Z ++ upN (ringF f n s) (i + 1) = (Z ++ upN (ringF f n s) i) ++ [ringF f n s i]) := by
      show Z ++ upN (ringF f n s) (i + 1) = _
      rw [upN_succ, List.append_assoc]
    obtain ⟨Y, hY⟩ : ∃ Y, Y = Z ++ upN (ringF f n s) i := ⟨_, rfl⟩
    rw [← hY] at HN1 hQ1 hQ2 hlen OWN
    clear hY
    have HQ1 : Hid (Lq w.heap.size w1 wr (.slice oa (f + i) cap) q Y) := hQ1
    have HQ2 : Hid (Lq (w.heap.size + 1) w1 wr (.slice oa (f + i) cap) q Y) := hQ2
    have HLEN : Hid (Y.length = f + i) := hlen
    have HRB : Hid (wr.rowIs w.heap.size 25 1 (fun _ => .slice oa (f + i) cap)) := hRB
    have HRC : Hid (wr.rowIs (w.heap.size + 1) 25 1 (fun _ => .slice none 0 0)) := hRC
    have hbs : w1.heap.size ≤ wr.heap.size := hQ1.below.size
    have hx1 := hQ1.box.1
    have hx2 := hQ2.box.1
    have HX1 : Hid (some w.heap.size ≠ (Value.slice oa (f + i) cap).ownBlock) := hQ1.box.2
    have HX2 : Hid (some (w.heap.size + 1) ≠ (Value.slice oa (f + i) cap).ownBlock) := hQ2.box.2
    have OWN : wr.ownsRow w1.heap.size 39 3 (.slice oa (f + i) cap) (f + i) (ncells q (gd Y) Y.length) := by have := hQ1.own; rw [hlen] at this ⊢; exact this
    clear hQ1 hQ2 hlen hRB hRC
    obtain ⟨m, hm⟩ : ∃ m, m = (i + 1) % n := ⟨_, rfl⟩
    have tm : Int.tmod ((i : Int) + 1) (n : Int) = (m : Int) := by rw [hm, ← tmodN]; rfl
    have lm : m < n := by rw [hm]; exact Nat.mod_lt _ hn
    have HM : Hid ((i + 1) % n = m) := hm.symm
    clear hm
    have cA3 : ∀ o1 o2 o3, (((wr.alloc o1).alloc o2).alloc o3).cell? ⟨w.heap.size, 0, none⟩ = some (.slice oa (f + i) cap) := fun o1 o2 o3 => ((bel3 wr o1 o2 o3).cell (p := ⟨w.heap.size, 0, none⟩) hx1).trans cB
    have cA5 : ∀ o1 o2 o3 o4 o5, (((((wr.alloc o1).alloc o2).alloc o3).alloc o4).alloc o5).cell? ⟨w.heap.size, 0, none⟩ = some (.slice oa (f + i) cap) := fun o1 o2 o3 o4 o5 => ((((bel3 wr o1 o2 o3).alloc (by simp; omega) o4).alloc (by simp; omega) o5).cell (p := ⟨w.heap.size, 0, none⟩) hx1).trans cB
    have hne0 : ¬ (w.heap.size = wr.heap.size) := by omega
    have hne1 : ¬ (w.heap.size = wr.heap.size + 1) := by omega
    have hne2 : ¬ (w.heap.size = wr.heap.size + 1 + 1) := by omega
    by_cases hla : i = n - 1
    case neg =>
      have ql : ((i : Int) == (n : Int) - 1) = false := beq_eq_false_iff_ne.2 (by omega)
      have BZ : Below wr.heap.size wr (((wr.alloc (.cells #[.string sN] 9)).alloc (.cells #[.int .i64 ((f : Int) + (m : Int))] 3)).alloc (.cells #[.int .i64 3, .slice (some ⟨wr.heap.size, 0, none⟩) 1 1, .slice (some ⟨wr.heap.size + 1, 0, none⟩) 1 1] 39)) := bel3 _ _ _ _
      have OWNZ : ((((wr.alloc (.cells #[.string sN] 9)).alloc (.cells #[.int .i64 ((f : Int) + (m : Int))] 3)).alloc (.cells #[.int .i64 3, .slice (some ⟨wr.heap.size, 0, none⟩) 1 1, .slice (some ⟨wr.heap.size + 1, 0, none⟩) 1 1] 39))).ownsRow w1.heap.size 39 3 (.slice oa (f + i) cap) (f + i) (ncells q (gd Y) Y.length) := own_block OWN (fun j e => BZ.block j (OWN.lt j e.symm).2)
      have NA : Hid (NodeAt (((wr.alloc (.cells #[.string sN] 9)).alloc (.cells #[.int .i64 ((f : Int) + (m : Int))] 3)).alloc (.cells #[.int .i64 3, .slice (some ⟨wr.heap.size, 0, none⟩) 1 1, .slice (some ⟨wr.heap.size + 1, 0, none⟩) 1 1] 39)) ⟨some ⟨wr.heap.size, 0, none⟩, wr.heap.size, 0, 1, some ⟨wr.heap.size + 1, 0, none⟩, wr.heap.size + 1, 0, 1⟩ (nodeL 3 [sN] [(f : Int) + (m : Int)])) := by
        have e1 := one_strs wr sN (by decide)
        have e2 := one_ints (wr.alloc (.cells #[.string sN] 9)) ((f : Int) + (m : Int))
        simp only [World.size_alloc] at e2
        exact ⟨(e1.below (by have := bel2 (wr.alloc (.cells #[.string sN] 9)) (.cells #[.int .i64 ((f : Int) + (m : Int))] 3) (.cells #[.int .i64 3, .slice (some ⟨wr.heap.size, 0, none⟩) 1 1, .slice (some ⟨wr.heap.size + 1, 0, none⟩) 1 1] 39); simpa using this)), e2.below (by have := bel1 ((wr.alloc (.cells #[.string sN] 9)).alloc (.cells #[.int .i64 ((f : Int) + (m : Int))] 3)) (.cells #[.int .i64 3, .slice (some ⟨wr.heap.size, 0, none⟩) 1 1, .slice (some ⟨wr.heap.size + 1, 0, none⟩) 1 1] 39); simpa using this)⟩
      have H1 : Hid (wr.heap.size < ((((wr.alloc (.cells #[.string sN] 9)).alloc (.cells #[.int .i64 ((f : Int) + (m : Int))] 3)).alloc (.cells #[.int .i64 3, .slice (some ⟨wr.heap.size, 0, none⟩) 1 1, .slice (some ⟨wr.heap.size + 1, 0, none⟩) 1 1] 39))).heap.size ∧ some wr.heap.size ≠ (Value.slice oa (f + i) cap).ownBlock) := ⟨by simp; omega, own_ne OWN (by omega)⟩
      have H2 : Hid (wr.heap.size + 1 < ((((wr.alloc (.cells #[.string sN] 9)).alloc (.cells #[.int .i64 ((f : Int) + (m : Int))] 3)).alloc (.cells #[.int .i64 3, .slice (some ⟨wr.heap.size, 0, none⟩) 1 1, .slice (some ⟨wr.heap.size + 1, 0, none⟩) 1 1] 39))).heap.size ∧ some (wr.heap.size + 1) ≠ (Value.slice oa (f + i) cap).ownBlock) := ⟨by simp, own_ne OWN (by omega)⟩
      go_wp2_with (first | (at_builtin; refine wpList_append_lies _ rfl _ _ 23 rfl w1.heap.size 39 i0 _ 3 56 Tryz.underlying23 hi0 hz0 hz1 hz2 rfl (by omega) (.slice oa (f + i) cap) (f + i) (ncells q (gd Y) Y.length) rfl (OWNZ.alloc _) ⟨wr.heap.size + 1 + 1 + 1, 0, none⟩ 1 1 [.int .i64 3, .slice (some ⟨wr.heap.size, 0, none⟩) 1 1, .slice (some ⟨wr.heap.size + 1, 0, none⟩) 1 1] rfl rfl (World.news_of_block (cs := #[.int .i64 3, .slice (some ⟨wr.heap.size, 0, none⟩) 1 1, .slice (some ⟨wr.heap.size + 1, 0, none⟩) 1 1]) (t := 39) (fr := (0, 0)) (by have := heap_alloc_new (((wr.alloc (.cells #[.string sN] 9)).alloc (.cells #[.int .i64 ((f : Int) + (m : Int))] 3)).alloc (.cells #[.int .i64 3, .slice (some ⟨wr.heap.size, 0, none⟩) 1 1, .slice (some ⟨wr.heap.size + 1, 0, none⟩) 1 1] 39)) (.cells #[.int .i64 3, .slice (some ⟨wr.heap.size, 0, none⟩) 1 1, .slice (some ⟨wr.heap.size + 1, 0, none⟩) 1 1] 39); simpa using this)) (by simp [Value.oneCell']) (by omega) (by unfold maxLen; omega) (by omega) (by simp; omega) (wr.heap.size + 1 + 1 + 1 + 1) (by simp) ?_; intro gg cap5 w5 hown5 hg5 hat5 hlt5; have b5 : ∀ j, j < wr.heap.size → some j ≠ (Value.slice oa (f + i) cap).ownBlock → w5.heap[j]? = wr.heap[j]? := (fun j hj hne => (hg5.block j (by simp; omega) hne).trans ((Below.heap_alloc _ _ _ (by simp; omega)).trans (BZ.block j hj))); have R5 := HRB.out.of_block (b5 _ hx1 HX1.out); have d0 := R5.cell (i := 0) (by omega); have d1 := R5.frozen 0))
      have FIN : Hid (Lq w.heap.size w1 (w5.setCell ⟨w.heap.size, 0, none⟩ (.slice (some ⟨gg, 0, none⟩) (f + i + 1) cap5)) (.slice (some ⟨gg, 0, none⟩) (f + i + 1) cap5) (fun k => if k = f + i then ⟨some ⟨wr.heap.size, 0, none⟩, wr.heap.size, 0, 1, some ⟨wr.heap.size + 1, 0, none⟩, wr.heap.size + 1, 0, 1⟩ else q k) (Z ++ upN (ringF f n s) (i + 1)) ∧ Lq (w.heap.size + 1) w1 (w5.setCell ⟨w.heap.size, 0, none⟩ (.slice (some ⟨gg, 0, none⟩) (f + i + 1) cap5)) (.slice (some ⟨gg, 0, none⟩) (f + i + 1) cap5) (fun k => if k = f + i then ⟨some ⟨wr.heap.size, 0, none⟩, wr.heap.size, 0, 1, some ⟨wr.heap.size + 1, 0, none⟩, wr.heap.size + 1, 0, 1⟩ else q k) (Z ++ upN (ringF f n s) (i + 1))) := by
        rw [HN1.out, show ringF f n s i = nodeL 3 [sN] [(f : Int) + (m : Int)] from (by unfold ringF; rw [if_neg hla, HM.out]; congr 1)]
        have s1 := lq_step HQ1.out HLEN.out BZ ⟨some ⟨wr.heap.size, 0, none⟩, wr.heap.size, 0, 1, some ⟨wr.heap.size + 1, 0, none⟩, wr.heap.size + 1, 0, 1⟩ (nodeL 3 [sN] [(f : Int) + (m : Int)]) NA.out (fun z => ⟨((fun _ => H1.out) z).1, ((fun _ => H1.out) z).2, by show wr.heap.size ≠ w.heap.size; omega⟩) (fun z => ⟨((fun _ => H2.out) z).1, ((fun _ => H2.out) z).2, by show wr.heap.size + 1 ≠ w.heap.size; omega⟩) hown5 hg5 (by simpa using hat5)
        have s2 := lq_step HQ2.out HLEN.out BZ ⟨some ⟨wr.heap.size, 0, none⟩, wr.heap.size, 0, 1, some ⟨wr.heap.size + 1, 0, none⟩, wr.heap.size + 1, 0, 1⟩ (nodeL 3 [sN] [(f : Int) + (m : Int)]) NA.out (fun z => ⟨((fun _ => H1.out) z).1, ((fun _ => H1.out) z).2, by show wr.heap.size ≠ w.heap.size + 1; omega⟩) (fun z => ⟨((fun _ => H2.out) z).1, ((fun _ => H2.out) z).2, by show wr.heap.size + 1 ≠ w.heap.size + 1; omega⟩) hown5 hg5 (by simpa using hat5)
        exact ⟨lq_set s1 hw1 0 _, lq_set' s1 s2 hw1 0 _⟩
      have FR : Hid ((w5.setCell ⟨w.heap.size, 0, none⟩ (.slice (some ⟨gg, 0, none⟩) (f + i + 1) cap5)).rowIs w.heap.size 25 1 (fun _ => .slice (some ⟨gg, 0, none⟩) (f + i + 1) cap5) ∧ (w5.setCell ⟨w.heap.size, 0, none⟩ (.slice (some ⟨gg, 0, none⟩) (f + i + 1) cap5)).rowIs (w.heap.size + 1) 25 1 (fun _ => .slice none 0 0)) := by
        refine ⟨(R5.set 0 _).congr (fun j hj => ?_), (HRC.out.of_block (b5 _ hx2 HX2.out)).setOther (by show w.heap.size + 1 ≠ w.heap.size; omega) _⟩
        match j, hj with
        | 0, _ => rfl
      clear hown5 hg5 hat5 OWN OWNZ NA R5
      go_wp2
      go_roundw
      case rel => first | exact ⟨i + 1, (fun k => if k = f + i then ⟨some ⟨wr.heap.size, 0, none⟩, wr.heap.size, 0, 1, some ⟨wr.heap.size + 1, 0, none⟩, wr.heap.size + 1, 0, 1⟩ else q k), _, by omega, by go_num, FIN.out.1, FIN.out.2, FR.out.1, FR.out.2⟩ | exact ⟨i + 1, by omega, by go_num, (fun k => if k = f + i then ⟨some ⟨wr.heap.size, 0, none⟩, wr.heap.size, 0, 1, some ⟨wr.heap.size + 1, 0, none⟩, wr.heap.size + 1, 0, 1⟩ else q k), _, FIN.out.1, FIN.out.2, FR.out.1, FR.out.2⟩
      case measure => simp [intOf]; omega
    have ql : ((i : Int) == (n : Int) - 1) = true := by rw [beq_iff_eq]; omega
    have HLA : Hid (i = n - 1) := hla
    clear hla
    have BZ : Below wr.heap.size wr (((((wr.alloc (.cells #[.string sN] 9)).alloc (.cells #[.int .i64 ((f : Int) + (m : Int))] 3)).alloc (.cells #[.int .i64 3, .slice (some ⟨wr.heap.size + 1 + 1 + 1, 0, none⟩) 2 2, .slice (some ⟨wr.heap.size + 1 + 1 + 1 + 1, 0, none⟩) 2 2] 39)).alloc (.cells #[.string sN, .string s] 9)).alloc (.cells #[.int .i64 (f : Int), .int .i64 (f : Int)] 3)) := ((bel3 wr _ _ _).alloc (by simp; omega) _).alloc (by simp; omega) _
    have OWNZ : ((((((wr.alloc (.cells #[.string sN] 9)).alloc (.cells #[.int .i64 ((f : Int) + (m : Int))] 3)).alloc (.cells #[.int .i64 3, .slice (some ⟨wr.heap.size + 1 + 1 + 1, 0, none⟩) 2 2, .slice (some ⟨wr.heap.size + 1 + 1 + 1 + 1, 0, none⟩) 2 2] 39)).alloc (.cells #[.string sN, .string s] 9)).alloc (.cells #[.int .i64 (f : Int), .int .i64 (f : Int)] 3))).ownsRow w1.heap.size 39 3 (.slice oa (f + i) cap) (f + i) (ncells q (gd Y) Y.length) := own_block OWN (fun j e => BZ.block j (OWN.lt j e.symm).2)
    have NA : Hid (NodeAt (((((wr.alloc (.cells #[.string sN] 9)).alloc (.cells #[.int .i64 ((f : Int) + (m : Int))] 3)).alloc (.cells #[.int .i64 3, .slice (some ⟨wr.heap.size + 1 + 1 + 1, 0, none⟩) 2 2, .slice (some ⟨wr.heap.size + 1 + 1 + 1 + 1, 0, none⟩) 2 2] 39)).alloc (.cells #[.string sN, .string s] 9)).alloc (.cells #[.int .i64 (f : Int), .int .i64 (f : Int)] 3)) ⟨some ⟨wr.heap.size + 1 + 1 + 1, 0, none⟩, wr.heap.size + 1 + 1 + 1, 0, 2, some ⟨wr.heap.size + 1 + 1 + 1 + 1, 0, none⟩, wr.heap.size + 1 + 1 + 1 + 1, 0, 2⟩ (nodeL 3 [sN, s] [(f : Int), (f : Int)])) := by
      have e1 := two_strs (((wr.alloc (.cells #[.string sN] 9)).alloc (.cells #[.int .i64 ((f : Int) + (m : Int))] 3)).alloc (.cells #[.int .i64 3, .slice (some ⟨wr.heap.size + 1 + 1 + 1, 0, none⟩) 2 2, .slice (some ⟨wr.heap.size + 1 + 1 + 1 + 1, 0, none⟩) 2 2] 39)) sN s (by decide) HS.out
      have e2 := two_ints ((((wr.alloc (.cells #[.string sN] 9)).alloc (.cells #[.int .i64 ((f : Int) + (m : Int))] 3)).alloc (.cells #[.int .i64 3, .slice (some ⟨wr.heap.size + 1 + 1 + 1, 0, none⟩) 2 2, .slice (some ⟨wr.heap.size + 1 + 1 + 1 + 1, 0, none⟩) 2 2] 39)).alloc (.cells #[.string sN, .string s] 9)) (f : Int) (f : Int)
      simp only [World.size_alloc] at e1 e2
      exact ⟨e1.below (by have := bel1 ((((wr.alloc (.cells #[.string sN] 9)).alloc (.cells #[.int .i64 ((f : Int) + (m : Int))] 3)).alloc (.cells #[.int .i64 3, .slice (some ⟨wr.heap.size + 1 + 1 + 1, 0, none⟩) 2 2, .slice (some ⟨wr.heap.size + 1 + 1 + 1 + 1, 0, none⟩) 2 2] 39)).alloc (.cells #[.string sN, .string s] 9)) (.cells #[.int .i64 (f : Int), .int .i64 (f : Int)] 3); simpa using this), e2⟩
    have H1 : Hid (wr.heap.size + 1 + 1 + 1 < ((((((wr.alloc (.cells #[.string sN] 9)).alloc (.cells #[.int .i64 ((f : Int) + (m : Int))] 3)).alloc (.cells #[.int .i64 3, .slice (some ⟨wr.heap.size + 1 + 1 + 1, 0, none⟩) 2 2, .slice (some ⟨wr.heap.size + 1 + 1 + 1 + 1, 0, none⟩) 2 2] 39)).alloc (.cells #[.string sN, .string s] 9)).alloc (.cells #[.int .i64 (f : Int), .int .i64 (f : Int)] 3))).heap.size ∧ some (wr.heap.size + 1 + 1 + 1) ≠ (Value.slice oa (f + i) cap).ownBlock) := ⟨by simp, own_ne OWN (by omega)⟩
    have H2 : Hid (wr.heap.size + 1 + 1 + 1 + 1 < ((((((wr.alloc (.cells #[.string sN] 9)).alloc (.cells #[.int .i64 ((f : Int) + (m : Int))] 3)).alloc (.cells #[.int .i64 3, .slice (some ⟨wr.heap.size + 1 + 1 + 1, 0, none⟩) 2 2, .slice (some ⟨wr.heap.size + 1 + 1 + 1 + 1, 0, none⟩) 2 2] 39)).alloc (.cells #[.string sN, .string s] 9)).alloc (.cells #[.int .i64 (f : Int), .int .i64 (f : Int)] 3))).heap.size ∧ some (wr.heap.size + 1 + 1 + 1 + 1) ≠ (Value.slice oa (f + i) cap).ownBlock) := ⟨by simp, own_ne OWN (by omega)⟩
    go_wp2_with (first | (at_builtin; refine wpList_append_lies _ rfl _ _ 23 rfl w1.heap.size 39 i0 _ 3 56 Tryz.underlying23 hi0 hz0 hz1 hz2 rfl (by omega) (.slice oa (f + i) cap) (f + i) (ncells q (gd Y) Y.length) rfl (OWNZ.alloc _) ⟨wr.heap.size + 1 + 1 + 1 + 1 + 1, 0, none⟩ 1 1 [.int .i64 3, .slice (some ⟨wr.heap.size + 1 + 1 + 1, 0, none⟩) 2 2, .slice (some ⟨wr.heap.size + 1 + 1 + 1 + 1, 0, none⟩) 2 2] rfl rfl (World.news_of_block (cs := #[.int .i64 3, .slice (some ⟨wr.heap.size + 1 + 1 + 1, 0, none⟩) 2 2, .slice (some ⟨wr.heap.size + 1 + 1 + 1 + 1, 0, none⟩) 2 2]) (t := 39) (fr := (0, 0)) (by have := heap_alloc_new (((((wr.alloc (.cells #[.string sN] 9)).alloc (.cells #[.int .i64 ((f : Int) + (m : Int))] 3)).alloc (.cells #[.int .i64 3, .slice (some ⟨wr.heap.size + 1 + 1 + 1, 0, none⟩) 2 2, .slice (some ⟨wr.heap.size + 1 + 1 + 1 + 1, 0, none⟩) 2 2] 39)).alloc (.cells #[.string sN, .string s] 9)).alloc (.cells #[.int .i64 (f : Int), .int .i64 (f : Int)] 3)) (.cells #[.int .i64 3, .slice (some ⟨wr.heap.size + 1 + 1 + 1, 0, none⟩) 2 2, .slice (some ⟨wr.heap.size + 1 + 1 + 1 + 1, 0, none⟩) 2 2] 39); simpa using this)) (by simp [Value.oneCell']) (by omega) (by unfold maxLen; omega) (by omega) (by simp; omega) (wr.heap.size + 1 + 1 + 1 + 1 + 1 + 1) (by simp) ?_; intro gg cap5 w5 hown5 hg5 hat5 hlt5; have b5 : ∀ j, j < wr.heap.size → some j ≠ (Value.slice oa (f + i) cap).ownBlock → w5.heap[j]? = wr.heap[j]? := (fun j hj hne => (hg5.block j (by simp; omega) hne).trans ((Below.heap_alloc _ _ _ (by simp; omega)).trans (BZ.block j hj))); have R5 := HRB.out.of_block (b5 _ hx1 HX1.out); have d0 := R5.cell (i := 0) (by omega); have d1 := R5.frozen 0))
    have FIN : Hid (Lq w.heap.size w1 (w5.setCell ⟨w.heap.size, 0, none⟩ (.slice (some ⟨gg, 0, none⟩) (f + i + 1) cap5)) (.slice (some ⟨gg, 0, none⟩) (f + i + 1) cap5) (fun k => if k = f + i then ⟨some ⟨wr.heap.size + 1 + 1 + 1, 0, none⟩, wr.heap.size + 1 + 1 + 1, 0, 2, some ⟨wr.heap.size + 1 + 1 + 1 + 1, 0, none⟩, wr.heap.size + 1 + 1 + 1 + 1, 0, 2⟩ else q k) (Z ++ upN (ringF f n s) (i + 1)) ∧ Lq (w.heap.size + 1) w1 (w5.setCell ⟨w.heap.size, 0, none⟩ (.slice (some ⟨gg, 0, none⟩) (f + i + 1) cap5)) (.slice (some ⟨gg, 0, none⟩) (f + i + 1) cap5) (fun k => if k = f + i then ⟨some ⟨wr.heap.size + 1 + 1 + 1, 0, none⟩, wr.heap.size + 1 + 1 + 1, 0, 2, some ⟨wr.heap.size + 1 + 1 + 1 + 1, 0, none⟩, wr.heap.size + 1 + 1 + 1 + 1, 0, 2⟩ else q k) (Z ++ upN (ringF f n s) (i + 1))) := by
      rw [HN1.out, show ringF f n s i = nodeL 3 [sN, s] [(f : Int), (f : Int)] from (by unfold ringF; rw [if_pos HLA.out])]
      have s1 := lq_step HQ1.out HLEN.out BZ ⟨some ⟨wr.heap.size + 1 + 1 + 1, 0, none⟩, wr.heap.size + 1 + 1 + 1, 0, 2, some ⟨wr.heap.size + 1 + 1 + 1 + 1, 0, none⟩, wr.heap.size + 1 + 1 + 1 + 1, 0, 2⟩ (nodeL 3 [sN, s] [(f : Int), (f : Int)]) NA.out (fun z => ⟨((fun _ => H1.out) z).1, ((fun _ => H1.out) z).2, by show wr.heap.size + 1 + 1 + 1 ≠ w.heap.size; omega⟩) (fun z => ⟨((fun _ => H2.out) z).1, ((fun _ => H2.out) z).2, by show wr.heap.size + 1 + 1 + 1 + 1 ≠ w.heap.size; omega⟩) hown5 hg5 (by simpa using hat5)
      have s2 := lq_step HQ2.out HLEN.out BZ ⟨some ⟨wr.heap.size + 1 + 1 + 1, 0, none⟩, wr.heap.size + 1 + 1 + 1, 0, 2, some ⟨wr.heap.size + 1 + 1 + 1 + 1, 0, none⟩, wr.heap.size + 1 + 1 + 1 + 1, 0, 2⟩ (nodeL 3 [sN, s] [(f : Int), (f : Int)]) NA.out (fun z => ⟨((fun _ => H1.out) z).1, ((fun _ => H1.out) z).2, by show wr.heap.size + 1 + 1 + 1 ≠ w.heap.size + 1; omega⟩) (fun z => ⟨((fun _ => H2.out) z).1, ((fun _ => H2.out) z).2, by show wr.heap.size + 1 + 1 + 1 + 1 ≠ w.heap.size + 1; omega⟩) hown5 hg5 (by simpa using hat5)
      exact ⟨lq_set s1 hw1 0 _, lq_set' s1 s2 hw1 0 _⟩
    have FR : Hid ((w5.setCell ⟨w.heap.size, 0, none⟩ (.slice (some ⟨gg, 0, none⟩) (f + i + 1) cap5)).rowIs w.heap.size 25 1 (fun _ => .slice (some ⟨gg, 0, none⟩) (f + i + 1) cap5) ∧ (w5.setCell ⟨w.heap.size, 0, none⟩ (.slice (some ⟨gg, 0, none⟩) (f + i + 1) cap5)).rowIs (w.heap.size + 1) 25 1 (fun _ => .slice none 0 0)) := by
      refine ⟨(R5.set 0 _).congr (fun j hj => ?_), (HRC.out.of_block (b5 _ hx2 HX2.out)).setOther (by show w.heap.size + 1 ≠ w.heap.size; omega) _⟩
      match j, hj with
      | 0, _ => rfl
    clear hown5 hg5 hat5 OWN OWNZ NA R5
    go_wp2
    go_roundw
    case rel => first | exact ⟨i + 1, (fun k => if k = f + i then ⟨some ⟨wr.heap.size + 1 + 1 + 1, 0, none⟩, wr.heap.size + 1 + 1 + 1, 0, 2, some ⟨wr.heap.size + 1 + 1 + 1 + 1, 0, none⟩, wr.heap.size + 1 + 1 + 1 + 1, 0, 2⟩ else q k), _, by omega, by go_num, FIN.out.1, FIN.out.2, FR.out.1, FR.out.2⟩ | exact ⟨i + 1, by omega, by go_num, (fun k => if k = f + i then ⟨some ⟨wr.heap.size + 1 + 1 + 1, 0, none⟩, wr.heap.size + 1 + 1 + 1, 0, 2, some ⟨wr.heap.size + 1 + 1 + 1 + 1, 0, none⟩, wr.heap.size + 1 + 1 + 1 + 1, 0, 2⟩ else q k), _, FIN.out.1, FIN.out.2, FR.out.1, FR.out.2⟩
    case measure => simp [intOf]; omega

end Go.Proofs.YtoanhnmpkonbfaaGreatDoor
