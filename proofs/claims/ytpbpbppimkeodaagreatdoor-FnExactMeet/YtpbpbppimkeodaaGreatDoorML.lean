/-
  Merged for the claim: Into Refine Third.
-/
import Derived.Test.YtpbpbppimkeodaaGreatDoorTake
import Derived.Test.YtpbpbppimkeodaaGreatDoorMC
namespace Go.Proofs.YtpbpbppimkeodaaGreatDoor
open Go.RowKit Go.Maps

/-- A row of lists of edges, of the call's own. -/
structure Into (w : World) (base bi N : Nat) (evs : Nat → Value) (E : Nat → List (Nat × Nat)) : Prop where
  row : w.rowIs bi 117 N evs
  inner : ∀ k, k < N → w.ownsRow base 144 2 (evs k) (E k).length (pcells (E k))
  dis : ∀ k l x, k < N → l < N → (evs k).ownBlock = some x → (evs l).ownBlock = some x → k = l
  far : ∀ k x, k < N → (evs k).ownBlock = some x → x ≠ bi
  big : base ≤ bi ∧ base ≤ w.heap.size

theorem Into.below {w w' : World} {base bi N : Nat} {evs : Nat → Value} {E : Nat → List (Nat × Nat)} (h : Into w base bi N evs E) (hb : Below w.heap.size w w') : Into w' base bi N evs E :=
  ⟨h.row.of_block (hb.block _ h.row.lt), fun k hk => own_block (h.inner k hk) (fun x e => hb.block x ((h.inner k hk).lt x e.symm).2), h.dis, h.far, ⟨h.big.1, Nat.le_trans h.big.2 hb.size⟩⟩

/-- One edge more. -/
theorem Into.put {w w3 : World} {base bi N cap gg cap3 k a b : Nat} {oa : Option Addr} {evs : Nat → Value} {E : Nat → List (Nat × Nat)} {o2 : Obj} (h : Into w base bi N evs E) (hk : k < N) (hv : evs k = .slice oa (E k).length cap)
    (hown3 : w3.ownsRow base 144 2 (.slice (some ⟨gg, 0, none⟩) ((E k).length + 1) cap3) ((E k).length + 1) (pcells (E k) ++ [.int .i64 (a : Int), .int .i64 (b : Int)]))
    (hg3 : (w.alloc o2).grownBy w3 (Value.slice oa (E k).length cap).ownBlock) (hat : (Value.slice oa (E k).length cap).ownBlock = some gg ∨ gg = w.heap.size + 1) :
    Into (w3.setCell ⟨bi, k, none⟩ (.slice (some ⟨gg, 0, none⟩) ((E k).length + 1) cap3)) base bi N (upd evs k (.slice (some ⟨gg, 0, none⟩) ((E k).length + 1) cap3)) (upd E k (E k ++ [(a, b)])) ∧ Below base w (w3.setCell ⟨bi, k, none⟩ (.slice (some ⟨gg, 0, none⟩) ((E k).length + 1) cap3)) := by
  have z3 := hg3.size
  have e3 : (w.alloc o2).heap.size = w.heap.size + 1 := by simp
  have hbl := h.row.lt
  have b3 : ∀ x, x < w.heap.size → some x ≠ (Value.slice oa (E k).length cap).ownBlock → w3.heap[x]? = w.heap[x]? := fun x hx hn => (hg3.block x (by rw [e3]; omega) hn).trans (Below.heap_alloc _ _ _ hx)
  have b4 : ∀ x, x ≠ bi → (w3.setCell ⟨bi, k, none⟩ (.slice (some ⟨gg, 0, none⟩) ((E k).length + 1) cap3)).heap[x]? = w3.heap[x]? := fun x hx => Below.heap_setCell _ _ _ _ (by show x ≠ bi; exact hx)
  have nbi : some bi ≠ (Value.slice oa (E k).length cap).ownBlock := fun e => h.far k bi hk (by rw [hv]; exact e.symm) rfl
  have ggb : gg ≠ bi := fun e => by
    rcases hat with q | q
    · exact nbi (by rw [q, e])
    · omega
  have old : ∀ l x, l < N → l ≠ k → (evs l).ownBlock = some x → x ≠ gg := fun l x hl hne hx e => by
    rcases hat with q | q
    · exact hne (h.dis l k x hl hk hx (by rw [hv, q, e]))
    · have := ((h.inner l hl).lt x hx).2; omega
  refine ⟨⟨?_, fun l hl => ?_, fun l m x hl hm h1 h2 => ?_, fun l x hl hx => ?_, ⟨h.big.1, by have := h.big.2; simp only [World.size_setCell]; omega⟩⟩, ⟨hg3.os, hg3.tape, hg3.output, by simp only [World.size_setCell]; omega, fun x hx => ?_⟩⟩
  · exact ((h.row.of_block (b3 bi hbl nbi)).set k _).congr (fun i _ => rfl)
  · by_cases e : l = k
    · subst e
      rw [upd_same, upd_same, List.length_append, pcells_snoc]
      exact own_block hown3 (fun x e => b4 x (by
        have : x = gg := by simpa [Value.ownBlock] using e
        omega))
    · rw [upd_other evs _ e, upd_other E _ e]
      exact own_block (h.inner l hl) (fun x q => by
        have hx := ((h.inner l hl).lt x q.symm).2
        rw [b4 x (h.far l x hl q.symm), b3 x hx (fun c => e (h.dis l k x hl hk q.symm (by rw [hv]; exact c.symm)))])
  · by_cases e1 : l = k
    · by_cases e2 : m = k
      · omega
      · rw [e1, upd_same] at h1
        rw [upd_other evs _ e2] at h2
        have : gg = x := by simpa [Value.ownBlock] using h1
        exact absurd this.symm (old m x hm e2 h2)
    · by_cases e2 : m = k
      · rw [e2, upd_same] at h2
        rw [upd_other evs _ e1] at h1
        have : gg = x := by simpa [Value.ownBlock] using h2
        exact absurd this.symm (old l x hl e1 h1)
      · rw [upd_other evs _ e1] at h1
        rw [upd_other evs _ e2] at h2
        exact h.dis l m x hl hm h1 h2
  · by_cases e : l = k
    · rw [e, upd_same] at hx
      have : gg = x := by simpa [Value.ownBlock] using hx
      omega
    · rw [upd_other evs _ e] at hx
      exact h.far l x hl hx
  · have h1 := h.big.1
    have h2 := h.big.2
    rw [b4 x (by omega), b3 x (by omega) (fun e => by have := ((h.inner k hk).lt x (by rw [hv]; exact e.symm)).1; omega)]

/-- The edges of the first i nodes, and of node i those of its first j kids, that lead into a node. -/
def edgesTill (G : Nat → ND) (i j k : Nat) : List (Nat × Nat) :=
  ((List.range i).flatMap fun x => ((List.range (G x).nk).filter fun y => kid (G x) y == k).map fun y => (y, x)) ++ (((List.range j).filter fun y => kid (G i) y == k).map fun y => (y, i))

theorem edgesTill_step (G : Nat → ND) (i j : Nat) : (fun k => edgesTill G i (j + 1) k) = upd (fun k => edgesTill G i j k) (kid (G i) j) (edgesTill G i j (kid (G i) j) ++ [(j, i)]) := by
  funext k
  unfold edgesTill upd
  rw [List.range_succ (n := j), List.filter_append, List.map_append]
  by_cases e : k = kid (G i) j
  · subst e
    simp
  · rw [if_neg e]
    have : (kid (G i) j == k) = false := by rw [beq_eq_false_iff_ne]; exact fun q => e q.symm
    simp [this]

theorem edgesTill_next (G : Nat → ND) (i k : Nat) : edgesTill G i (G i).nk k = edgesTill G (i + 1) 0 k := by
  unfold edgesTill
  rw [List.range_succ (n := i), List.flatMap_append]
  simp

theorem edgesTill_start (G : Nat → ND) (k : Nat) : edgesTill G 0 0 k = [] := rfl

/-- All edges into a node. -/
theorem mem_edges {G : Nat → ND} {N k j x : Nat} : (j, x) ∈ edgesTill G N 0 k ↔ x < N ∧ j < (G x).nk ∧ kid (G x) j = k := by
  unfold edgesTill
  simp [and_assoc]
  constructor
  · rintro ⟨a, h1, b, h2, h3, rfl, rfl⟩
    exact ⟨h1, h2, h3⟩
  · rintro ⟨h1, h2, h3⟩
    exact ⟨x, h1, j, h2, h3, rfl, rfl⟩

theorem edgesTill_len {G : Nat → ND} (k : Nat) : ∀ i j, (∀ x, x < i → (G x).nk ≤ 1048576) → (edgesTill G i j k).length ≤ i * 1048576 + j
  | 0, j, _ => by
    unfold edgesTill
    simp
    exact Nat.le_trans (List.length_filter_le _ _) (by simp)
  | i + 1, j, h => by
    have ih := edgesTill_len k i (G i).nk (fun x hx => h x (by omega))
    rw [edgesTill_next] at ih
    have hi := h i (by omega)
    have e : (edgesTill G (i + 1) j k).length ≤ (edgesTill G (i + 1) 0 k).length + j := by
      unfold edgesTill
      simp only [List.length_append, List.length_map, List.range_zero, List.filter_nil, List.length_nil, Nat.add_zero]
      have := List.length_filter_le (fun y => kid (G (i + 1)) y == k) (List.range j)
      rw [List.length_range] at this
      omega
    omega

theorem Tryz.info117 : (Tryz.prog.info? 117).map (fun i => (i.zero, i.size, i.bytes)) = some (some (.slice none 0 0), 1, 24) := by kernel_rfl
theorem Tryz.info144 : (Tryz.prog.info? 144).map (fun i => (i.zero, i.size, i.bytes)) = some (some (.agg #[.int .i64 0, .int .i64 0]), 2, 16) := by kernel_rfl

set_option maxRecDepth 100000 in
set_option maxHeartbeats 4000000 in
theorem c72 {N b o : Nat} {p : Nat → NP} {G : Nat → ND} (ao : Option Addr) (gc : Nat) (w : World) (hK : Kids N G) (hN : N ≤ 1048576) (hnk : ∀ i, i < N → (G i).nk ≤ 1048576) (hG : NodesAt w ao b o N p G) :
    Calls Tryz.prog 82 #[.agg #[.slice ao N gc]] w fun e w' => ∃ bi evs, e = .returned (.slice (some ⟨bi, 0, none⟩) N N) ∧ Into w' w.heap.size bi N evs (fun k => edgesTill G N 0 k) ∧ Below w.heap.size w w' := by
  have HG : Hid (NodesAt w ao b o N p G) := hG
  have HK : Hid (Kids N G) := hK
  have HNK : Hid (∀ i, i < N → (G i).nk ≤ 1048576) := hnk
  have A1 := hG.at_
  have hmk := run_make_row' (P := Tryz.prog) 110 117 (.slice none 0 0) 24 Tryz.underlying110 Tryz.info117 rfl .i64 .i64 N (by omega) (by omega)
  clear hG hK hnk
  obtain ⟨i0, hi0, hz0, hz1, hz2⟩ := info_parts Tryz.info144
  go_enter Tryz.func82, Tryz.ntmps82
  go_wp2
  clear hmk
  have ST : Into ((w.alloc (.cells #[.slice ao N gc] 29)).alloc (.cells (madeCells #[.slice none 0 0] N) 117)) w.heap.size (w.heap.size + 1) N (fun _ => .slice none 0 0) (fun k => edgesTill G 0 0 k) := by
    have R := World.rowIs_made (w.alloc (.cells #[.slice ao N gc] 29)) (.slice none 0 0) N 117
    simp only [World.size_alloc] at R
    exact ⟨R, fun k _ => World.ownsRow_nil _ _ _ _, fun k l x _ _ h _ => (by cases h), fun k x _ h => (by cases h), ⟨by omega, by simp; omega⟩⟩
  have B0 := bel2 w (.cells #[.slice ao N gc] 29) (.cells (madeCells #[.slice none 0 0] N) 117)
  go_loopw [15] (fun i wr => ∃ (k : Nat) (evs : Nat → Value), k ≤ N ∧ i = .int .i64 k ∧ Into wr w.heap.size (w.heap.size + 1) N evs (fun x => edgesTill G k 0 x) ∧ Below w.heap.size w wr) (fun i _ => N - (intOf i).toNat)
  case atStart => exact ⟨0, _, Nat.zero_le _, rfl, ST, B0⟩
  case round =>
    rename World => w0
    obtain ⟨k, evs, hk, rfl, hI, hb⟩ := hrel
    clear ST B0
    by_cases hlt : k < N
    case neg =>
      have hkk : k = N := by omega
      subst hkk
      have FIN : Hid (Into w0 w.heap.size (w.heap.size + 1) k evs (fun x => edgesTill G k 0 x) ∧ Below w.heap.size w w0) := ⟨hI, hb⟩
      clear hI hb
      go_wp2
      go_ret
      exact ⟨w.heap.size + 1, evs, rfl, FIN.out⟩
    have e1 := A1 (by omega)
    subst e1
    have NG := HG.out.below hb
    have g0 := NG.c0 k hlt
    have g1 := NG.c1 k hlt
    have g2 := NG.c2 k hlt
    have HKD : Hid (IntsAt w0 (p k).a2 (p k).b2 (p k).o2 (G k).nk (fun j => (kid (G k) j : Int))) := (NG.node k hlt).kids.congr (fun j hj => by have := HK.out k hlt j hj; unfold kid; omega)
    have HI0 : Hid (Into w0 w.heap.size (w.heap.size + 1) N evs (fun x => edgesTill G k 0 x)) := hI
    have hnkk := HNK.out k hlt
    obtain ⟨a2, ha2⟩ : ∃ a2, (p k).a2 = a2 := ⟨_, rfl⟩
    rw [ha2] at g2
    have HA2 : Hid (0 < (G k).nk → a2 = some ⟨(p k).b2, (p k).o2, none⟩) := by
      have := HKD.out.at_; rw [ha2] at this; exact this
    clear NG hI ha2
    go_wp2
    have ST : Into (w0.alloc (.cells #[.int .i64 (G k).kind, .slice (p k).a1 (G k).nn (p k).c1, .slice a2 (G k).nk (p k).c2] 48)) w.heap.size (w.heap.size + 1) N evs (fun x => edgesTill G k 0 x) := HI0.out.below (bel1 _ _)
    have BW : Below w.heap.size w (w0.alloc (.cells #[.int .i64 (G k).kind, .slice (p k).a1 (G k).nn (p k).c1, .slice a2 (G k).nk (p k).c2] 48)) := hb.trans ((bel1 w0 _).mono hb.size)
    clear hb g0 g1 g2
    go_loopw [23] (fun i wr => ∃ (j : Nat) (evs' : Nat → Value), j ≤ (G k).nk ∧ i = .int .i64 j ∧ Into wr w.heap.size (w.heap.size + 1) N evs' (fun x => edgesTill G k j x) ∧ Below w.heap.size w wr) (fun i _ => (G k).nk - (intOf i).toNat)
    case atStart => exact ⟨0, _, Nat.zero_le _, rfl, ST, BW⟩
    case round =>
      obtain ⟨j, ev2, hj, rfl, hI2, hb2⟩ := hrel
      clear ST BW
      by_cases hjl : j < (G k).nk
      case neg =>
        have hjj : j = (G k).nk := by omega
        have FIN : Hid (Into wr w.heap.size (w.heap.size + 1) N ev2 (fun x => edgesTill G (k + 1) 0 x) ∧ Below w.heap.size w wr) := by
          refine ⟨?_, hb2⟩
          have e : (fun x => edgesTill G k j x) = (fun x => edgesTill G (k + 1) 0 x) := by funext x; rw [hjj]; exact edgesTill_next G k x
          rw [← e]; exact hI2
        clear hI2 hb2 hjj
        go_wp2
        go_roundw
        case rel => exact ⟨k + 1, ev2, by omega, by go_num, FIN.out⟩
        case measure => simp [intOf]; omega
      have hkN : kid (G k) j < N := HK.out.lt hlt hjl
      obtain ⟨q, hq⟩ : ∃ q, q = kid (G k) j := ⟨_, rfl⟩
      have HQ : Hid (q = kid (G k) j) := hq
      have ea := HA2.out (by omega)
      subst ea
      have gk : wr.cell? ⟨(p k).b2, (p k).o2 + j, none⟩ = some (.int .i64 (q : Int)) := by
        have h1 := ((HG.out.below hb2).node k hlt).kids.cell j hjl
        rw [h1, hq]
        have := HK.out k hlt j hjl
        congr 2
        unfold kid; omega
      rw [← hq] at hkN
      obtain ⟨oa, cap, hv⟩ := own_form (hI2.inner q hkN)
      have HV : Hid (ev2 q = .slice oa (edgesTill G k j q).length cap) := hv
      obtain ⟨L, hL⟩ : ∃ L, L = (edgesTill G k j q).length := ⟨_, rfl⟩
      have HL : Hid (L = (edgesTill G k j q).length) := hL
      have hLb : L ≤ 1099512676352 := by
        have h1 := edgesTill_len (G := G) q k j (fun x hx => HNK.out x (by omega))
        have h2 : k * 1048576 ≤ 1048576 * 1048576 := Nat.mul_le_mul_right _ (by omega)
        omega
      have OWN := hI2.inner q hkN
      rw [hv, ← hL] at OWN
      have c0 : wr.cell? ⟨w.heap.size + 1, q, none⟩ = some (.slice oa L cap) := by rw [hI2.row.cell hkN, hv, ← hL]
      have c1 := hI2.row.frozen q
      have nbi : some (w.heap.size + 1) ≠ (Value.slice oa L cap).ownBlock := fun e => hI2.far q _ hkN (by rw [hv, ← hL]; exact e.symm) rfl
      have hbl := hI2.row.lt
      have hbase : w.heap.size ≤ wr.heap.size := hb2.size
      have HI2 : Hid (Into wr w.heap.size (w.heap.size + 1) N ev2 (fun x => edgesTill G k j x)) := hI2
      have HB2 : Hid (Below w.heap.size w wr) := hb2
      have hqN : (q : Int) < (N : Int) := by omega
      have hjn : (j : Int) < ((G k).nk : Int) := by omega
      clear hq hv hL hI2 hb2
      go_wp2_with (first | (at_builtin; refine wpList_append_lies _ rfl _ _ 117 rfl w.heap.size 144 i0 _ 2 16 Tryz.underlying117 hi0 hz0 hz1 hz2 rfl (by omega) (.slice oa L cap) L (pcells (edgesTill G k j q)) rfl (OWN.alloc _) ⟨wr.heap.size, 0, none⟩ 1 1 [.int .i64 (j : Int), .int .i64 (k : Int)] rfl rfl (World.news_of_block (cs := #[.int .i64 (j : Int), .int .i64 (k : Int)]) (t := 144) (fr := (0, 0)) (heap_alloc_new wr _)) (by simp [Value.oneCell']) (by omega) (by unfold maxLen; omega) (by omega) (by simp; omega) (wr.heap.size + 1) (by simp) ?_; intro gg cap3 w3 hown3 hg3 hat hlt3; have R3 : w3.heap[w.heap.size + 1]? = wr.heap[w.heap.size + 1]? := (hg3.block _ (by simp; omega) nbi).trans (Below.heap_alloc _ _ _ hbl); have y0 : w3.cell? ⟨w.heap.size + 1, q, none⟩ = some (.slice oa L cap) := (World.cell?_of_block R3).trans c0; have y1 : w3.frozen? ⟨w.heap.size + 1, q, none⟩ = false := (World.frozen?_of_block R3).trans c1))
      have FIN : Hid (Into (w3.setCell ⟨w.heap.size + 1, q, none⟩ (.slice (some ⟨gg, 0, none⟩) (L + 1) cap3)) w.heap.size (w.heap.size + 1) N (upd ev2 q (.slice (some ⟨gg, 0, none⟩) (L + 1) cap3)) (fun x => edgesTill G k (j + 1) x) ∧ Below w.heap.size w (w3.setCell ⟨w.heap.size + 1, q, none⟩ (.slice (some ⟨gg, 0, none⟩) (L + 1) cap3))) := by
        rw [HL.out] at hown3 hg3 hat ⊢
        have h1 := Into.put (a := j) (b := k) (o2 := .cells #[.int .i64 (j : Int), .int .i64 (k : Int)] 144) HI2.out hkN HV.out hown3 ⟨hg3.os, hg3.tape, hg3.output, hg3.size, hg3.block⟩ hat
        have e := edgesTill_step G k j
        rw [← HQ.out] at e
        rw [e]
        exact ⟨h1.1, HB2.out.trans h1.2⟩
      clear hown3 hg3 hat R3 y0 y1 c0 c1 OWN gk
      go_wp2
      go_roundw
      case rel => exact ⟨j + 1, _, by omega, by go_num, FIN.out⟩
      case measure => simp [intOf]; omega

end Go.Proofs.YtpbpbppimkeodaaGreatDoor

namespace Go.Proofs.YtpbpbppimkeodaaGreatDoor

/-- The parts behind a split. -/
def splitS (s : PS) (es : Nat → Nat × Nat) (m : Nat) : PS := waitAll (stAt s es m m).s (stAt s es m m).dv

/-- A part that is one, and waits. -/
def wt (s : PS) (q : Nat) : Prop := q < s.nr ∧ s.waits q = true

/-- What stays in order. -/
structure Ok (N : Nat) (s : PS) : Prop where
  wf : Wf N s
  full : Full N s
  wq : Wq s

theorem settle_cnt (lv : Nat → Nat) (st : SpS) (q : Nat) : (settle lv st q).s.nr + st.dv.length = st.s.nr + (settle lv st q).dv.length := by
  unfold settle
  split
  · rfl
  · split
    · show st.s.nr + 1 + st.dv.length = st.s.nr + (st.dv ++ [_]).length
      simp; omega
    · rfl

theorem stAt_count (s : PS) (es : Nat → Nat × Nat) (m : Nat) : ∀ j, (stAt s es m j).s.nr = s.nr + (stAt s es m j).dv.length
  | 0 => rfl
  | j + 1 => by
    have h := stAt_count s es m j
    rw [stAt_succ]
    obtain ⟨_, e2, _, e4⟩ := goes_np (settle (cnt s es m) (stAt s es m j) ((stAt s es m j).s.of (es j).2)) (es j).2
    rw [e2, e4]
    have := settle_cnt (cnt s es m) (stAt s es m j) ((stAt s es m j).s.of (es j).2)
    omega

section
variable {N : Nat} {s : PS} {es : Nat → Nat × Nat} {m : Nat}

theorem split_nr : (splitS s es m).nr = s.nr + (stAt s es m m).dv.length := by
  unfold splitS
  rw [(waitAll_same _ _).2.2.1]
  exact stAt_count s es m m

theorem dv_lt (hW : Wf N s) (hf : ∀ i, i < m → (es i).2 < N) (hd : (nodesOf es m).Nodup) : ∀ d, d ∈ (stAt s es m m).dv → d.1 < (stAt s es m m).s.nr ∧ d.2 < (stAt s es m m).s.nr := by
  have h := stAt_si hW hf hd (Nat.le_refl m)
  rintro ⟨q, t⟩ hm
  obtain ⟨h1, h2⟩ := (h.dv q t).1 hm
  obtain ⟨a1, a2, _⟩ := h.np q t h1
  have := h.nr
  refine ⟨by show q < _; omega, ?_⟩
  rcases a2 with c | c
  · exact absurd c h2
  · exact c.2

theorem stAt_wq (hW : Wf N s) (hq : Wq s) (hf : ∀ i, i < m → (es i).2 < N) (hd : (nodesOf es m).Nodup) : Wq (stAt s es m m).s := by
  have h := stAt_si hW hf hd (Nat.le_refl m)
  have hn := h.nr
  refine ⟨fun q e => ?_, fun q hlt => ?_, by rw [h.waiting]; exact hq.nodup⟩
  · rw [h.waiting] at e
    have := hq.lt q e
    omega
  · rw [h.waiting]
    by_cases c : q < s.nr
    · rw [h.waits q c]; exact hq.iff q c
    · rw [h.fresh q (by omega) hlt]
      exact ⟨fun e => (by cases e), fun e => absurd (hq.lt q e) c⟩

theorem split_okay (h : Ok N s) (hf : ∀ i, i < m → (es i).2 < N) (hd : (nodesOf es m).Nodup) : Ok N (splitS s es m) :=
  ⟨wait_wf (stAt_si h.wf hf hd (Nat.le_refl m)).wf _, full_split h.wf h.full hf hd, wq_waitAll _ (stAt_wq h.wf h.wq hf hd) (dv_lt h.wf hf hd)⟩

theorem split_waiting (hW : Wf N s) (hf : ∀ i, i < m → (es i).2 < N) (hd : (nodesOf es m).Nodup) : (splitS s es m).waiting.length + s.nr ≤ s.waiting.length + (splitS s es m).nr := by
  have h1 := waitAll_len (stAt s es m m).dv (stAt s es m m).s
  rw [(stAt_si hW hf hd (Nat.le_refl m)).waiting] at h1
  have h2 := split_nr (s := s) (es := es) (m := m)
  show (waitAll (stAt s es m m).s (stAt s es m m).dv).waiting.length + _ ≤ _
  omega

/-- The split, of the parts that are there. -/
theorem split_is (h : Ok N s) (hf : ∀ i, i < m → (es i).2 < N) (hd : (nodesOf es m).Nodup) {X : Nat → Prop} (hX : ∀ x, x < N → (x ∈ nodesOf es m ↔ X x)) :
    Split N s.of (splitS s es m).of (wt s) (wt (splitS s es m)) X := by
  have hs := stAt_si h.wf hf hd (Nat.le_refl m)
  rw [cnt_leaves] at hs
  have k := split_ok h.wf (nodes_all hf (Nat.le_refl m)) hd hs
  have o := (split_okay h hf hd).wf
  refine ⟨fun x y hx hy => ?_, fun x hx w => ⟨o.lt x hx, k.old x hx w.2⟩, fun x y hx hy e ne => ?_⟩
  · rw [← hX x hx, ← hX y hy]; exact k.part x y hx hy
  · rcases k.one x y hx hy e ne with c | c
    · exact Or.inl ⟨o.lt x hx, c⟩
    · exact Or.inr ⟨o.lt y hy, c⟩
end

/-- All places are worked off: at the others no edge leads into C. -/
theorem Stab.over2 {N : Nat} {G : Nat → ND} {of : Nat → Nat} {waits : Nat → Prop} {C pend C' : Nat → Prop} (hP : Parts N G of) (h : Stab N G of waits C pend) (hn : ∀ j, pend j → ∀ x, x < N → j < (G x).nk → ¬ C (kid (G x) j)) : Stab N G of waits C' (fun _ => False) :=
  fun x y hx hy e j hj hw _ => h x y hx hy e j hj hw (fun hp => by
    have hj' : j < (G y).nk := by rw [← (hP.lab x y hx hy e).nk]; exact hj
    exact ⟨fun c => absurd c (hn j hp x hx hj), fun c => absurd c (hn j hp y hy hj')⟩)

/-- The edges into a set of nodes, in the order of their places. -/
structure Edges (N : Nat) (G : Nat → ND) (C : Nat → Prop) (m : Nat) (es : Nat → Nat × Nat) : Prop where
  into : ∀ i, i < m → (es i).2 < N ∧ (es i).1 < (G (es i).2).nk ∧ C (kid (G (es i).2) (es i).1)
  all : ∀ x j, x < N → j < (G x).nk → C (kid (G x) j) → ∃ i, i < m ∧ es i = (j, x)
  once : ∀ i k, i < m → k < m → es i = es k → i = k
  sorted : ∀ i k, i < k → k < m → (es i).1 ≤ (es k).1

/-- What holds between two runs. -/
structure Run (N : Nat) (G : Nat → ND) (C : Nat → Prop) (m : Nat) (es : Nat → Nat × Nat) (s : PS) (r : Nat) : Prop where
  ok : Ok N s
  parts : Parts N G s.of
  stab : Stab N G s.of (wt s) C (fun j => ∀ i, i < r → (es i).1 ≠ j)
  cut : ∀ i, i < r → r < m → (es i).1 < (es r).1
  le : r ≤ m

theorem run_nodup {N : Nat} {G : Nat → ND} {C : Nat → Prop} {m : Nat} {es : Nat → Nat × Nat} (hE : Edges N G C m es) {r e : Nat} (he : e ≤ m) (hr : r ≤ e) (hp : ∀ i, r ≤ i → i < e → (es i).1 = (es r).1) : (nodesOf (fun i => es (r + i)) (e - r)).Nodup := by
  unfold nodesOf
  rw [List.Nodup, List.pairwise_iff_getElem]
  intro i j hi hj hij
  simp only [List.length_map, List.length_range] at hi hj
  simp only [List.getElem_map, List.getElem_range]
  intro c
  have h1 := hp (r + i) (by omega) (by omega)
  have h2 := hp (r + j) (by omega) (by omega)
  have := hE.once (r + i) (r + j) (by omega) (by omega) (Prod.ext (h1.trans h2.symm) c)
  omega

theorem run_step {N : Nat} {G : Nat → ND} {C : Nat → Prop} {m : Nat} {es : Nat → Nat × Nat} {s : PS} {r e : Nat} (hK : Kids N G) (hC : ∀ u v, u < N → v < N → Same N G u v → (C u ↔ C v)) (hE : Edges N G C m es) (h : Run N G C m es s r) (hr : r < e) (he : e ≤ m)
    (hp : ∀ i, r ≤ i → i < e → (es i).1 = (es r).1) (hend : e < m → (es e).1 ≠ (es r).1) : Run N G C m es (splitS s (fun i => es (r + i)) (e - r)) e := by
  have hf : ∀ i, i < e - r → (es (r + i)).2 < N := fun i hi => (hE.into (r + i) (by omega)).1
  have hd := run_nodup hE he (Nat.le_of_lt hr) hp
  have hX : ∀ x, x < N → (x ∈ nodesOf (fun i => es (r + i)) (e - r) ↔ (es r).1 < (G x).nk ∧ C (kid (G x) (es r).1)) := by
    intro x hx
    constructor
    · intro hm
      obtain ⟨i, hi, rfl⟩ := nodes_mem hm
      obtain ⟨_, h2, h3⟩ := hE.into (r + i) (by omega)
      rw [hp (r + i) (by omega) (by omega)] at h2 h3
      exact ⟨h2, h3⟩
    · rintro ⟨h1, h2⟩
      obtain ⟨i, hi, ei⟩ := hE.all x (es r).1 hx h1 h2
      have p1 : (es i).1 = (es r).1 := by rw [ei]
      have g1 : r ≤ i := by
        apply Classical.byContradiction
        intro c
        have := h.cut i (by omega) (by omega)
        omega
      have g2 : i < e := by
        apply Classical.byContradiction
        intro c
        have k1 := hE.sorted r e hr (by omega)
        have k2 := hend (by omega)
        by_cases ce : i = e
        · subst ce; exact k2 p1
        · have := hE.sorted e i (by omega) hi
          omega
      refine List.mem_map.2 ⟨i - r, List.mem_range.2 (by omega), ?_⟩
      show (es (r + (i - r))).2 = x
      rw [show r + (i - r) = i by omega, ei]
  have sp := split_is h.ok hf hd hX
  refine ⟨split_okay h.ok hf hd, h.parts.split hK hC sp, ?_, fun i hi hlt => ?_, he⟩
  · have := h.stab.split hK h.parts sp
    intro x y hx hy e1 j hj hw hc
    refine this x y hx hy e1 j hj hw (fun hpd => hc (fun i hi => ?_))
    by_cases c : i < r
    · exact hpd.1 i c
    · rw [hp i (by omega) hi]; exact fun c' => hpd.2 c'.symm
  · have k1 := hE.sorted r e hr hlt
    have k2 := hend hlt
    by_cases c : i < r
    · have := h.cut i c (by omega)
      omega
    · rw [hp i (by omega) hi]; omega

/-- A part is popped. -/
def popS (s : PS) (P : Nat) : PS := { s with waits := upd s.waits P false, waiting := s.waiting.dropLast }

theorem pop_ok {N : Nat} {s : PS} (h : Ok N s) {P : Nat} (hl : s.waiting.getLast? = some P) : Ok N (popS s P) := by
  obtain ⟨ys, hy⟩ : ∃ ys, s.waiting = ys ++ [P] := List.getLast?_eq_some_iff.1 hl
  have hn := h.wq.nodup
  rw [hy, List.nodup_append] at hn
  have hd : s.waiting.dropLast = ys := by rw [hy]; simp
  refine ⟨⟨h.wf.lt, h.wf.here, h.wf.row⟩, h.full, ⟨fun q hq => ?_, fun q hq => ?_, ?_⟩⟩
  · have hq' : q ∈ ys := by rw [← hd]; exact hq
    exact h.wq.lt q (by rw [hy]; exact List.mem_append.2 (Or.inl hq'))
  · show upd s.waits P false q = true ↔ q ∈ s.waiting.dropLast
    rw [hd]
    by_cases c : q = P
    · subst c
      rw [upd_same]
      exact ⟨fun e => (by cases e), fun e => absurd rfl (hn.2.2 q e q (by simp))⟩
    · rw [upd_other _ _ c, h.wq.iff q hq, hy]
      simp [c]
  · show s.waiting.dropLast.Nodup
    rw [hd]; exact hn.1

theorem pop_run {N : Nat} {G : Nat → ND} {s : PS} {m : Nat} {es : Nat → Nat × Nat} {C0 : Nat → Prop} (h : Ok N s) (hp : Parts N G s.of) (hs : Stab N G s.of (wt s) C0 (fun _ => False)) {P : Nat} (hl : s.waiting.getLast? = some P) : Run N G (fun u => s.of u = P) m es (popS s P) 0 := by
  refine ⟨pop_ok h hl, hp, ?_, fun i hi => absurd hi (Nat.not_lt_zero _), Nat.zero_le _⟩
  have := hs.pop P
  intro x y hx hy e j hj hw hc
  refine this x y hx hy e j hj (fun q hq => ?_) (fun _ => hc (fun i hi => absurd hi (Nat.not_lt_zero _)))
  exact hw q ⟨hq.1.1, by show upd s.waits P false q = true; rw [upd_other _ _ hq.2]; exact hq.1.2⟩

/-- A part is worked off. -/
theorem run_over {N : Nat} {G : Nat → ND} {C C' : Nat → Prop} {m : Nat} {es : Nat → Nat × Nat} {s : PS} (hE : Edges N G C m es) (h : Run N G C m es s m) : Stab N G s.of (wt s) C' (fun _ => False) :=
  h.stab.over2 h.parts (fun j hp x hx hj c => by
    obtain ⟨i, hi, e⟩ := hE.all x j hx hj c
    exact hp i hi (by rw [e]))

end Go.Proofs.YtpbpbppimkeodaaGreatDoor

namespace Go.Proofs.YtpbpbppimkeodaaGreatDoor
open Go.RowKit Go.Maps

theorem pcells_at {ord : List (Nat × Nat)} : ∀ {i : Nat} {q : Nat × Nat}, ord[i]? = some q → (pcells ord)[i * 2]? = some (.int .i64 (q.1 : Int)) ∧ (pcells ord)[i * 2 + 1]? = some (.int .i64 (q.2 : Int)) := by
  induction ord with
  | nil => intro i q h; simp at h
  | cons z t ih =>
    intro i q h
    cases i with
    | zero => simp at h; subst h; simp [pcells]
    | succ i =>
      have h' : t[i]? = some q := by simpa using h
      obtain ⟨h1, h2⟩ := ih h'
      have e : pcells (z :: t) = .int .i64 (z.1 : Int) :: .int .i64 (z.2 : Int) :: pcells t := by simp [pcells]
      rw [e]
      refine ⟨?_, ?_⟩
      · rw [show (i + 1) * 2 = i * 2 + 1 + 1 from by omega]; simpa using h1
      · rw [show (i + 1) * 2 + 1 = i * 2 + 1 + 1 + 1 from by omega]; simpa using h2

/-- The cells of a pair in its place. -/
theorem own_pair {w : World} {base : Nat} {e : TypeId} {ov : Value} {ord : List (Nat × Nat)} (h : w.ownsRow base e 2 ov ord.length (pcells ord)) {i : Nat} {q : Nat × Nat} (hq : ord[i]? = some q) :
    ∃ g cap, ov = .slice (some ⟨g, 0, none⟩) ord.length cap ∧ w.cell? ⟨g, i * 2, none⟩ = some (.int .i64 (q.1 : Int)) ∧ w.cell? ⟨g, i * 2 + 1, none⟩ = some (.int .i64 (q.2 : Int)) := by
  obtain ⟨hlt, _⟩ := List.getElem?_eq_some_iff.1 hq
  rcases h.2 with ⟨_, h0⟩ | ⟨g, cap, _, rfl, _⟩
  · omega
  · have hc := pcells_at hq
    exact ⟨g, cap, rfl, by rw [h.cellAt _ (by omega)]; exact hc.1, by rw [h.cellAt _ (by omega)]; exact hc.2⟩

/-- A part waits: already, or from now on. -/
theorem c96 (base pb bo ba N : Nat) (rv wv qv : Value) (rvs : Nat → Value) (s : PS) (part : Nat) (w : World) (h : Pt w base pb bo ba N rv wv qv rvs s) (hp : part < s.nr) (hr : s.nr ≤ 1048576) (hq : s.waiting.length ≤ 1048576) :
    Calls Tryz.prog 103 #[.pointer (some ⟨pb, 0, none⟩), .int .i64 (part : Int)] w fun e w' => e = .returned (.tuple #[]) ∧ ∃ qv', Pt w' base pb bo ba N rv wv qv' rvs (waitS s part) ∧ Fr base w w' (pblk pb bo ba rv wv qv rvs s.nr) (pblk pb bo ba rv wv qv' rvs (waitS s part).nr) := by
  cases hw : s.waits part
  · have e : waitS s part = { s with waits := upd s.waits part true, waiting := s.waiting ++ [part] } := by unfold waitS; rw [if_neg (by rw [hw]; exact Bool.false_ne_true)]
    rw [e]
    exact c96n base pb bo ba N rv wv qv rvs s part w h hp hr hq hw
  · have e : waitS s part = s := by unfold waitS; rw [if_pos hw]
    rw [e]
    refine (c96o base pb bo ba N rv wv qv rvs s part w h hp hr hw).mono ?_
    rintro e' w' ⟨rfl, k, rfl⟩
    have B : Below w.heap.size w (w.drewN k) := below_drewN (Below.refl _ _) k
    exact ⟨rfl, qv, h.below B, Fr.of_below _ h.big.2.2.2 B⟩

theorem waitAll_take {dv : List (Nat × Nat)} {k : Nat} {d : Nat × Nat} (h : dv[k]? = some d) (s : PS) : waitAll s (dv.take (k + 1)) = waitOne (waitAll s (dv.take k)) d := by
  have hk := (List.getElem?_eq_some_iff.1 h).1
  have e : dv.take (k + 1) = dv.take k ++ [d] := by
    rw [List.take_add_one, h]; rfl
  unfold waitAll
  rw [e, List.foldl_append]; rfl

theorem waitOne_yes {s : PS} {d : Nat × Nat} (h : s.waits d.1 = true ∨ (s.rows d.2).length ≤ (s.rows d.1).length) : waitOne s d = waitS s d.2 := by
  unfold waitOne
  rw [if_pos]
  rcases h with h | h <;> simp [h]
theorem waitOne_no {s : PS} {d : Nat × Nat} (h1 : s.waits d.1 = false) (h2 : ¬ (s.rows d.2).length ≤ (s.rows d.1).length) : waitOne s d = waitS s d.1 := by
  unfold waitOne
  rw [if_neg]
  simp [h1]; omega

theorem waitAll_take_len (dv : List (Nat × Nat)) (s : PS) (k : Nat) : (waitAll s (dv.take k)).waiting.length ≤ s.waiting.length + dv.length := by
  have h1 := waitAll_len (dv.take k) s
  have h2 : (dv.take k).length ≤ dv.length := by rw [List.length_take]; exact Nat.min_le_right _ _
  omega

end Go.Proofs.YtpbpbppimkeodaaGreatDoor

