/-
  Merged for the claim: JoY0 ExA ME.
-/
import Derived.Test.YtpbpbppimkeodaaGreatDoorJoF
import Derived.Test.YtpbpbppimkeodaaGreatDoorJoX
import Derived.Test.YtpbpbppimkeodaaGreatDoorCoG
import Derived.Deep.RegionHeld3
import Derived.BigQuiet
import Derived.Test.YtpbpbppimkeodaaGreatDoorMP
import Derived.Test.YtpbpbppimkeodaaGreatDoorCls
namespace Go.Proofs.YtpbpbppimkeodaaGreatDoor
open Go.RowKit Go.Maps

def ns2 (a b : Nat) (i : Nat) : Nat := if i = 0 then a else b

/-- A list of questions as the model has it. -/
theorem own_bl {w : World} {base : Nat} {oa : Option Addr} {n cap : Nat} {ks : List Kq} (h : w.ownsRow base 81 3 (.slice oa n cap) n (kcells ks)) (hl : ks.length = n) (d : Kq) : ∃ g, BlAt w oa g n (fun i => ks.getD i d) ∧ (0 < n → base ≤ g ∧ g < w.heap.size ∧ (Value.slice oa n cap).ownBlock = some g) := by
  obtain ⟨h1, h2⟩ := h
  have kc : ∀ (l : List Kq) (i : Nat), i < l.length → ∀ j, j < 3 → (kcells l)[i * 3 + j]? = (kcell (l.getD i d))[j]? := by
    intro l
    induction l with
    | nil => intro i hi; simp at hi
    | cons x t ih =>
      intro i hi j hj
      have e3 : (kcell x).length = 3 := by cases x <;> rfl
      have hc : kcells (x :: t) = kcell x ++ kcells t := rfl
      rw [hc]
      cases i with
      | zero =>
        rw [Nat.zero_mul, Nat.zero_add, List.getElem?_append_left (by omega)]
        rfl
      | succ i =>
        rw [show (i + 1) * 3 + j = 3 + (i * 3 + j) from by omega, List.getElem?_append_right (by omega), e3, show 3 + (i * 3 + j) - 3 = i * 3 + j from by omega, ih i (by simpa using hi) j hj]
        simp
  rcases h2 with ⟨hv, hn⟩ | ⟨g, cap', cur, hv, hb, hh, hc, hm, hs, ht⟩
  · exact ⟨0, ⟨fun z => absurd z (by omega), fun i z => absurd z (by omega), by omega⟩, fun z => absurd z (by omega)⟩
  · simp only [Value.slice.injEq] at hv
    have eg : (Value.slice oa n cap).ownBlock = some g := by rw [hv.1]; rfl
    refine ⟨g, ⟨fun _ => hv.1, fun i hi j hj => ?_, by unfold maxLen at hm; omega⟩, fun _ => ⟨hb, (Array.getElem?_eq_some_iff.1 hh).1, eg⟩⟩
    have k1 := kc ks i (by omega) j hj
    have l3 : (kcell (ks.getD i d)).length = 3 := by cases ks.getD i d <;> rfl
    obtain ⟨u, hu⟩ : ∃ u, (kcell (ks.getD i d))[j]? = some u := ⟨_, List.getElem?_eq_getElem (by omega)⟩
    rw [hu] at k1 ⊢
    rw [← ht, List.getElem?_take, if_pos (by omega), Array.getElem?_toList] at k1
    simp [World.cell?, hh, k1]

theorem getD_qn (L : List Qn) (q : Qn) (i : Nat) : (L.map Kq.qn).getD i (.qn q) = .qn (L.getD i q) := by
  rw [List.getD_eq_getElem?_getD, List.getD_eq_getElem?_getD, List.getElem?_map]
  cases L[i]? <;> rfl

theorem own_bq {w : World} {base : Nat} {oa : Option Addr} {n cap : Nat} {L : List Qn} (h : w.ownsRow base 81 3 (.slice oa n cap) n (kcells (L.map Kq.qn))) (hl : L.length = n) (q : Qn) : ∃ g, BlAt w oa g n (fun i => .qn (L.getD i q)) ∧ (0 < n → base ≤ g ∧ g < w.heap.size ∧ (Value.slice oa n cap).ownBlock = some g) := by
  obtain ⟨g, B, z⟩ := own_bl h (by rw [List.length_map]; exact hl) (.qn q)
  refine ⟨g, ⟨B.at_, fun i hi j hj => ?_, B.len⟩, z⟩
  have := B.c i hi j hj
  rw [this, getD_qn]

/-- What the model's mixture gives. -/
def MMixPost (w : World) (N : Nat) (G : Nat → ND) (a b : Nat) (up : Bool) (e : Ending) (w' : World) : Prop :=
  ∃ (cm r : Nat → Nat), (∀ x y, x < N → y < N → (cm x = cm y ↔ Same N G x y)) ∧
    (∀ t, t < (allTill G cm (N + 1) (ns2 a b) [] 2).length → r t < N ∧ (cm (r t) : Int) = ((((allTill G cm (N + 1) (ns2 a b) [] 2).map cm).getD t 0 : Nat) : Int)) ∧
    Below w.heap.size w w' ∧
    ((∃ k, OverQ (mN G cm (allTill G cm (N + 1) (ns2 a b) [] 2) r) ⟨numOf cm (allTill G cm (N + 1) (ns2 a b) [] 2) a, numOf cm (allTill G cm (N + 1) (ns2 a b) [] 2) b, up⟩ k ∧
        ∃ nb, e = .returned (.tuple #[.agg #[.slice (some ⟨nb, 0, none⟩) 1 1], .int .i64 0]) ∧ NodesAt w' (some ⟨nb, 0, none⟩) nb 0 1 (fun _ => np0) (fun _ => mkN 0)) ∨
     (∃ k, FullQ (mN G cm (allTill G cm (N + 1) (ns2 a b) [] 2) r) ⟨numOf cm (allTill G cm (N + 1) (ns2 a b) [] 2) a, numOf cm (allTill G cm (N + 1) (ns2 a b) [] 2) b, up⟩ k ∧
        ∃ (n' : Nat) (G' : Nat → ND), n' = (allTill G cm (N + 1) (ns2 a b) [] 2).length + k ∧ G' = mixG (allTill G cm (N + 1) (ns2 a b) [] 2).length (mN G cm (allTill G cm (N + 1) (ns2 a b) [] 2) r) (qsTill (mN G cm (allTill G cm (N + 1) (ns2 a b) [] 2) r) ⟨numOf cm (allTill G cm (N + 1) (ns2 a b) [] 2) a, numOf cm (allTill G cm (N + 1) (ns2 a b) [] 2) b, up⟩ k) ⟨numOf cm (allTill G cm (N + 1) (ns2 a b) [] 2) a, numOf cm (allTill G cm (N + 1) (ns2 a b) [] 2) b, up⟩ ∧
        ∃ (c2 r2 : Nat → Nat), (∀ x y, x < n' → y < n' → (c2 x = c2 y ↔ Same n' G' x y)) ∧
          (∀ t, t < (allTill G' c2 (n' + 1) (fun _ => (allTill G cm (N + 1) (ns2 a b) [] 2).length) [] 1).length → r2 t < n' ∧ (c2 (r2 t) : Int) = ((((allTill G' c2 (n' + 1) (fun _ => (allTill G cm (N + 1) (ns2 a b) [] 2).length) [] 1).map c2).getD t 0 : Nat) : Int)) ∧
          ∃ (oa : Option Addr) (b' cap : Nat) (q : Nat → NP), e = .returned (.tuple #[.agg #[.slice oa (allTill G' c2 (n' + 1) (fun _ => (allTill G cm (N + 1) (ns2 a b) [] 2).length) [] 1).length cap], .int .i64 (numOf c2 (allTill G' c2 (n' + 1) (fun _ => (allTill G cm (N + 1) (ns2 a b) [] 2).length) [] 1) (allTill G cm (N + 1) (ns2 a b) [] 2).length : Int)]) ∧
            NodesAt w' oa b' 0 (allTill G' c2 (n' + 1) (fun _ => (allTill G cm (N + 1) (ns2 a b) [] 2).length) [] 1).length q (mN G' c2 (allTill G' c2 (n' + 1) (fun _ => (allTill G cm (N + 1) (ns2 a b) [] 2).length) [] 1) r2)))

end Go.Proofs.YtpbpbppimkeodaaGreatDoor

namespace Go.Proofs.YtpbpbppimkeodaaGreatDoor
open Go.RowKit Go.Maps

/-- What an empty answer is. -/
def NoCanon (w : World) (e : Ending) (w' : World) : Prop := ∃ lb : Nat, e = .returned (.tuple #[.agg #[.slice none 0 0], .slice (some ⟨lb, 0, none⟩) 0 0]) ∧ Below w.heap.size w w'

set_option maxRecDepth 100000 in
set_option maxHeartbeats 8000000 in
theorem w_canon_bad {N b o : Nat} {p : Nat → NP} {G : Nat → ND} (ao ra : Option Addr) (gc R rc rl ro : Nat) (D : Nat → Int) (w : World) (hR : R ≤ 1048576) (hN : N ≤ 1048576)
    (hbad : vgr N G = false ∨ 2000 < R ∨ kok R D N = false) (hG : NodesAt w ao b o N p G) (hI : IntsAt w ra rl ro R D) :
    Calls Tryz.prog 11 #[.agg #[.slice ao N gc], .slice ra R rc] w (NoCanon w) := by
  have HG : Hid (∀ w', Below w.heap.size w w' → NodesAt w' ao b o N p G) := fun w' hb => hG.below hb
  have HI : Hid (∀ w', Below w.heap.size w w' → IntsAt w' ra rl ro R D) := fun w' hb => hI.below hb
  clear hG hI
  obtain ⟨W0, hW0⟩ : ∃ W0, W0 = (w.alloc (.cells #[.slice ao N gc] 29)).alloc (.cells #[.slice none 0 0] 29) := ⟨_, rfl⟩
  have B0 : Below w.heap.size w W0 := by rw [hW0]; exact bel2 _ _ _
  have z0 : w.heap.size + 1 < W0.heap.size := by rw [hW0]; simp
  have r0 : W0.rowIs (w.heap.size + 1) 29 1 (fun _ => .slice none 0 0) := by
    rw [hW0]
    have := row1 (w.alloc (.cells #[.slice ao N gc] 29)) (.slice none 0 0) 29
    simpa using this
  have c0 : W0.cell? ⟨w.heap.size, 0, none⟩ = some (.slice ao N gc) := by rw [hW0]; exact ((row1 _ _ _).alloc _).cell (i := 0) (by omega)
  have FIN : Hid (∀ (W : World), Below w.heap.size w W → NoCanon w (.returned (.tuple #[.agg #[.slice none 0 0], .slice (some ⟨W.heap.size, 0, none⟩) 0 0])) ((W.alloc (.cells #[] 3)).setCell ⟨w.heap.size + 1, 0, none⟩ (.slice none 0 0))) := fun W hW =>
    ⟨W.heap.size, rfl, (hW.alloc hW.size _).setCell (by show w.heap.size ≤ w.heap.size + 1; omega) _⟩
  go_enter Tryz.func11, Tryz.ntmps11
  go_wp2_with fail
  rw [← hW0]
  clear hW0
  refine (g14 ao b o N gc p G W0 (HG.out W0 B0)).mono ?_
  rintro e w1 ⟨rfl, hb1⟩
  have B1 : Below w.heap.size w w1 := B0.trans (hb1.mono B0.size)
  have c1 : w1.cell? ⟨w.heap.size, 0, none⟩ = some (.slice ao N gc) := (hb1.cell (p := ⟨w.heap.size, 0, none⟩) (by show w.heap.size < W0.heap.size; omega)).trans c0
  have r1 := r0.of_block (hb1.block _ z0)
  clear hb1 r0 c0
  have q0 := (r1.alloc (.cells #[] 3)).cell (i := 0) (by omega)
  have q1 := (r1.alloc (.cells #[] 3)).frozen 0
  cases hv : vgr N G with
  | false =>
    have F := FIN.out w1 B1
    clear r1
    go_wp2
    exact bodyPost_ret (v := .tuple #[.agg #[.slice none 0 0], .slice (some ⟨w1.heap.size, 0, none⟩) 0 0]) (by simp [results, Tryz.results11, go_sem, q0]) rfl F
  | true =>
    by_cases hR2 : 2000 < R
    · have qR : (2000 : Int) < (R : Int) := by omega
      have F := FIN.out w1 B1
      clear r1
      go_wp2
      exact bodyPost_ret (v := .tuple #[.agg #[.slice none 0 0], .slice (some ⟨w1.heap.size, 0, none⟩) 0 0]) (by simp [results, Tryz.results11, go_sem, q0]) rfl F
    · have qR : ¬ (2000 : Int) < (R : Int) := by omega
      have hk : kok R D N = false := by
        rcases hbad with h | h | h
        · rw [hv] at h; cases h
        · exact absurd h hR2
        · exact h
      clear q0 q1
      go_wp2_with fail
      refine (g15 ao N gc ra rl ro R rc D w1 (HI.out w1 B1) (by omega)).mono ?_
      rintro e w2 ⟨rfl, hb2⟩
      rw [hk]
      have B2 : Below w.heap.size w w2 := B1.trans (hb2.mono B1.size)
      have r2 := r1.of_block (hb2.block _ r1.lt)
      have q0 := (r2.alloc (.cells #[] 3)).cell (i := 0) (by omega)
      have q1 := (r2.alloc (.cells #[] 3)).frozen 0
      have F := FIN.out w2 B2
      clear hb2 r1 r2 c1
      go_wp2
      exact bodyPost_ret (v := .tuple #[.agg #[.slice none 0 0], .slice (some ⟨w2.heap.size, 0, none⟩) 0 0]) (by simp [results, Tryz.results11, go_sem, q0]) rfl F

end Go.Proofs.YtpbpbppimkeodaaGreatDoor

namespace Go.Proofs.YtpbpbppimkeodaaGreatDoor
open Go.RowKit Go.Maps

theorem mcanon_set {w W w' : World} {N R X : Nat} {G : Nat → ND} {ns : Nat → Nat} {e : Ending} {t : TypeId} {bo : Option Addr} {k c : Nat} (h : MCanonPost W N R G ns e w') (hW : Below w.heap.size w W) (hX : w'.rowIs X t 1 (fun _ => .slice bo k c)) (hb : w.heap.size ≤ X) (u : Value) : MCanonPost w N R G ns e (w'.setCell ⟨X, 0, none⟩ u) := by
  obtain ⟨cm, r, h1, h2, oa, b', cap, q, la, lb, lc, h3, h4, h5, h6⟩ := h
  exact ⟨cm, r, h1, h2, oa, b', cap, q, la, lb, lc, h3, nodes_box h4 hX u, ints_box h5 hX u, (hW.trans (h6.mono hW.size)).setCell hb u⟩

theorem kok_isN {R N : Nat} {D : Nat → Int} (h : ∀ j, j < R → isN N (D j) = true) : kok R D N = true := by
  unfold kok allTo
  rw [List.all_eq_true]
  intro j hj
  have := h j (List.mem_range.1 hj)
  unfold isN at this
  exact this

set_option maxRecDepth 100000 in
set_option maxHeartbeats 8000000 in
theorem s_canon_bad {N b o : Nat} {p : Nat → NP} {G : Nat → ND} (ao ra : Option Addr) (gc R rc rl ro : Nat) (D : Nat → Int) (w : World) (hR : R ≤ 1048576) (_hN : N ≤ 1048576)
    (hbad : vgr N G = false ∨ 2000 < R ∨ kok R D N = false) (hG : NodesAt w ao b o N p G) (hI : IntsAt w ra rl ro R D) :
    Calls Tryz.prog 8 #[.agg #[.slice ao N gc], .slice ra R rc] w (NoCanon w) := by
  have HG : Hid (∀ w', Below w.heap.size w w' → NodesAt w' ao b o N p G) := fun w' hb => hG.below hb
  have HI : Hid (∀ w', Below w.heap.size w w' → IntsAt w' ra rl ro R D) := fun w' hb => hI.below hb
  have AI := hI.at_
  clear hG hI
  obtain ⟨W0, hW0⟩ : ∃ W0, W0 = (w.alloc (.cells #[.slice ao N gc] 29)).alloc (.cells #[.slice none 0 0] 29) := ⟨_, rfl⟩
  have B0 : Below w.heap.size w W0 := by rw [hW0]; exact bel2 _ _ _
  have z0 : w.heap.size + 1 < W0.heap.size := by rw [hW0]; simp
  have r0 : W0.rowIs (w.heap.size + 1) 29 1 (fun _ => .slice none 0 0) := by
    rw [hW0]
    have := row1 (w.alloc (.cells #[.slice ao N gc] 29)) (.slice none 0 0) 29
    simpa using this
  have c0 : W0.cell? ⟨w.heap.size, 0, none⟩ = some (.slice ao N gc) := by rw [hW0]; exact ((row1 _ _ _).alloc _).cell (i := 0) (by omega)
  have FIN : Hid (∀ (W : World), Below w.heap.size w W → NoCanon w (.returned (.tuple #[.agg #[.slice none 0 0], .slice (some ⟨W.heap.size, 0, none⟩) 0 0])) ((W.alloc (.cells #[] 3)).setCell ⟨w.heap.size + 1, 0, none⟩ (.slice none 0 0))) := fun W hW =>
    ⟨W.heap.size, rfl, (hW.alloc hW.size _).setCell (by show w.heap.size ≤ w.heap.size + 1; omega) _⟩
  go_enter Tryz.func8, Tryz.ntmps8
  go_wp2_with fail
  rw [← hW0]
  clear hW0
  refine (g10 ao b o N gc p G W0 (HG.out W0 B0)).mono ?_
  rintro e w1 ⟨rfl, hb1⟩
  have B1 : Below w.heap.size w w1 := B0.trans (hb1.mono B0.size)
  have c1 : w1.cell? ⟨w.heap.size, 0, none⟩ = some (.slice ao N gc) := (hb1.cell (p := ⟨w.heap.size, 0, none⟩) (by show w.heap.size < W0.heap.size; omega)).trans c0
  have r1 := r0.of_block (hb1.block _ z0)
  clear hb1 r0 c0
  have q0 := (r1.alloc (.cells #[] 3)).cell (i := 0) (by omega)
  have q1 := (r1.alloc (.cells #[] 3)).frozen 0
  cases hv : vgr N G with
  | false =>
    have F := FIN.out w1 B1
    clear r1
    go_wp2
    exact bodyPost_ret (v := .tuple #[.agg #[.slice none 0 0], .slice (some ⟨w1.heap.size, 0, none⟩) 0 0]) (by simp [results, Tryz.results8, go_sem, q0]) rfl F
  | true =>
    by_cases hR2 : 2000 < R
    · have qR : (2000 : Int) < (R : Int) := by omega
      have F := FIN.out w1 B1
      clear r1
      go_wp2
      exact bodyPost_ret (v := .tuple #[.agg #[.slice none 0 0], .slice (some ⟨w1.heap.size, 0, none⟩) 0 0]) (by simp [results, Tryz.results8, go_sem, q0]) rfl F
    · have qR : ¬ (2000 : Int) < (R : Int) := by omega
      have hk : Hid (kok R D N = false) := by
        rcases hbad with h | h | h
        · rw [hv] at h; cases h
        · exact absurd h hR2
        · exact h
      clear q0 q1
      have hlt1 := r1.lt
      go_wp2
      go_loopw [6] (fun i wr => ∃ k : Nat, k ≤ R ∧ i = .int .i64 k ∧ Hid (∀ j, j < k → isN N (D j) = true) ∧ Hid (Below w1.heap.size w1 wr)) (fun i _ => R - (intOf i).toNat)
      case atStart => exact ⟨0, Nat.zero_le _, rfl, fun j hj => absurd hj (Nat.not_lt_zero _), Below.refl _ _⟩
      case round =>
        obtain ⟨k, hkR, rfl, HJ, HB⟩ := hrel
        have B2 : Below w.heap.size w wr := B1.trans (HB.out.mono B1.size)
        by_cases hlt : k < R
        · have er := AI (by omega)
          subst er
          have lk : (k : Int) < (R : Int) := by omega
          have c2 : wr.cell? ⟨w.heap.size, 0, none⟩ = some (.slice ao N gc) := (HB.out.cell (p := ⟨w.heap.size, 0, none⟩) (World.block_lt_of_cell? _ _ c1)).trans c1
          have c3 := (HI.out wr B2).cell k hlt
          have HCL : Hid (∀ wz, Below wr.heap.size wr wz → Calls Tryz.prog 29 #[.agg #[.slice ao N gc], .int .i64 (D k)] wz (fun e w' => e = .returned (.bool (isN N (D k))) ∧ w'.cell? ⟨w.heap.size, 0, none⟩ = some (.slice ao N gc) ∧ w'.cell? ⟨rl, ro + k, none⟩ = some (.int .i64 (D k)) ∧ Hid (Below w1.heap.size w1 w'))) := fun wz hz => by
            refine (sm11 ao N gc (D k) wz).mono ?_
            rintro e w' ⟨rfl, h2⟩
            have h3 : Below w1.heap.size w1 w' := HB.out.trans ((hz.trans (h2.mono hz.size)).mono HB.out.size)
            exact ⟨rfl, (h3.cell (p := ⟨w.heap.size, 0, none⟩) (World.block_lt_of_cell? _ _ c1)).trans c1, (HI.out w' (B1.trans (h3.mono B1.size))).cell k hlt, h3⟩
          cases hn : isN N (D k) with
          | true =>
            rw [hn] at HCL
            go_wp2
            go_region_held3 (fun w' => w'.cell? ⟨w.heap.size, 0, none⟩ = some (.slice ao N gc) ∧ w'.cell? ⟨rl, ro + k, none⟩ = some (.int .i64 (D k))) (go_keep)
              (first
                | (go_at_call 29; refine (HCL.out _ (by first | exact Below.refl _ _ | exact (Below.refl _ _).drew | exact below_drewN (Below.refl _ _) _)).mono ?_; rintro e wB ⟨rfl, s0, s1, HBB⟩))
            all_goals
              have HJ2 : Hid (∀ j, j < k + 1 → isN N (D j) = true) := fun j hj => by
                by_cases e : j = k
                · rw [e]; exact hn
                · exact HJ.out j (by omega)
              go_wp2
              go_roundw
              case rel => exact ⟨k + 1, by omega, by go_num, HJ2, by first | exact HBB | exact HBB.out.drew | exact below_drewN HBB.out _⟩
              case measure => simp [intOf]; omega
          | false =>
            rw [hn] at HCL
            go_wp2
            go_region_held3 (fun w' => w'.cell? ⟨w.heap.size, 0, none⟩ = some (.slice ao N gc) ∧ w'.cell? ⟨rl, ro + k, none⟩ = some (.int .i64 (D k))) (go_keep)
              (first
                | (go_at_call 29; refine (HCL.out _ (by first | exact Below.refl _ _ | exact (Below.refl _ _).drew | exact below_drewN (Below.refl _ _) _)).mono ?_; rintro e wB ⟨rfl, s0, s1, HBB⟩))
            all_goals
              have r2 := r1.of_block (HBB.out.block _ hlt1)
              have q0 := (r2.alloc (.cells #[] 3)).cell (i := 0) (by omega)
              have q1 := (r2.alloc (.cells #[] 3)).frozen 0
              have F : Hid (NoCanon w (.returned (.tuple #[.agg #[.slice none 0 0], .slice (some ⟨wB.heap.size, 0, none⟩) 0 0])) ((wB.alloc (.cells #[] 3)).setCell ⟨w.heap.size + 1, 0, none⟩ (.slice none 0 0))) := FIN.out wB (B1.trans (HBB.out.mono B1.size))
              clear r2
              go_wp2
              obtain ⟨lb, e1, e2⟩ := F.out
              exact bodyPost_ret (v := .tuple #[.agg #[.slice none 0 0], .slice (some ⟨wB.heap.size, 0, none⟩) 0 0]) (by simp [results, Tryz.results8, go_sem, q0]) rfl ⟨wB.heap.size, rfl, by first | exact e2 | exact e2.drew | exact below_drewN e2 _⟩
        · have hkR2 : k = R := by omega
          subst hkR2
          have := kok_isN HJ.out
          rw [hk.out] at this
          cases this

set_option maxRecDepth 100000 in
set_option maxHeartbeats 8000000 in
theorem s_canon {N b o : Nat} {p : Nat → NP} {G : Nat → ND} (ao ra : Option Addr) (gc R rc rl ro : Nat) (ns : Nat → Nat) (w : World) (hv : vgr N G = true) (hR : R ≤ 2000) (hnn : ∀ x, x < N → (G x).nn ≤ 1048576) (hnk : ∀ i, i < N → (G i).nk ≤ 1048576)
    (hns : ∀ i, i < R → ns i < N) (hG : NodesAt w ao b o N p G) (hI : IntsAt w ra rl ro R (fun i => (ns i : Int))) :
    Calls Tryz.prog 8 #[.agg #[.slice ao N gc], .slice ra R rc] w (MCanonPost w N R G ns) := by
  have HG : Hid (∀ w', Below w.heap.size w w' → NodesAt w' ao b o N p G) := fun w' hb => hG.below hb
  have HI : Hid (∀ w', Below w.heap.size w w' → IntsAt w' ra rl ro R (fun i => (ns i : Int))) := fun w' hb => hI.below hb
  have HV : Hid (vgr N G = true) := hv
  have HNN : Hid (∀ x, x < N → (G x).nn ≤ 1048576) := hnn
  have HNK : Hid (∀ i, i < N → (G i).nk ≤ 1048576) := hnk
  have HNS : Hid (∀ i, i < R → ns i < N) := hns
  have hN := vgr_len hv
  have AI := hI.at_
  clear hG hI hv hnn hnk hns
  obtain ⟨W0, hW0⟩ : ∃ W0, W0 = (w.alloc (.cells #[.slice ao N gc] 29)).alloc (.cells #[.slice none 0 0] 29) := ⟨_, rfl⟩
  have B0 : Below w.heap.size w W0 := by rw [hW0]; exact bel2 _ _ _
  have z0 : w.heap.size + 1 < W0.heap.size := by rw [hW0]; simp
  have r0 : W0.rowIs (w.heap.size + 1) 29 1 (fun _ => .slice none 0 0) := by
    rw [hW0]
    have := row1 (w.alloc (.cells #[.slice ao N gc] 29)) (.slice none 0 0) 29
    simpa using this
  have c0 : W0.cell? ⟨w.heap.size, 0, none⟩ = some (.slice ao N gc) := by rw [hW0]; exact ((row1 _ _ _).alloc _).cell (i := 0) (by omega)
  go_enter Tryz.func8, Tryz.ntmps8
  go_wp2_with fail
  rw [← hW0]
  clear hW0
  refine (g10 ao b o N gc p G W0 (HG.out W0 B0)).mono ?_
  rintro e w1 ⟨rfl, hb1⟩
  rw [HV.out]
  have B1 : Below w.heap.size w w1 := B0.trans (hb1.mono B0.size)
  have c1 : w1.cell? ⟨w.heap.size, 0, none⟩ = some (.slice ao N gc) := (hb1.cell (p := ⟨w.heap.size, 0, none⟩) (by show w.heap.size < W0.heap.size; omega)).trans c0
  have r1 := r0.of_block (hb1.block _ z0)
  clear hb1 r0 c0
  have qR : ¬ (2000 : Int) < (R : Int) := by omega
  have hlt1 := r1.lt
  go_wp2
  go_loopw [6] (fun i wr => ∃ k : Nat, k ≤ R ∧ i = .int .i64 k ∧ Hid (Below w1.heap.size w1 wr)) (fun i _ => R - (intOf i).toNat)
  case atStart => exact ⟨0, Nat.zero_le _, rfl, Below.refl _ _⟩
  case round =>
    obtain ⟨k, hkR, rfl, HB⟩ := hrel
    have B2 : Below w.heap.size w wr := B1.trans (HB.out.mono B1.size)
    have c2 : wr.cell? ⟨w.heap.size, 0, none⟩ = some (.slice ao N gc) := (HB.out.cell (p := ⟨w.heap.size, 0, none⟩) (World.block_lt_of_cell? _ _ c1)).trans c1
    by_cases hlt : k < R
    · have er := AI (by omega)
      subst er
      have lk : (k : Int) < (R : Int) := by omega
      have c3 := (HI.out wr B2).cell k hlt
      have hn : isN N (ns k : Int) = true := decide_eq_true (by have := HNS.out k hlt; omega)
      have HCL : Hid (∀ wz, Below wr.heap.size wr wz → Calls Tryz.prog 29 #[.agg #[.slice ao N gc], .int .i64 (ns k : Int)] wz (fun e w' => e = .returned (.bool true) ∧ w'.cell? ⟨w.heap.size, 0, none⟩ = some (.slice ao N gc) ∧ w'.cell? ⟨rl, ro + k, none⟩ = some (.int .i64 (ns k : Int)) ∧ Hid (Below w1.heap.size w1 w'))) := fun wz hz => by
        refine (sm11 ao N gc (ns k : Int) wz).mono ?_
        rintro e w' ⟨rfl, h2⟩
        have h3 : Below w1.heap.size w1 w' := HB.out.trans ((hz.trans (h2.mono hz.size)).mono HB.out.size)
        exact ⟨by rw [hn], (h3.cell (p := ⟨w.heap.size, 0, none⟩) (World.block_lt_of_cell? _ _ c1)).trans c1, (HI.out w' (B1.trans (h3.mono B1.size))).cell k hlt, h3⟩
      go_wp2
      go_region_held3 (fun w' => w'.cell? ⟨w.heap.size, 0, none⟩ = some (.slice ao N gc) ∧ w'.cell? ⟨rl, ro + k, none⟩ = some (.int .i64 (ns k : Int))) (go_keep)
        (first
          | (go_at_call 29; refine (HCL.out _ (by first | exact Below.refl _ _ | exact (Below.refl _ _).drew | exact below_drewN (Below.refl _ _) _)).mono ?_; rintro e wB ⟨rfl, s0, s1, HBB⟩))
      all_goals
        go_wp2
        go_roundw
        case rel => exact ⟨k + 1, by omega, by go_num, by first | exact HBB | exact HBB.out.drew | exact below_drewN HBB.out _⟩
        case measure => simp [intOf]; omega
    · have hkR2 : k = R := by omega
      subst hkR2
      have r2 := r1.of_block (HB.out.block _ hlt1)
      have hl2 := r2.lt
      go_wp2_with fail
      refine (m_canon ao ra gc k rc rl ro ns wr (kids_of HV.out) (by omega) hR HNN.out HNK.out HNS.out (HG.out wr B2) (HI.out wr B2)).mono ?_
      rintro e w3 ⟨cm, r, h1, h2, oa, b', cap, q, la, lb, lc, rfl, h4, h5, h6⟩
      have r3 := r2.of_block (h6.block _ hl2)
      have k0 := r3.cell (i := 0) (by omega)
      have k1 := r3.frozen 0
      obtain ⟨L, hL⟩ : ∃ L, L = (allTill G cm (N + 1) ns [] k).length := ⟨_, rfl⟩
      have F : Hid (MCanonPost w N k G ns (.returned (.tuple #[.agg #[.slice oa L cap], .slice la k lc])) (w3.setCell ⟨w.heap.size + 1, 0, none⟩ (.slice oa L cap))) := by
        rw [hL]
        exact mcanon_set (W := wr) ⟨cm, r, h1, h2, oa, b', cap, q, la, lb, lc, rfl, h4, h5, h6⟩ B2 r3 (by omega) _
      rw [← hL]
      clear h1 h2 h4 h5 h6 hL r3 r2 r1
      go_wp2
      exact bodyPost_ret (v := .tuple #[.agg #[.slice oa L cap], .slice la k lc]) (by simp [results, Tryz.results8, go_sem, k0]) rfl F.out

end Go.Proofs.YtpbpbppimkeodaaGreatDoor

namespace Go.Proofs.YtpbpbppimkeodaaGreatDoor
open Go.RowKit Go.Maps

theorem NodesAt.same {w : World} {ao : Option Addr} {b o n : Nat} {p : Nat → NP} {G H : Nat → ND} (h : NodesAt w ao b o n p G) (e : ∀ i, i < n → Lab (G i) (H i) ∧ ∀ j, j < (G i).nk → (G i).kd j = (H i).kd j) : NodesAt w ao b o n p H := by
  refine ⟨h.at_, fun i hi => by rw [← (e i hi).1.kind]; exact h.c0 i hi, fun i hi => by rw [← (e i hi).1.nn]; exact h.c1 i hi, fun i hi => by rw [← (e i hi).1.nk]; exact h.c2 i hi, fun i hi => ⟨?_, ?_⟩, h.len⟩
  · have q := (h.node i hi).names
    obtain ⟨l, _⟩ := e i hi
    rw [← l.nn]
    exact ⟨q.at_, fun j hj => by rw [← l.nm j hj]; exact q.cell j hj, fun j hj => by rw [← l.nm j hj]; exact q.size j hj, q.len⟩
  · have q := (h.node i hi).kids
    obtain ⟨l, k⟩ := e i hi
    rw [← l.nk]
    exact q.congr k

theorem OwnG.same {w : World} {n b : Nat} {p : Nat → NP} {G H : Nat → ND} (h : OwnG w n b p G) (e : ∀ i, i < n → (G i).nn = (H i).nn ∧ (G i).nk = (H i).nk) : OwnG w n b p H := by
  refine ⟨h.row, fun i hi => ?_, fun i j hi hj => ?_⟩
  · have := h.node i hi
    rw [(e i hi).1, (e i hi).2] at this
    exact this
  · have := h.sep i j hi hj
    unfold SepIJ at this ⊢
    rw [(e i hi).1, (e i hi).2, (e j hj).1, (e j hj).2] at this
    exact this
theorem OwnL.same {w : World} {n R b lb : Nat} {p : Nat → NP} {G H : Nat → ND} (h : OwnL w n R b lb p G) (e : ∀ i, i < n → (G i).nn = (H i).nn ∧ (G i).nk = (H i).nk) : OwnL w n R b lb p H := by
  refine ⟨h.list, h.row, fun z i hi => ?_⟩
  have := h.node z i hi
  rw [(e i hi).1, (e i hi).2] at this
  exact this
theorem FreshG.same {base n R b lb : Nat} {p : Nat → NP} {G H : Nat → ND} (h : FreshG base n R b lb p G) (e : ∀ i, i < n → (G i).nn = (H i).nn ∧ (G i).nk = (H i).nk) : FreshG base n R b lb p H := by
  refine ⟨h.row, fun i hi => ?_, h.list⟩
  have := h.node i hi
  rw [(e i hi).1, (e i hi).2] at this
  exact this

theorem none_nodesE (w : World) (ao : Option Addr) (b o : Nat) (p : Nat → NP) (G : Nat → ND) : NodesAt w ao b o 0 p G :=
  ⟨fun h => absurd h (Nat.lt_irrefl _), fun _ h => absurd h (Nat.not_lt_zero _), fun _ h => absurd h (Nat.not_lt_zero _), fun _ h => absurd h (Nat.not_lt_zero _), fun _ h => absurd h (Nat.not_lt_zero _), Nat.zero_le _⟩
theorem none_intsE (w : World) (ao : Option Addr) (b o : Nat) (D : Nat → Int) : IntsAt w ao b o 0 D :=
  ⟨fun h => absurd h (Nat.lt_irrefl _), fun _ h => absurd h (Nat.not_lt_zero _), Nat.zero_le _⟩

/-- An answer of the program in memory of its own. -/
def IPost (w : World) (n R : Nat) (c : Nat → ND) (E : Nat → Int) (e : Ending) (w' : World) : Prop :=
  ∃ (oa : Option Addr) (b cap : Nat) (p : Nat → NP) (la : Option Addr) (lb lc : Nat), e = .returned (.tuple #[.agg #[.slice oa n cap], .slice la R lc]) ∧ NodesAt w' oa b 0 n p c ∧ IntsAt w' la lb 0 R E ∧ OwnG w' n b p c ∧ OwnL w' n R b lb p c ∧ FreshG w.heap.size n R b lb p c ∧ Below w.heap.size w w'

/-- The program's Canon of these arguments is this, wherever they lie. -/
def CanonIs (N R : Nat) (G : Nat → ND) (D : Nat → Int) (n R2 : Nat) (c : Nat → ND) (E : Nat → Int) : Prop :=
  ∀ (ao ra : Option Addr) (b o gc rc rl ro : Nat) (p : Nat → NP) (w : World), NodesAt w ao b o N p G → IntsAt w ra rl ro R D → Calls Tryz.prog 11 #[.agg #[.slice ao N gc], .slice ra R rc] w (IPost w n R2 c E)

/-- What the model answers, and that the program does too. -/
def BothPost (w : World) (N R : Nat) (G : Nat → ND) (D : Nat → Int) (e : Ending) (w' : World) : Prop :=
  ∃ (n R2 : Nat) (c : Nat → ND) (E : Nat → Int), CanonIs N R G D n R2 c E ∧ n ≤ 1048576 ∧ R2 ≤ 1048576 ∧ (∀ i, i < n → (c i).nn ≤ 1048576 ∧ (c i).nk ≤ 1048576) ∧
    ∃ (oa : Option Addr) (b cap : Nat) (p : Nat → NP) (la : Option Addr) (lb lc : Nat), e = .returned (.tuple #[.agg #[.slice oa n cap], .slice la R2 lc]) ∧ NodesAt w' oa b 0 n p c ∧ IntsAt w' la lb 0 R2 E ∧ Below w.heap.size w w'

theorem both_canon {N b o : Nat} {p : Nat → NP} {G : Nat → ND} (ao ra : Option Addr) (gc R rc rl ro : Nat) (D : Nat → Int) (w : World) (hR : R ≤ 1048576) (hN : N ≤ 1048576) (hB : ∀ i, i < N → (G i).nn ≤ 1048576 ∧ (G i).nk ≤ 1048576) (hG : NodesAt w ao b o N p G) (hI : IntsAt w ra rl ro R D) :
    Calls Tryz.prog 8 #[.agg #[.slice ao N gc], .slice ra R rc] w (BothPost w N R G D) := by
  by_cases hbad : vgr N G = false ∨ 2000 < R ∨ kok R D N = false
  · refine (s_canon_bad ao ra gc R rc rl ro D w hR hN hbad hG hI).mono ?_
    rintro e w' ⟨lb, rfl, hb⟩
    refine ⟨0, 0, G, D, fun ao ra b o gc rc rl ro p w hG hI => ?_, Nat.zero_le _, Nat.zero_le _, fun i hi => absurd hi (Nat.not_lt_zero _), none, 0, 0, p, some ⟨lb, 0, none⟩, lb, 0, rfl, none_nodesE _ _ _ _ _ _, none_intsE _ _ _ _ _, hb⟩
    refine (w_canon_bad ao ra gc R rc rl ro D w hR hN hbad hG hI).mono ?_
    rintro e w' ⟨lb, rfl, hb⟩
    exact ⟨none, w.heap.size, 0, p, some ⟨lb, 0, none⟩, lb, 0, rfl, none_nodesE _ _ _ _ _ _, none_intsE _ _ _ _ _, ⟨fun z => absurd z (Nat.lt_irrefl _), fun i hi => absurd hi (Nat.not_lt_zero _), fun i j hi => absurd hi (Nat.not_lt_zero _)⟩, ⟨fun z => absurd z (Nat.lt_irrefl _), fun z => absurd z (Nat.lt_irrefl _), fun z => absurd z (Nat.lt_irrefl _)⟩, ⟨Nat.le_refl _, fun i hi => absurd hi (Nat.not_lt_zero _), fun z => absurd z (Nat.lt_irrefl _)⟩, hb⟩
  · have hv : vgr N G = true := by
      cases h : vgr N G
      · exact absurd (Or.inl h) hbad
      · rfl
    have hR2 : R ≤ 2000 := by
      by_cases h : 2000 < R
      · exact absurd (Or.inr (Or.inl h)) hbad
      · omega
    have hk : kok R D N = true := by
      cases h : kok R D N
      · exact absurd (Or.inr (Or.inr h)) hbad
      · rfl
    have hD : ∀ i, i < R → 0 ≤ D i ∧ D i < (N : Int) := fun i hi => of_decide_eq_true (allTo_at hk hi)
    have hDn : ∀ i, i < R → D i = (((D i).toNat : Nat) : Int) := fun i hi => by have := hD i hi; omega
    have hns : ∀ i, i < R → (D i).toNat < N := fun i hi => by have := hD i hi; omega
    refine (s_canon ao ra gc R rc rl ro (fun i => (D i).toNat) w hv hR2 (fun i hi => (hB i hi).1) (fun i hi => (hB i hi).2) hns hG (hI.congr hDn)).mono ?_
    rintro e w' ⟨cm, r, hcm, hr, oa, b', cap, q, la, lb, lc, rfl, h4, h5, h6⟩
    have hm : (allTill G cm (N + 1) (fun i => (D i).toNat) [] R).length ≤ N := by
      obtain ⟨f1, _, _⟩ := allTill_full (G := G) (cl := cm) (kids_of hv) (f := N + 1) (ns := fun i => (D i).toNat) (m := R) hns (by omega) R (Nat.le_refl _)
      exact apart_len (allTill_apart R) f1
    refine ⟨(allTill G cm (N + 1) (fun i => (D i).toNat) [] R).length, R, mN G cm (allTill G cm (N + 1) (fun i => (D i).toNat) [] R) r, fun i => (numOf cm (allTill G cm (N + 1) (fun i => (D i).toNat) [] R) (D i).toNat : Int), fun ao ra b o gc rc rl ro p w hG hI => ?_, by omega, hR, fun i hi => hB (r i) (hr i hi).1, oa, b', cap, q, la, lb, lc, rfl, h4, h5, h6⟩
    refine (w_canon ao ra gc R rc rl ro (fun i => (D i).toNat) w hv hR2 (fun i hi => (hB i hi).1) (fun i hi => (hB i hi).2) hns hG (hI.congr hDn)).mono ?_
    rintro e w' ⟨cl, hcl, oa, b', cap, p', la, lb, lc, rfl, n3, i3, o7, o8, f5, b3⟩
    have F := canon_one (kids_of hv) hns hcl hcm
    have S := one_same F hr
    have e2 : ∀ i, i < (allTill (G1 N R G (fun i => (D i).toNat)) cl ((S1 N R G (fun i => (D i).toNat)).length + 1) (ns1 N R G (fun i => (D i).toNat)) [] R).length → _ ∧ _ := fun i hi => ⟨(S i hi).1.nn, (S i hi).1.nk⟩
    have n4 := n3.same S
    have i4 := i3.congr (fun i hi => congrArg Int.ofNat (F.num i hi))
    have o9 := o7.same e2
    have o10 := o8.same e2
    have f6 := f5.same e2
    have hlen := F.len
    rw [hlen] at n4 o9 o10 f6 ⊢
    exact ⟨oa, b', cap, p', la, lb, lc, rfl, n4, i4, o9, o10, f6, b3⟩

end Go.Proofs.YtpbpbppimkeodaaGreatDoor

