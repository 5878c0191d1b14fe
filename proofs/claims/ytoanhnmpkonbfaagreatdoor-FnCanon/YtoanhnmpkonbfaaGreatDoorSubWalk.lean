/-
  The walk over all pairs that Sub comes to.
-/
import Derived.Test.YtoanhnmpkonbfaaGreatDoorSubStep
namespace Go.Proofs.YtoanhnmpkonbfaaGreatDoor
open Go.RowKit Go.Maps

theorem StepEnd.back {G : Nat → ND} {a b : Nat} {ord : List (Nat × Nat)} {kb mb : Nat} {keep : Nat → Prop} {w w1 : World} {e : Ending} {w' : World} (h : StepEnd G a b ord kb mb keep w1 e w') (hk : Kept keep w w1) : StepEnd G a b ord kb mb keep w e w' := by
  obtain ⟨r, e, h⟩ := h
  exact ⟨r, e, h.kn, hk.trans h.kept, h.no⟩

set_option maxRecDepth 100000 in
set_option maxHeartbeats 4000000 in
theorem w44 {N gb go : Nat} {p : Nat → NP} {G : Nat → ND} (ao : Option Addr) (gc : Nat) (M : Nat) (kb mb : Nat) (ov : Value) (D : DataW Unit) (ord : List (Nat × Nat)) (keep : Nat → Prop) (a b : Nat) (w : World) (h : Kn w kb mb ov D ord keep) (hG : ∀ w', Kept keep w w' → NodesAt w' ao gb go N p G) (hM : w.cell? ⟨M, 0, none⟩ = some (.slice ao N gc)) (ha : a < N) (hb : b < N) (hK : Kids N G) (hP : ∀ x, x < N → Plain (G x)) (hS : ∀ x, x < N → Srt (G x)) (hN : N ≤ 500000) (ho : ord.length + (G b).nn + 2 ≤ 100000000) :
    Calls Tryz.prog 45 #[.agg #[.int .i64 (a : Int), .int .i64 (b : Int)], .pointer (some ⟨kb, 0, none⟩), .pointer (some ⟨M, 0, none⟩)] w (StepEnd G a b ord kb mb keep w) := by
  obtain ⟨W0, hW0⟩ : ∃ W0, W0 = w.alloc (.cells #[.int .i64 (a : Int), .int .i64 (b : Int)] 51) := ⟨_, rfl⟩
  have BW : Below w.heap.size w W0 := by rw [hW0]; exact bel1 _ _
  have KW : ∀ W, Below w.heap.size w W → Kept keep w W := fun W hb' => ⟨hb'.os, hb'.tape, hb'.output, hb'.size, fun k hk => hb'.block k ((h.far k hk).1)⟩
  have C : Hid (∀ W, Below W0.heap.size W0 W → Calls Tryz.prog 46 #[.agg #[.slice ao N gc], .agg #[.int .i64 (a : Int), .int .i64 (b : Int)], .pointer (some ⟨kb, 0, none⟩)] W (StepEnd G a b ord kb mb keep w)) := fun W hW => by
    have B := BW.trans (hW.mono BW.size)
    exact (w45 ao gc kb mb ov D ord keep a b W (h.below B) (fun w' hk => hG w' ((KW W B).trans hk)) ha hb hK hP hS hN ho).mono (fun e w' z => z.back (KW W B))
  have RP : W0.rowIs w.heap.size 51 2 (v2 (.int .i64 (a : Int)) (.int .i64 (b : Int))) := by rw [hW0]; exact row2 w _ _ 51
  have s1 : W0.cell? ⟨w.heap.size, 0, none⟩ = some (.int .i64 (a : Int)) := RP.cell (i := 0) (by omega)
  have s2 : W0.cell? ⟨w.heap.size, 1, none⟩ = some (.int .i64 (b : Int)) := RP.cell (i := 1) (by omega)
  have s3 : W0.cell? ⟨M, 0, none⟩ = some (.slice ao N gc) := (BW.cell (p := ⟨M, 0, none⟩) (World.block_lt_of_cell? _ _ hM)).trans hM
  clear h hG hM hK hP hS KW BW RP
  subst hW0
  go_enter Tryz.func45, Tryz.ntmps45
  go_wp2_with (first | (go_at_call 46; (first | (with_reducible refine (C.out _ (Below.refl _ _)).mono ?_) | (with_reducible refine (C.out _ (Below.refl _ _).drew).mono ?_))))
  intro e w5 hE
  obtain ⟨r, rfl, hO⟩ := hE
  have FH : Hid (StepEnd G a b ord kb mb keep w (.returned (.bool r)) w5) := ⟨r, rfl, hO⟩
  clear hO C
  go_wp2
  go_ret
  exact FH.out

/-- What holds of the pairs that are met, when so many of them are looked into. -/
structure SInv (N : Nat) (G : Nat → ND) (a b : Nat) (ord : List (Nat × Nat)) (i : Nat) : Prop where
  first : (a, b) ∈ ord
  bound : ∀ q, q ∈ ord → q.1 < N ∧ q.2 < N
  nodup : ord.Nodup
  done : ∀ j q, j < i → ord[j]? = some q → q.1 = q.2 ∨ (Can (G q.1) (G q.2) ∧ ∀ d, d ∈ demP (G q.1) (G q.2) → atP (G q.1) (G q.2) d ∈ ord)
  forced : Forced G a b ord

theorem SInv.start {N : Nat} {G : Nat → ND} {a b : Nat} (ha : a < N) (hb : b < N) : SInv N G a b [(a, b)] 0 :=
  ⟨by simp, fun q h => by simp at h; subst h; exact ⟨ha, hb⟩, by simp, fun j q h => absurd h (Nat.not_lt_zero _), forced_start G a b⟩

theorem SInv.len {N : Nat} {G : Nat → ND} {a b i : Nat} {ord : List (Nat × Nat)} (h : SInv N G a b ord i) : ord.length ≤ N * N := by
  rw [← pairs_len N]
  refine nodup_len h.nodup (fun q hq => ?_)
  obtain ⟨h1, h2⟩ := h.bound q hq
  simp only [List.mem_flatMap, List.mem_map, List.mem_range]
  exact ⟨q.1, h1, q.2, h2, rfl⟩

theorem SInv.end {N : Nat} {G : Nat → ND} {a b i : Nat} {ord : List (Nat × Nat)} (h : SInv N G a b ord i) (hi : ord.length ≤ i) (hK : Kids N G) (hP : ∀ x, x < N → Plain (G x)) (hS : ∀ x, x < N → Srt (G x)) : SubP G a b :=
  sub_done hK hP hS h.bound (fun q hq => by
    obtain ⟨j, hj, e⟩ := List.getElem_of_mem hq
    exact h.done j q (by omega) (by rw [List.getElem?_eq_getElem hj, e])) (a, b) h.first

theorem SInv.no {N : Nat} {G : Nat → ND} {a b i x y : Nat} {ord : List (Nat × Nat)} (h : SInv N G a b ord i) (hq : ord[i]? = some (x, y)) (hc : ¬ Can (G x) (G y)) : ¬ SubP G a b :=
  forced_no h.forced (List.mem_of_getElem? hq) hc

theorem SInv.step {N : Nat} {G : Nat → ND} {a b i x y : Nat} {ord ord' : List (Nat × Nat)} (h : SInv N G a b ord i) (hK : Kids N G) (hP : ∀ x, x < N → Plain (G x)) (hq : ord[i]? = some (x, y))
    (hs : (∃ t, ord' = ord ++ t) ∧ (x = y ∨ (Can (G x) (G y) ∧ ∀ d, d ∈ demP (G x) (G y) → atP (G x) (G y) d ∈ ord')) ∧ (∀ q, q ∈ ord' → q ∈ ord ∨ ∃ d, d ∈ demP (G x) (G y) ∧ q = atP (G x) (G y) d) ∧ (ord.Nodup → ord'.Nodup)) : SInv N G a b ord' (i + 1) ∧ ord.length ≤ ord'.length := by
  obtain ⟨⟨t, rfl⟩, hc, hm, hn⟩ := hs
  have hxy := h.bound _ (List.mem_of_getElem? hq)
  have hC : Can (G x) (G y) := by
    rcases hc with e | ⟨c, _⟩
    · subst e; exact can_refl _
    · exact c
  refine ⟨⟨List.mem_append_left _ h.first, fun q hq' => ?_, hn h.nodup, fun j q hj hq' => ?_, fun hsub q hq' => ?_⟩, by simp⟩
  · rcases hm q hq' with c | ⟨d, hd, rfl⟩
    · exact h.bound q c
    · obtain ⟨d1, d2⟩ := dem_lt (hP x hxy.1) (hP y hxy.2) hC hd
      unfold atP
      split
      · exact ⟨hK.lt hxy.2 d2, hK.lt hxy.1 d1⟩
      · exact ⟨hK.lt hxy.1 d1, hK.lt hxy.2 d2⟩
  · have hil : i < ord.length := (List.getElem?_eq_some_iff.1 hq).1
    rw [List.getElem?_append_left (by omega)] at hq'
    by_cases e : j = i
    · subst e
      rw [hq] at hq'
      have e2 : (x, y) = q := by simpa using hq'
      subst e2
      exact hc
    · exact (h.done j q (by omega) hq').imp id (fun z => ⟨z.1, fun d hd => List.mem_append_left _ (z.2 d hd)⟩)
  · rcases hm q hq' with c | ⟨d, hd, rfl⟩
    · exact h.forced hsub q c
    · exact (h.forced hsub _ (List.mem_of_getElem? hq)).dem hd

def WillPost (G : Nat → ND) (a b : Nat) (keep : Nat → Prop) (w : World) (e : Ending) (w' : World) : Prop :=
  ((e = .returned (.bool false) ∧ ¬ SubP G a b) ∨ (e = .returned (.bool true) ∧ SubP G a b)) ∧ Kept keep w w'

/-- The cells of a pair in its place. -/
theorem order_at {w : World} {kb mb : Nat} {ov : Value} {D : DataW Unit} {ord : List (Nat × Nat)} {keep : Nat → Prop} (h : Kn w kb mb ov D ord keep) {i : Nat} {q : Nat × Nat} (hq : ord[i]? = some q) :
    ∃ g cap, ov = .slice (some ⟨g, 0, none⟩) ord.length cap ∧ w.cell? ⟨g, i * 2, none⟩ = some (.int .i64 (q.1 : Int)) ∧ w.cell? ⟨g, i * 2 + 1, none⟩ = some (.int .i64 (q.2 : Int)) := by
  obtain ⟨hlt, _⟩ := List.getElem?_eq_some_iff.1 hq
  rcases h.own.2 with ⟨_, h0⟩ | ⟨g, cap, _, rfl, _⟩
  · omega
  · have hc := pcells_at hq
    exact ⟨g, cap, rfl, by rw [h.own.cellAt _ (by omega)]; exact hc.1, by rw [h.own.cellAt _ (by omega)]; exact hc.2⟩

set_option maxRecDepth 100000 in
set_option maxHeartbeats 8000000 in
theorem w36 {N gb go : Nat} {p : Nat → NP} {G : Nat → ND} (ao : Option Addr) (gc : Nat) (M : Nat) (keep : Nat → Prop) (a b : Nat) (w : World) (hk : ∀ k, keep k → k < w.heap.size) (hG : ∀ w', Kept keep w w' → NodesAt w' ao gb go N p G) (hM : ∀ w', Kept keep w w' → w'.cell? ⟨M, 0, none⟩ = some (.slice ao N gc)) (ha : a < N) (hb : b < N) (hK : Kids N G) (hP : ∀ x, x < N → Plain (G x)) (hS : ∀ x, x < N → Srt (G x)) (hN : N ≤ 4000) (hn : ∀ i, i < N → (G i).nn ≤ 1048576) :
    Calls Tryz.prog 31 #[.agg #[.int .i64 (a : Int), .int .i64 (b : Int)], .int .i64 9223372036854775807, .func (.func 45) #[] #[.pointer (some ⟨M, 0, none⟩)]] w (WillPost G a b keep w) := by
  have HK : Hid (Kids N G) := hK
  have HP : Hid (∀ x, x < N → Plain (G x)) := hP
  have HS : Hid (∀ x, x < N → Srt (G x)) := hS
  have HG : Hid (∀ w', Kept keep w w' → NodesAt w' ao gb go N p G) := hG
  have HM : Hid (∀ w', Kept keep w w' → w'.cell? ⟨M, 0, none⟩ = some (.slice ao N gc)) := hM
  have HNN : Hid (∀ i, i < N → (G i).nn ≤ 1048576) := hn
  clear hK hP hS hG hM hn
  go_enter Tryz.func31, Tryz.ntmps31
  go_wp2_with fail
  refine (c45 _ (fun k => keep k ∨ k = w.heap.size) (fun k h => by rcases h with h | h; (have := hk k h; simp; omega); (subst h; simp))).mono ?_
  rintro e w1 ⟨rfl, hKn1, hKp1⟩
  have R0 := (row2 w (.int .i64 (a : Int)) (.int .i64 (b : Int)) 51).of_block (hKp1.block w.heap.size (Or.inr rfl))
  have x0 : w1.cell? ⟨w.heap.size, 0, none⟩ = some (.int .i64 (a : Int)) := R0.cell (i := 0) (by omega)
  have x1 : w1.cell? ⟨w.heap.size, 1, none⟩ = some (.int .i64 (b : Int)) := R0.cell (i := 1) (by omega)
  have p1 : Kept keep w w1 := Kept.trans (show Kept keep w (w.alloc (.cells #[.int .i64 (a : Int), .int .i64 (b : Int)] 51)) from ⟨rfl, rfl, rfl, by simp, fun k h => Below.heap_alloc _ _ _ (hk k h)⟩) ⟨hKp1.os, hKp1.tape, hKp1.output, hKp1.size, fun k h => hKp1.block k (Or.inl h)⟩
  obtain ⟨kb, hkb⟩ : ∃ kb, kb = (w.alloc (.cells #[.int .i64 (a : Int), .int .i64 (b : Int)] 51)).heap.size + 1 := ⟨_, rfl⟩
  obtain ⟨mb, hmb⟩ : ∃ mb, mb = (w.alloc (.cells #[.int .i64 (a : Int), .int .i64 (b : Int)] 51)).heap.size := ⟨_, rfl⟩
  rw [← hmb] at hkb hKn1 ⊢
  rw [← hkb] at hKn1 ⊢
  clear hkb hmb hKp1 R0
  go_wp2_with fail
  refine (c46 kb mb _ _ _ _ a b _ hKn1 (by omega) (by omega) (by simp)).mono ?_
  rintro e w2 ⟨xx, ov2, D2, rfl, hKn2, hKp2⟩
  have hAdd : addP [] (a, b) = [(a, b)] := rfl
  rw [hAdd] at hKn2
  have HK2 : Hid (Kn w2 kb mb ov2 D2 [(a, b)] keep) := ⟨hKn2.row, hKn2.mlt, hKn2.map, hKn2.has, hKn2.own, fun k h => hKn2.far k (Or.inl h)⟩
  have HP2 : Hid (Kept keep w w2) := p1.trans ⟨hKp2.os, hKp2.tape, hKp2.output, hKp2.size, fun k h => hKp2.block k (Or.inl h)⟩
  clear hAdd hKn1 hKn2 hKp2 p1 x0 x1
  have hsq : N * N ≤ 16000000 := Nat.mul_le_mul hN hN
  go_wp2
  go_loopw [8] (fun s wr => ∃ (i : Nat) (ov : Value) (D : DataW Unit) (ord : List (Nat × Nat)), s = .int .i64 i ∧ i ≤ ord.length ∧ Hid (Kn wr kb mb ov D ord keep) ∧ Hid (Kept keep w wr) ∧ Hid (SInv N G a b ord i) ∧ ord.length ≤ N * N) (fun s _ => 16000001 - (intOf s).toNat)
  case atStart => exact ⟨0, ov2, D2, [(a, b)], rfl, by simp, HK2, HP2, SInv.start ha hb, (SInv.start (G := G) ha hb).len⟩
  case round =>
    obtain ⟨i, ov, D, ord, rfl, hi, HKN, HKP, HI, hol⟩ := hrel
    clear HK2 HP2
    have RK := HKN.out.row
    have o1 : wr.cell? ⟨kb, 1, none⟩ = some ov := RK.cell (i := 1) (by omega)
    by_cases hlt : i < ord.length
    case neg =>
      obtain ⟨oa, cap, hov⟩ := own_form HKN.out.own
      rw [hov] at o1
      have FIN : Hid (WillPost G a b keep w (.returned (.bool true)) wr) := ⟨Or.inr ⟨rfl, HI.out.end (by omega) HK.out HP.out HS.out⟩, HKP.out⟩
      clear HKN HI RK hov
      go_wp2
      go_ret
      exact FIN.out
    obtain ⟨q, hq⟩ : ∃ q, ord[i]? = some q := ⟨ord[i], List.getElem?_eq_getElem hlt⟩
    obtain ⟨g, cap, hov, c1, c2⟩ := order_at HKN.out hq
    have hqb := HI.out.bound q (List.mem_of_getElem? hq)
    obtain ⟨qx, qy⟩ := q
    have HQ : Hid (ord[i]? = some (qx, qy)) := hq
    simp only at c1 c2 hqb
    obtain ⟨hqx, hqy⟩ := hqb
    rw [hov] at o1
    have lz : (i : Int) < (ord.length : Int) := by omega
    have lm : ¬ ((9223372036854775807 : Int) < (ord.length : Int)) := by omega
    clear hq RK
    go_wp2_with fail
    refine (w44 ao gc M kb mb ov D ord keep qx qy wr HKN.out (fun w' hk' => HG.out w' (HKP.out.trans hk')) (HM.out _ HKP.out) hqx hqy HK.out HP.out HS.out (by omega) (by have := HNN.out qy hqy; omega)).mono ?_
    rintro e w' ⟨r, rfl, hO⟩
    cases r with
    | false =>
      have FIN : Hid (WillPost G a b keep w (.returned (.bool false)) w') := ⟨Or.inl ⟨rfl, HI.out.no HQ.out (hO.no rfl)⟩, HKP.out.trans hO.kept⟩
      clear hO HKN
      go_wp2
      go_ret
      exact FIN.out
    | true =>
      have HO : Hid (StepOut G qx qy ord kb mb keep wr true w') := hO
      obtain ⟨ov', D', ord', hKn', hst⟩ := hO.kn
      have HKN' : Hid (Kn w' kb mb ov' D' ord' keep) := hKn'
      have HKP' : Hid (Kept keep w w') := HKP.out.trans hO.kept
      have HI' : Hid (SInv N G a b ord' (i + 1) ∧ ord.length ≤ ord'.length) := HI.out.step HK.out HP.out HQ.out (hst rfl)
      clear hst hKn' hO HO HKN HI o1 c1 c2
      go_wp2
      go_roundw
      case rel =>
        obtain ⟨hI', hle⟩ := HI'.out
        exact ⟨i + 1, ov', D', ord', by go_num, by omega, HKN', HKP', hI', hI'.len⟩
      case measure => simp [intOf]; omega

end Go.Proofs.YtoanhnmpkonbfaaGreatDoor
