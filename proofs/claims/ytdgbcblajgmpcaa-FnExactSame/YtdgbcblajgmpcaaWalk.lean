/-
  The walk over all pairs that are come to.
-/
import Derived.Test.YtdgbcblajgmpcaaStep
namespace Go.Proofs.Ytdgbcblajgmpcaa
open Go.RowKit

def WalkPost (B : Nat) (w0 : World) (N : Nat) (G : Nat → ND) (a b : Nat) (e : Ending) (w' : World) : Prop :=
  ((e = .returned (.bool false) ∧ ¬ Same N G a b) ∨ (e = .returned (.bool true) ∧ Same N G a b)) ∧ Kept (fun k => k < B) w0 w'

theorem pcells_at {ord : List (Nat × Nat)} : ∀ {i : Nat} {q : Nat × Nat}, ord[i]? = some q → (pcells ord)[i * 2]? = some (.int .i64 (q.1 : Int)) ∧ (pcells ord)[i * 2 + 1]? = some (.int .i64 (q.2 : Int)) := by
  induction ord with
  | nil => intro i q h; simp at h
  | cons z t ih =>
    intro i q h
    cases i with
    | zero => simp at h; subst h; simp [pcells]
    | succ i =>
      have h' : t[i]? = some q := by simpa using h
      obtain ⟨h1, h2⟩ := ih h'
      have e : pcells (z :: t) = .int .i64 (z.1 : Int) :: .int .i64 (z.2 : Int) :: pcells t := by simp [pcells]
      rw [e]
      refine ⟨?_, ?_⟩
      · rw [show (i + 1) * 2 = i * 2 + 1 + 1 from by omega]; simpa using h1
      · rw [show (i + 1) * 2 + 1 = i * 2 + 1 + 1 + 1 from by omega]; simpa using h2

/-- The cells of a pair in its place. -/
theorem order_at {w : World} {kb mb : Nat} {ov : Value} {D : DataW Unit} {ord : List (Nat × Nat)} {keep : Nat → Prop} (h : Kn w kb mb ov D ord keep) {i : Nat} {q : Nat × Nat} (hq : ord[i]? = some q) :
    ∃ g cap, ov = .slice (some ⟨g, 0, none⟩) ord.length cap ∧ w.cell? ⟨g, i * 2, none⟩ = some (.int .i64 (q.1 : Int)) ∧ w.cell? ⟨g, i * 2 + 1, none⟩ = some (.int .i64 (q.2 : Int)) := by
  obtain ⟨hlt, _⟩ := List.getElem?_eq_some_iff.1 hq
  rcases h.own.2 with ⟨_, h0⟩ | ⟨g, cap, _, rfl, _⟩
  · omega
  · have hc := pcells_at hq
    exact ⟨g, cap, rfl, by rw [h.own.cellAt _ (by omega)]; exact hc.1, by rw [h.own.cellAt _ (by omega)]; exact hc.2⟩

theorem sq_le {N : Nat} (h : N ≤ 4000) : N * N ≤ 16000000 := Nat.mul_le_mul h h

set_option maxRecDepth 100000 in
set_option maxHeartbeats 8000000 in
theorem c17 (B : Nat) (w0 : World) (M lb N : Nat) (ao : Option Addr) (gb go gc : Nat) (p : Nat → NP) (G : Nat → ND) (a b : Nat) (w : World)
    (hL : Lead w M lb N (fun n => n)) (hg : w.cell? ⟨M, 0, none⟩ = some (.slice ao N gc)) (hkp : Kept (fun k => k < B) w0 w) (hlo : B ≤ lb) (hB : w0.heap.size = B) (hG : NodesAt w0 ao gb go N p G) (hv : vgr N G = true) (ha : a < N) (hb : b < N) (hn : ∀ i, i < N → (G i).nk ≤ 1048576) :
    Calls Try.prog 17 #[.agg #[.int .i64 (a : Int), .int .i64 (b : Int)], .int .i64 9223372036854775807, .func (.func 18) #[.pointer (some ⟨M, 0, none⟩)] #[]] w (WalkPost B w0 N G a b) := by
  have hN := vgr_size hv
  have HK : Hid (Kids N G) := vgr_kids hv
  have HV : Hid (vgr N G = true) := hv
  have HG : Hid (NodesAt w0 ao gb go N p G) := hG
  have HB : Hid (w0.heap.size = B) := hB
  have HNK : Hid (∀ i, i < N → (G i).nk ≤ 1048576) := hn
  have hMs : M < w.heap.size := World.block_lt_of_cell? _ _ hg
  have hls := hL.row.lt
  have hBs : ∀ k, k < B → k < w.heap.size := fun k q => by have := hkp.size; omega
  clear hv hG hn hB
  go_enter Try.func17, Try.ntmps17
  go_wp2_with fail
  refine (c25 _ (fun k => k < B ∨ k = M ∨ k = lb ∨ k = w.heap.size) (fun k h => by rcases h with h | h | h | h; (have := hBs k h; simp; omega); (subst h; simp; omega); (subst h; simp; omega); (subst h; simp))).mono ?_
  rintro e w1 ⟨rfl, hKn1, hKp1⟩
  have R0 := (row2 w (.int .i64 (a : Int)) (.int .i64 (b : Int)) 45).of_block (hKp1.block w.heap.size (Or.inr (Or.inr (Or.inr rfl))))
  have x0 : w1.cell? ⟨w.heap.size, 0, none⟩ = some (.int .i64 (a : Int)) := R0.cell (i := 0) (by omega)
  have x1 : w1.cell? ⟨w.heap.size, 1, none⟩ = some (.int .i64 (b : Int)) := R0.cell (i := 1) (by omega)
  have l1 : Lead w1 M lb N (fun n => n) := ⟨(hKp1.cell (a := ⟨M, 1, none⟩) (Or.inr (Or.inl rfl))).trans (by rw [World.cell?_alloc_old _ _ _ (by show M ≠ w.heap.size; omega)]; exact hL.head), (hL.row.alloc _).of_block (hKp1.block lb (Or.inr (Or.inr (Or.inl rfl)))), hL.ne⟩
  have g1 : w1.cell? ⟨M, 0, none⟩ = some (.slice ao N gc) := (hKp1.cell (a := ⟨M, 0, none⟩) (Or.inr (Or.inl rfl))).trans (by rw [World.cell?_alloc_old _ _ _ (by show M ≠ w.heap.size; omega)]; exact hg)
  have p1 : Kept (fun k => k < B) w0 w1 := (hkp.trans (show Kept (fun k => k < B) w (w.alloc (.cells #[.int .i64 (a : Int), .int .i64 (b : Int)] 45)) from ⟨rfl, rfl, rfl, by simp, fun k h => Below.heap_alloc _ _ _ (hBs k h)⟩)).trans (hKp1.fewer (fun k h => Or.inl h))
  obtain ⟨kb, hkb⟩ : ∃ kb, kb = (w.alloc (.cells #[.int .i64 (a : Int), .int .i64 (b : Int)] 45)).heap.size + 1 := ⟨_, rfl⟩
  obtain ⟨mb, hmb⟩ : ∃ mb, mb = (w.alloc (.cells #[.int .i64 (a : Int), .int .i64 (b : Int)] 45)).heap.size := ⟨_, rfl⟩
  rw [← hmb] at hkb hKn1 ⊢
  rw [← hkb] at hKn1 ⊢
  clear hkb hmb hKp1 R0 hL hg hkp
  go_wp2_with fail
  refine (c26 kb mb _ _ _ _ a b _ hKn1 (by omega) (by omega) (by simp)).mono ?_
  rintro e w2 ⟨xx, ov2, D2, rfl, hKn2, hKp2⟩
  have hAdd : addP [] (a, b) = [(a, b)] := rfl
  rw [hAdd] at hKn2
  have E2 : Eng B w0 w2 M lb kb mb ov2 D2 N (.slice ao N gc) (fun n => n) [(a, b)] :=
    ⟨p1.trans (hKp2.fewer (fun k h => Or.inl h)), ⟨(hKp2.cell (a := ⟨M, 1, none⟩) (Or.inr (Or.inl rfl))).trans l1.head, l1.row.of_block (hKp2.block lb (Or.inr (Or.inr (Or.inl rfl)))), l1.ne⟩, (hKp2.cell (a := ⟨M, 0, none⟩) (Or.inr (Or.inl rfl))).trans g1,
      hKn2.fewer (fun k h => by rcases h with h | h | h; exact Or.inl h; exact Or.inr (Or.inl h); exact Or.inr (Or.inr (Or.inl h))), hlo⟩
  clear hAdd hKn1 hKn2 hKp2 l1 g1 p1 x0 x1 hlo
  have hsq := sq_le hN
  go_wp2
  go_loopw [8] (fun s wr => ∃ (i : Nat) (ov : Value) (D : DataW Unit) (L ρ d : Nat → Nat) (ord Ms : List (Nat × Nat)), s = .int .i64 i ∧ i ≤ ord.length ∧ Eng B w0 wr M lb kb mb ov D N (.slice ao N gc) L ord ∧ Hid (UF N L ρ d) ∧ Hid (Inv N G a b ord i ρ Ms) ∧ ord.length ≤ N * N) (fun s _ => 16000001 - (intOf s).toNat)
  case atStart => exact ⟨0, ov2, D2, fun n => n, fun n => n, fun _ => 0, [(a, b)], [], rfl, by simp, E2, UF.start N, Inv.start ha hb, (Inv.start (G := G) ha hb).len⟩
  case round =>
    obtain ⟨i, ov, D, L, ρ, d, ord, Ms, rfl, hi, hE, HU, HI, hol⟩ := hrel
    clear E2
    have RK := hE.kn.row
    have o1 : wr.cell? ⟨kb, 1, none⟩ = some ov := RK.cell (i := 1) (by omega)
    by_cases hlt : i < ord.length
    case neg =>
      obtain ⟨oa, cap, hov⟩ := own_form hE.kn.own
      rw [hov] at o1
      have FIN : Hid (WalkPost B w0 N G a b (.returned (.bool true)) wr) := ⟨Or.inr ⟨rfl, HI.out.done (by omega)⟩, hE.kept⟩
      clear hE HI HU RK hov
      go_wp2
      go_ret
      exact FIN.out
    obtain ⟨q, hq⟩ : ∃ q, ord[i]? = some q := ⟨ord[i], List.getElem?_eq_getElem hlt⟩
    obtain ⟨g, cap, hov, c1, c2⟩ := order_at hE.kn hq
    have HQ : Hid (ord[i]? = some q) := hq
    have hqb := HI.out.bound q (List.mem_of_getElem? hq)
    obtain ⟨qx, qy⟩ := q
    simp only at c1 c2 hqb
    obtain ⟨hqx, hqy⟩ := hqb
    rw [hov] at o1
    have lz : (i : Int) < (ord.length : Int) := by omega
    have lm : ¬ ((9223372036854775807 : Int) < (ord.length : Int)) := by omega
    clear hq RK hov
    go_wp2_with fail
    refine (c18 B w0 M lb kb mb ov D N ao gb go gc p G L ρ d ord qx qy wr hE HU.out HB.out HG.out HV.out hqx hqy (by omega) (HNK.out qx hqx)).mono ?_
    intro e w' hP
    rcases hP with ⟨rfl, hnl, hkw⟩ | ⟨rfl, ov', D', L', ρ', d', ord', hE', hU', hcase⟩
    · have FIN : Hid (WalkPost B w0 N G a b (.returned (.bool false)) w') := ⟨Or.inl ⟨rfl, HI.out.apart HQ.out hnl⟩, hkw⟩
      clear hnl hkw hE
      go_wp2
      go_ret
      exact FIN.out
    · have HI' : Hid (∃ Ms', Inv N G a b ord' (i + 1) ρ' Ms' ∧ ord.length ≤ ord'.length) := by
        rcases hcase with ⟨h1, h2, h3⟩ | ⟨h1, h2, h3, h4⟩
        · subst h2 h3; exact ⟨Ms, HI.out.known HQ.out h1, Nat.le_refl _⟩
        · subst h3 h4; exact ⟨_, HI.out.merged HK.out HQ.out h2 h1, (addKids_le _ _ _ _).1⟩
      have HU' : Hid (UF N L' ρ' d') := hU'
      clear hcase hU' hE HI HU o1 c1 c2
      go_wp2
      go_roundw
      case rel =>
        obtain ⟨Ms', hI', hle⟩ := HI'.out
        exact ⟨i + 1, ov', D', L', ρ', d', ord', Ms', by go_num, by omega, hE', HU', hI', hI'.len⟩
      case measure => simp [intOf]; omega

end Go.Proofs.Ytdgbcblajgmpcaa
