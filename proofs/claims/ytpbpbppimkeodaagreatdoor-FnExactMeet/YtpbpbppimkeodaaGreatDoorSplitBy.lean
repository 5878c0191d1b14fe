/-
  The contract of splitBy: the edges of one part, run by run.
-/
import Derived.Test.YtpbpbppimkeodaaGreatDoorSplit
namespace Go.Proofs.YtpbpbppimkeodaaGreatDoor
open Go.RowKit Go.Maps

def slLen : Value → Nat
  | .slice _ n _ => n
  | _ => 0

theorem wq_len {s : PS} (h : Wq s) : s.waiting.length ≤ s.nr := by
  have := len_le s.waiting (List.range s.nr) h.nodup (fun q hq => List.mem_range.2 (h.lt q hq))
  simpa using this

theorem nodes_len {N : Nat} {es : Nat → Nat × Nat} {m : Nat} (hf : ∀ i, i < m → (es i).2 < N) (hd : (nodesOf es m).Nodup) : m ≤ N := by
  have := len_le (nodesOf es m) (List.range N) hd (fun x hx => List.mem_range.2 (nodes_all hf (Nat.le_refl m) x hx))
  simpa [nodesOf] using this

theorem EdgesAt.sub {w : World} {ea : Option Addr} {eb eo m : Nat} {es : Nat → Nat × Nat} (h : EdgesAt w ea eb eo m es) {r k : Nat} (hk : r + k ≤ m) (ea' : Option Addr) (ha : 0 < k → ea' = some ⟨eb, eo + r * 2, none⟩) : EdgesAt w ea' eb (eo + r * 2) k (fun i => es (r + i)) :=
  ⟨ha, fun i hi => by
    have := h.c0 (r + i) (by omega)
    rw [show eo + (r + i) * 2 = eo + r * 2 + i * 2 by omega] at this; exact this, fun i hi => by
    have := h.c1 (r + i) (by omega)
    rw [show eo + (r + i) * 2 = eo + r * 2 + i * 2 by omega] at this; exact this⟩

set_option maxRecDepth 100000 in
set_option maxHeartbeats 4000000 in
theorem c73 (base pb bo ba N : Nat) (rv wv qv : Value) (rvs : Nat → Value) (s : PS) (G : Nat → ND) (C : Nat → Prop) (m ec eb eo : Nat) (ea : Option Addr) (es : Nat → Nat × Nat) (w : World) (h : Pt w base pb bo ba N rv wv qv rvs s) (hN : N ≤ 500000) (hm : m ≤ 1099511627776) (hec : m ≤ ec) (hK : Kids N G) (hC : ∀ u v, u < N → v < N → Same N G u v → (C u ↔ C v))
    (hE : EdgesAt w ea eb eo m es) (hG : Edges N G C m es) (hR : Run N G C m es s 0) (hoE : 0 < m → Off (pblk pb bo ba rv wv qv rvs s.nr) eb) :
    Calls Tryz.prog 83 #[.pointer (some ⟨pb, 0, none⟩), .slice ea m ec] w fun e w' => e = .returned (.tuple #[]) ∧ ∃ rv' wv' qv' rvs' s', Pt w' base pb bo ba N rv' wv' qv' rvs' s' ∧ Fr base w w' (pblk pb bo ba rv wv qv rvs s.nr) (pblk pb bo ba rv' wv' qv' rvs' s'.nr) ∧ Run N G C m es s' m ∧ s'.waiting.length + s.nr ≤ s.waiting.length + s'.nr := by
  have A1 := hE.at_
  have HE : Hid (EdgesAt w ea eb eo m es) := hE
  have HG : Hid (Edges N G C m es) := hG
  have HX : Hid (Kids N G ∧ ∀ u v, u < N → v < N → Same N G u v → (C u ↔ C v)) := ⟨hK, hC⟩
  have H0 : Hid (Pt w base pb bo ba N rv wv qv rvs s ∧ Fr base w w (pblk pb bo ba rv wv qv rvs s.nr) (pblk pb bo ba rv wv qv rvs s.nr) ∧ Run N G C m es s 0 ∧ s.waiting.length + s.nr ≤ s.waiting.length + s.nr) := ⟨h, Fr.of_below _ h.big.2.2.2 (Below.refl _ _), hR, Nat.le_refl _⟩
  clear hE hG hK hC hR h
  go_enter Tryz.func83, Tryz.ntmps83
  go_wp2
  go_loopw [1] (fun v wr => ∃ (r L c' : Nat) (ea' : Option Addr) (rv' wv' qv' : Value) (rvs' : Nat → Value) (s' : PS), v = .slice ea' L c' ∧ Hid (r + L = m) ∧ (0 < L → ea' = some ⟨eb, eo + r * 2, none⟩) ∧ L ≤ c' ∧ Hid (Pt wr base pb bo ba N rv' wv' qv' rvs' s' ∧ Fr base w wr (pblk pb bo ba rv wv qv rvs s.nr) (pblk pb bo ba rv' wv' qv' rvs' s'.nr) ∧ Run N G C m es s' r ∧ s'.waiting.length + s.nr ≤ s.waiting.length + s'.nr)) (fun v _ => slLen v)
  case atStart => exact ⟨0, m, ec, ea, rv, wv, qv, rvs, s, rfl, Nat.zero_add _, fun h => by rw [A1 h]; simp, hec, H0⟩
  case round =>
    clear H0
    obtain ⟨r, L, c', ea', rv', wv', qv', rvs', s', rfl, hrl, ha, hc', HI⟩ := hrel
    by_cases hlt : 0 < L
    · have e1 := ha hlt
      subst e1
      have hLm : L ≤ 1099511627776 := by have := hrl.out; omega
      have eblt : eb < w.heap.size := World.block_lt_of_cell? _ _ (HE.out.c0 r (by have := hrl.out; omega))
      have EW := HE.out.later (w' := wr) (fun h0 => HI.out.2.1.frame eb eblt (hoE h0))
      have HEW : Hid (EdgesAt wr ea eb eo m es) := EW
      have g0 := EW.c0 r (by have := hrl.out; omega)
      clear EW
      go_wp2
      go_loopw [4] (fun i wx => ∃ (q k : Nat), q ≤ L ∧ i = .int .i64 q ∧ wx = wr.drewN k ∧ Hid (∀ i, i < q → (es (r + i)).1 = (es r).1)) (fun i _ => L - (intOf i).toNat)
      case atStart => exact ⟨0, 0, Nat.zero_le _, rfl, rfl, fun i hi => absurd hi (Nat.not_lt_zero _)⟩
      case round =>
        obtain ⟨q, k, hq, rfl, hwx, HQ⟩ := hrel
        subst hwx
        by_cases hql : q < L
        · have f0 := HEW.out.c0 (r + q) (by have := hrl.out; omega)
          rw [show eo + (r + q) * 2 = eo + r * 2 + q * 2 by omega] at f0
          have hqi : (q : Int) < (L : Int) := by omega
          by_cases hp : (es (r + q)).1 = (es r).1
          · have HP : Hid ((es (r + q)).1 = (es r).1) := hp
            have bp : (((es (r + q)).1 : Int) == ((es r).1 : Int)) = true := by rw [beq_iff_eq]; omega
            clear hp
            have f0' : (World.drewN _ k).drew.cell? ⟨eb, eo + r * 2 + q * 2, none⟩ = some (.int .i64 ((es (r + q)).1 : Int)) := f0
            have g0' : (World.drewN _ k).drew.cell? ⟨eb, eo + r * 2, none⟩ = some (.int .i64 ((es r).1 : Int)) := g0
            go_wp2
            go_region
            go_wp2
            go_roundw
            case rel => exact ⟨q + 1, _, by omega, by go_num, rfl, fun i hi => by
              by_cases e : i = q
              · subst e; exact HP.out
              · exact HQ.out i (by omega)⟩
            case measure => simp [intOf]; omega
          · have hq0 : 0 < q := by
              apply Classical.byContradiction
              intro c
              have : q = 0 := by omega
              subst this
              exact hp rfl
            have HEN : Hid (r + q < m → (es (r + q)).1 ≠ (es r).1) := fun _ => hp
            have bp : (((es (r + q)).1 : Int) == ((es r).1 : Int)) = false := beq_eq_false_iff_ne.2 (by omega)
            clear hp
            have f0' : (World.drewN _ k).drew.cell? ⟨eb, eo + r * 2 + q * 2, none⟩ = some (.int .i64 ((es (r + q)).1 : Int)) := f0
            have g0' : (World.drewN _ k).drew.cell? ⟨eb, eo + r * 2, none⟩ = some (.int .i64 ((es r).1 : Int)) := g0
            have HPW : Hid (Pt (wr.drewN (k + 1)) base pb bo ba N rv' wv' qv' rvs' s') := HI.out.1.below (below_drewN (Below.refl _ _) _)
            have HOF : Hid (Off (pblk pb bo ba rv' wv' qv' rvs' s'.nr) eb) := HI.out.2.1.off eblt (hoE (by have := hrl.out; omega))
            have HND : Hid ((nodesOf (fun i => es (r + i)) q).Nodup) := by
              have z := run_nodup HG.out (r := r) (e := r + q) (by have := hrl.out; omega) (by omega) (fun i h1 h2 => by
                have := HQ.out (i - r) (by omega)
                rw [show r + (i - r) = i by omega] at this; exact this)
              rw [show r + q - r = q by omega] at z
              exact z
            have HFF : Hid (∀ i, i < q → (es (r + i)).2 < N) := fun i hi => (HG.out.into (r + i) (by have := hrl.out; omega)).1
            have HST : Hid (Run N G C m es (splitS s' (fun i => es (r + i)) q) (r + q) ∧ (splitS s' (fun i => es (r + i)) q).waiting.length + s'.nr ≤ s'.waiting.length + (splitS s' (fun i => es (r + i)) q).nr) := by
              have z := run_step HX.out.1 HX.out.2 HG.out HI.out.2.2.1 (e := r + q) (by omega) (by have := hrl.out; omega) (fun i h1 h2 => by
                have := HQ.out (i - r) (by omega)
                rw [show r + (i - r) = i by omega] at this; exact this) HEN.out
              rw [show r + q - r = q by omega] at z
              exact ⟨z, split_waiting HI.out.2.2.1.ok.wf HFF.out HND.out⟩
            have hqN := nodes_len HFF.out HND.out
            have hnN := full_le HI.out.2.2.1.ok.full
            have hwN := wq_len HI.out.2.2.1.ok.wq
            have C98 := c98 base pb bo ba N rv' wv' qv' rvs' s' q c' eb (eo + r * 2) (some ⟨eb, eo + r * 2, none⟩) (fun i => es (r + i)) (wr.drewN (k + 1)) HPW.out HI.out.2.2.1.ok.wf (by omega) (by omega) ((HEW.out.sub (r := r) (k := q) (by have := hrl.out; omega) _ (fun _ => rfl)).later (fun _ => rfl)) HFF.out (by omega) (by omega) HND.out (fun _ => HOF.out)
            go_wp2
            go_region
            go_wp2_with (first | (go_at_call 105; refine C98.mono ?_; rintro e w5 ⟨rfl, rv5, wv5, qv5, rvs5, P5, F5⟩))
            have FH : Hid (Pt w5 base pb bo ba N rv5 wv5 qv5 rvs5 (splitS s' (fun i => es (r + i)) q) ∧ Fr base w w5 (pblk pb bo ba rv wv qv rvs s.nr) (pblk pb bo ba rv5 wv5 qv5 rvs5 (splitS s' (fun i => es (r + i)) q).nr) ∧ Run N G C m es (splitS s' (fun i => es (r + i)) q) (r + q) ∧ (splitS s' (fun i => es (r + i)) q).waiting.length + s.nr ≤ s.waiting.length + (splitS s' (fun i => es (r + i)) q).nr) :=
              ⟨P5, (HI.out.2.1.trans (Fr.of_below _ HI.out.1.big.2.2.2 (below_drewN (Below.refl _ _) _))).trans F5, HST.out.1, by have := HST.out.2; have := HI.out.2.2.2; omega⟩
            clear C98 P5 F5
            go_wp2
            exact ⟨⟨r + q, L - q, c' - q, _, rv5, wv5, qv5, rvs5, _, rfl, by have := hrl.out; show r + q + (L - q) = m; omega, fun _ => by rw [show eo + (r + q) * 2 = eo + r * 2 + q * 2 by omega], by omega, FH⟩, by simp [slLen]; omega⟩
        · have e : q = L := by omega
          have HEN : Hid (r + q < m → (es (r + q)).1 ≠ (es r).1) := fun c => by have := hrl.out; omega
          have hq0 : 0 < q := by omega
          have hql' : ¬ (q : Int) < (L : Int) := by omega
          clear e
          have HPW : Hid (Pt (wr.drewN (k + 1)) base pb bo ba N rv' wv' qv' rvs' s') := HI.out.1.below (below_drewN (Below.refl _ _) _)
          have HOF : Hid (Off (pblk pb bo ba rv' wv' qv' rvs' s'.nr) eb) := HI.out.2.1.off eblt (hoE (by have := hrl.out; omega))
          have HND : Hid ((nodesOf (fun i => es (r + i)) q).Nodup) := by
            have z := run_nodup HG.out (r := r) (e := r + q) (by have := hrl.out; omega) (by omega) (fun i h1 h2 => by
              have := HQ.out (i - r) (by omega)
              rw [show r + (i - r) = i by omega] at this; exact this)
            rw [show r + q - r = q by omega] at z
            exact z
          have HFF : Hid (∀ i, i < q → (es (r + i)).2 < N) := fun i hi => (HG.out.into (r + i) (by have := hrl.out; omega)).1
          have HST : Hid (Run N G C m es (splitS s' (fun i => es (r + i)) q) (r + q) ∧ (splitS s' (fun i => es (r + i)) q).waiting.length + s'.nr ≤ s'.waiting.length + (splitS s' (fun i => es (r + i)) q).nr) := by
            have z := run_step HX.out.1 HX.out.2 HG.out HI.out.2.2.1 (e := r + q) (by omega) (by have := hrl.out; omega) (fun i h1 h2 => by
              have := HQ.out (i - r) (by omega)
              rw [show r + (i - r) = i by omega] at this; exact this) HEN.out
            rw [show r + q - r = q by omega] at z
            exact ⟨z, split_waiting HI.out.2.2.1.ok.wf HFF.out HND.out⟩
          have hqN := nodes_len HFF.out HND.out
          have hnN := full_le HI.out.2.2.1.ok.full
          have hwN := wq_len HI.out.2.2.1.ok.wq
          have C98 := c98 base pb bo ba N rv' wv' qv' rvs' s' q c' eb (eo + r * 2) (some ⟨eb, eo + r * 2, none⟩) (fun i => es (r + i)) (wr.drewN (k + 1)) HPW.out HI.out.2.2.1.ok.wf (by omega) (by omega) ((HEW.out.sub (r := r) (k := q) (by have := hrl.out; omega) _ (fun _ => rfl)).later (fun _ => rfl)) HFF.out (by omega) (by omega) HND.out (fun _ => HOF.out)
          go_wp2
          go_region
          go_wp2_with (first | (go_at_call 105; refine C98.mono ?_; rintro e w5 ⟨rfl, rv5, wv5, qv5, rvs5, P5, F5⟩))
          have FH : Hid (Pt w5 base pb bo ba N rv5 wv5 qv5 rvs5 (splitS s' (fun i => es (r + i)) q) ∧ Fr base w w5 (pblk pb bo ba rv wv qv rvs s.nr) (pblk pb bo ba rv5 wv5 qv5 rvs5 (splitS s' (fun i => es (r + i)) q).nr) ∧ Run N G C m es (splitS s' (fun i => es (r + i)) q) (r + q) ∧ (splitS s' (fun i => es (r + i)) q).waiting.length + s.nr ≤ s.waiting.length + (splitS s' (fun i => es (r + i)) q).nr) :=
            ⟨P5, (HI.out.2.1.trans (Fr.of_below _ HI.out.1.big.2.2.2 (below_drewN (Below.refl _ _) _))).trans F5, HST.out.1, by have := HST.out.2; have := HI.out.2.2.2; omega⟩
          clear C98 P5 F5
          go_wp2
          exact ⟨⟨r + q, L - q, c' - q, _, rv5, wv5, qv5, rvs5, _, rfl, by have := hrl.out; show r + q + (L - q) = m; omega, fun c => by omega, by omega, FH⟩, by simp [slLen]; omega⟩
    · have e : L = 0 := by omega
      have hrm : r = m := by have := hrl.out; omega
      have FH : Hid (Pt wr base pb bo ba N rv' wv' qv' rvs' s' ∧ Fr base w wr (pblk pb bo ba rv wv qv rvs s.nr) (pblk pb bo ba rv' wv' qv' rvs' s'.nr) ∧ Run N G C m es s' m ∧ s'.waiting.length + s.nr ≤ s.waiting.length + s'.nr) := by
        have z := HI.out
        rw [hrm] at z
        exact z
      clear HI hrm
      subst e
      go_wp2
      exact bodyPost_end (v := .tuple #[]) (by simp [results, Tryz.results83]) rfl ⟨rfl, _, _, _, _, _, FH.out⟩
end Go.Proofs.YtpbpbppimkeodaaGreatDoor
