/-
  Merged for the claim: ReP SrcOpen.
-/
import Derived.Test.YtmcbmcjbgjnbhaaGreatDoorM28
import Derived.Test.YtmcbmcjbgjnbhaaGreatDoorM29
import Derived.Test.YtmcbmcjbgjnbhaaGreatDoorM22
import Derived.Test.YtmcbmcjbgjnbhaaGreatDoorProg
import Derived.ProofKit
import Derived.Deep.Slices
import Derived.Deep.Strs
namespace Go.Proofs.YtmcbmcjbgjnbhaaGreatDoor
open Go.RowKit Go.Maps Go.Sort

theorem e_own (w : World) {B1 B2 : Nat} {v u : Value} {ns : List ByteArray} (h1 : w.ownsRow B1 9 1 v ns.length (sts ns)) (h2 : w.ownsRow B2 9 1 u ns.length (sts ns)) (hl : ns.length ≤ 1000000) :
    Calls Tryz.prog 8 #[v, u] w fun e w' => e = .returned (.bool true) ∧ Below w.heap.size w w' := by
  obtain ⟨a, c, rfl⟩ := own_form h1
  obtain ⟨a', c', rfl⟩ := own_form h2
  obtain ⟨g, hg⟩ := nm_of_own rfl h1
  obtain ⟨g', hg'⟩ := nm_of_own rfl h2
  refine (e_names w hg hg' rfl hl).mono ?_
  rintro e w' ⟨rfl, k, rfl⟩
  exact ⟨rfl, below_drewN' w k⟩
theorem lv_own {w : World} {B : Nat} {v : Value} {ns : List ByteArray} (h : w.ownsRow B 9 1 v ns.length (sts ns)) : ∃ a g c, v = .slice a ns.length c ∧ (0 < ns.length → a = some ⟨g, 0, none⟩) ∧ Lv w (lN ⟨a, g, c⟩ ns.length) ∧ ∀ x, x ∈ lN ⟨a, g, c⟩ ns.length → B ≤ x.1 := by
  obtain ⟨a, c, rfl⟩ := own_form h
  obtain ⟨g, hg⟩ := nm_of_own rfl h
  have hne : 0 < ns.length → ns ≠ [] := fun hp e => by rw [e] at hp; exact absurd hp (Nat.lt_irrefl _)
  refine ⟨a, g, c, rfl, fun hp => (hg (hne hp)).1, fun x hx => ?_, fun x hx => ?_⟩
  · obtain ⟨e1, e2, e3⟩ := mem_lN hx
    obtain ⟨_, _, N, f, r, hl, _⟩ := hg (hne (by omega))
    have hr : w.rowIs g 9 N f := r
    have e1' : x.1 = g := e1
    refine ⟨by rw [e1']; exact ⟨9, N, f, hr⟩, f x.2.1, ?_⟩
    unfold lad
    rw [e1']
    exact hr.cell (by omega)
  · obtain ⟨e1, e2, e3⟩ := mem_lN hx
    have e1' : x.1 = g := e1
    rw [e1']
    exact (hg (hne (by omega))).2.1
theorem own_mkd {w w' : World} {A : List LA} {x B k m : Nat} {t : TypeId} {v : Value} {xs : List Value} (h : w.ownsRow B t k v m xs) (M : Mkd w w' A x) (hne : ∀ b, v.ownBlock = some b → ∀ a, a ∈ A → a.1 ≠ b) : w'.ownsRow B t k v m xs := own_block h (fun b e => M.block b (h.lt b e.symm).2 (hne b e.symm))
theorem below_mkd {w w1 w2 : World} {A : List LA} {x : Nat} (h : Below w.heap.size w w1) (M : Mkd w1 w2 A x) (hA : ∀ a, a ∈ A → w.heap.size ≤ a.1) : Below w.heap.size w w2 :=
  ⟨M.os.trans h.os, M.tape.trans h.tape, M.output.trans h.output, Nat.le_trans h.size M.size, fun k hk => (M.block k (Nat.lt_of_lt_of_le hk h.size) (fun a ha e => by have := hA a ha; omega)).trans (h.block k hk)⟩
theorem ownR_below {w w' : World} {B k m : Nat} {t : TypeId} {v : Value} {xs : List Value} (h : w.ownsRow B t k v m xs) (hb : Below w.heap.size w w') : w'.ownsRow B t k v m xs := own_block h (fun b e => hb.block b (h.lt b e.symm).2)
theorem reachA_len {S T : Nat → ByteArray} {n : Nat} {s : ByteArray} : (reachA S T n s).length ≤ 8000 := by
  unfold reachA
  split
  · rename_i h
    have h1 := (rchO_met S T n s).len
    have h2 := impU_len T n
    have h3 := vsr_le h
    rw [srtN_len]
    omega
  · exact Nat.zero_le _

set_option maxRecDepth 100000 in
set_option maxHeartbeats 4000000 in
theorem l_Reach {ao : Option Addr} {b o n c : Nat} {S T : Nat → ByteArray} (w : World) (h1 : SrcsAt w ao b o n S T) (s : ByteArray) (hs : s.size ≤ 9223372036854775807) (hgv : GV w) :
    Calls Tryz.prog 3 #[.slice ao n c, .string s] w fun e w' => e = .returned (.bool true) ∧ Below w.heap.size w w' := by
  have CS : Hid (Calls Tryz.prog 4 #[.slice ao n c, .int .i64 1048576] w fun e w' => ∃ r, e = .returned (.int .i64 r) ∧ Left 1048576 r (n ≤ 1048576 ∧ ∀ i, i < n → (S i).size ≤ 1048576 ∧ (T i).size ≤ 1048576) ∧ Below w.heap.size w w') := sc4 ao b o n c S T 1048576 w (by omega) (by omega) h1
  have HB : Hid (∀ W, Below w.heap.size w W → SrcsAt W ao b o n S T ∧ GV W) := fun W hb => ⟨h1.below hb, hgv.on hb⟩
  clear h1 hgv
  by_cases hbig : 1048576 < s.size
  · go_enter Tryz.func3, Tryz.ntmps3
    go_wp2
    go_ret
    exact ⟨rfl, Below.refl _ _⟩
  go_enter Tryz.func3, Tryz.ntmps3
  go_wp2_with fail
  refine CS.out.mono ?_
  rintro e w1 ⟨r, rfl, hL, b1⟩
  by_cases hr : r < 0
  · go_wp2
    go_ret
    exact ⟨rfl, b1⟩
  obtain ⟨hn1, hsz⟩ := hL.ok (by omega)
  obtain ⟨R, hR⟩ : ∃ R, R = reachA S T n s := ⟨_, rfl⟩
  have HRL : Hid (R.length ≤ 8000) := by show R.length ≤ 8000; rw [hR]; exact reachA_len
  have HTO : Hid (∀ W, Below w.heap.size w W → Calls Tryz.prog 6 #[.slice ao n c] W fun e w' => e = .returned (.slice (some ⟨W.heap.size, 0, none⟩) n n) ∧ SrcsAt w' (some ⟨W.heap.size, 0, none⟩) W.heap.size 0 n S T ∧ Below W.heap.size W w' ∧ W.heap.size < w'.heap.size ∧ ∃ f, w'.rowIs W.heap.size 38 (n * 2) f) := fun W hb => sc6 ao b o n c S T W (HB.out W hb).1 hn1
  have HSP : Hid (∀ (W : World) (X : Nat), SrcsAt W (some ⟨X, 0, none⟩) X 0 n S T → Calls Tryz.prog 5 #[.slice (some ⟨X, 0, none⟩) n n, .string s] W (ImpR W R)) := fun W X h => by rw [hR]; exact s_Reach W h s
  have HIM : Hid (∀ (W : World) (X : Nat), Below w.heap.size w W → SrcsAt W (some ⟨X, 0, none⟩) X 0 n S T → Calls Tryz.prog 7 #[.slice (some ⟨X, 0, none⟩) n n, .string s] W (ImpR W R)) := fun W X hb h => by rw [hR]; exact p_Reach W h (fun i hi => (hsz i hi).1) s hs (HB.out W hb).2
  have HB1 : Hid (Below w.heap.size w w1) := b1
  clear CS hL b1 hR hsz
  go_wp2_with fail
  refine (HTO.out w1 HB1.out).mono ?_
  rintro e w2 ⟨rfl, hS2, b2, _, _⟩
  have HB2 : Hid (Below w.heap.size w w2) := HB1.out.trans (b2.mono HB1.out.size)
  have C2 : Hid (Calls Tryz.prog 5 #[.slice (some ⟨w1.heap.size, 0, none⟩) n n, .string s] w2 (ImpR w2 R)) := HSP.out w2 _ hS2
  clear hS2 b2
  go_wp2_with fail
  refine C2.out.mono ?_
  rintro e w3 ⟨b3, v0, rfl, hO0⟩
  have HO0 : Hid (w3.ownsRow w.heap.size 9 1 v0 R.length (sts R)) := own_mono hO0 HB2.out.size
  have HB3 : Hid (Below w.heap.size w w3) := HB2.out.trans (b3.mono HB2.out.size)
  obtain ⟨a0, c0, hv0⟩ := own_form hO0
  obtain ⟨N, hN⟩ : ∃ N, N = R.length := ⟨_, rfl⟩
  rw [← hN] at hv0
  have HN : Hid (N = R.length) := hN
  subst hv0
  clear b3 hO0 hN C2
  go_wp2_with fail
  refine (HTO.out w3 HB3.out).mono ?_
  rintro e w4 ⟨rfl, hS4, b4, hlt4, fX, rX⟩
  have HB4 : Hid (Below w.heap.size w w4) := HB3.out.trans (b4.mono HB3.out.size)
  have HS4 : Hid (SrcsAt w4 (some ⟨w3.heap.size, 0, none⟩) w3.heap.size 0 n S T) := hS4
  have HK4 : Hid (Below w3.heap.size w3 w4 ∧ w3.heap.size < w4.heap.size) := ⟨b4, hlt4⟩
  have HRX : Hid (w4.rowIs w3.heap.size 38 (n * 2) fX) := rX
  have C4 : Hid (Calls Tryz.prog 7 #[.slice (some ⟨w3.heap.size, 0, none⟩) n n, .string s] w4 (ImpR w4 R)) := HIM.out w4 _ HB4.out hS4
  clear hS4 b4 rX hlt4
  go_wp2_with fail
  refine C4.out.mono ?_
  rintro e w5 ⟨b5, v1, rfl, hO1⟩
  have HO1 : Hid (w5.ownsRow w4.heap.size 9 1 v1 R.length (sts R)) := hO1
  obtain ⟨a1, c1, hv1⟩ := own_form hO1
  rw [← HN.out] at hv1
  subst hv1
  have HK5 : Hid (Below w4.heap.size w4 w5) := b5
  have HB5 : Hid (Below w.heap.size w w5) := HB4.out.trans (b5.mono HB4.out.size)
  have HZ5 : Hid (w5.ownsRow w.heap.size 9 1 (.slice a0 N c0) R.length (sts R)) := ownR_below (ownR_below HO0.out HK4.out.1) b5
  have C5 : Hid (Calls Tryz.prog 8 #[.slice a1 N c1, .slice a0 N c0] w5 fun e w' => e = .returned (.bool true) ∧ Below w5.heap.size w5 w') := e_own w5 HO1.out HZ5.out (by have := HRL.out; omega)
  clear b5 hO1 C4
  go_wp2_with fail
  refine C5.out.mono ?_
  rintro e w6 ⟨rfl, b6⟩
  have HK6 : Hid (Below w5.heap.size w5 w6) := b6
  have HB6 : Hid (Below w.heap.size w w6) := HB5.out.trans (b6.mono HB5.out.size)
  clear b6 C5
  go_wp2_with fail
  refine (HTO.out w6 HB6.out).mono ?_
  rintro e w7 ⟨rfl, hS7, b7, _, _⟩
  have B47 : Below w4.heap.size w4 w7 := (HK5.out.trans (HK6.out.mono HK5.out.size)).trans (b7.mono (Nat.le_trans HK5.out.size HK6.out.size))
  have HB7 : Hid (Below w.heap.size w w7) := HB6.out.trans (b7.mono HB6.out.size)
  have C7 : Hid (Calls Tryz.prog 9 #[.slice (some ⟨w3.heap.size, 0, none⟩) n n, .slice (some ⟨w6.heap.size, 0, none⟩) n n] w7 fun e w' => e = .returned (.bool true) ∧ Below w7.heap.size w7 w') := sc8 _ _ _ _ _ _ _ _ _ S T w7 (HS4.out.below B47) hS7
  have HK7 : Hid (Below w6.heap.size w6 w7) := b7
  clear hS7 b7 B47
  go_wp2_with fail
  refine C7.out.mono ?_
  rintro e w8 ⟨rfl, b8⟩
  have K58 : Below w5.heap.size w5 w8 := (HK6.out.trans (HK7.out.mono HK6.out.size)).trans (b8.mono (Nat.le_trans HK6.out.size HK7.out.size))
  have K48 : Below w4.heap.size w4 w8 := HK5.out.trans (K58.mono HK5.out.size)
  have HB8 : Hid (Below w.heap.size w w8) := HB7.out.trans (b8.mono HB7.out.size)
  have HA8 : Hid (w8.ownsRow w4.heap.size 9 1 (.slice a1 N c1) R.length (sts R)) := ownR_below HO1.out K58
  have HZ8 : Hid (w8.ownsRow w.heap.size 9 1 (.slice a0 N c0) R.length (sts R)) := ownR_below HZ5.out K58
  have rX8 := HRX.out.of_block (K48.block _ HRX.out.lt)
  have HLX : Hid (Lv w8 (lN ⟨some ⟨w3.heap.size, 0, none⟩, w3.heap.size, n⟩ (n * 2))) := fun x hx => by
    obtain ⟨e1, e2, e3⟩ := mem_lN hx
    have e1' : x.1 = w3.heap.size := e1
    refine ⟨by rw [e1']; exact ⟨_, _, _, rX8⟩, fX x.2.1, ?_⟩
    unfold lad
    rw [e1']
    exact rX8.cell e2
  have CM : Hid (Calls Tryz.prog 10 #[.slice (some ⟨w3.heap.size, 0, none⟩) n n, .int .i64 1] w8 fun e w' => e = .returned (.int .i64 ((1 + n * 2 : Nat) : Int)) ∧ Mkd w8 w' (lN ⟨some ⟨w3.heap.size, 0, none⟩, w3.heap.size, n⟩ (n * 2)) 1) := t_markSrcs 1 ⟨some ⟨w3.heap.size, 0, none⟩, w3.heap.size, n⟩ n 1 w8 rfl (fun _ => rfl) HLX.out (Nat.le_refl _) (by omega)
  obtain ⟨y, hy⟩ : ∃ y : Nat, y = 1 + n * 2 := ⟨_, rfl⟩
  rw [← hy] at CM
  have ny : ¬ (y : Int) < 0 := by omega
  clear K58 K48 b8 rX8 C7 hy
  go_wp2_with fail
  refine CM.out.mono ?_
  rintro e w9 ⟨rfl, M9⟩
  have HX9 : Hid (∀ x, x ∈ lN ⟨some ⟨w3.heap.size, 0, none⟩, w3.heap.size, n⟩ (n * 2) → x.1 = w3.heap.size) := fun x hx => (mem_lN hx).1
  have h34 := HK4.out.2
  have h3 := HB3.out.size
  have HA9 : Hid (w9.ownsRow w4.heap.size 9 1 (.slice a1 N c1) R.length (sts R)) := own_mkd HA8.out M9 (fun b e x hx e2 => by have := HX9.out x hx; have := (HA8.out.lt b e).1; omega)
  have HZ9 : Hid (w9.ownsRow w.heap.size 9 1 (.slice a0 N c0) R.length (sts R)) := own_mkd HZ8.out M9 (fun b e x hx e2 => by have := HX9.out x hx; have := (HO0.out.lt b e).2; omega)
  have HB9 : Hid (Below w.heap.size w w9) := below_mkd HB8.out M9 (fun x hx => by have := HX9.out x hx; omega)
  have C9 : Hid (Calls Tryz.prog 8 #[.slice a1 N c1, .slice a0 N c0] w9 fun e w' => e = .returned (.bool true) ∧ Below w9.heap.size w9 w') := e_own w9 HA9.out HZ9.out (by have := HRL.out; omega)
  clear M9 CM
  go_wp2_with fail
  refine C9.out.mono ?_
  rintro e w10 ⟨rfl, b10⟩
  have HA10 : Hid (w10.ownsRow w4.heap.size 9 1 (.slice a1 N c1) R.length (sts R)) := ownR_below HA9.out b10
  have HZ10 : Hid (w10.ownsRow w.heap.size 9 1 (.slice a0 N c0) R.length (sts R)) := ownR_below HZ9.out b10
  have HB10 : Hid (Below w.heap.size w w10) := HB9.out.trans (b10.mono HB9.out.size)
  obtain ⟨aa, g, cc, ev, hat, hlv, hlo⟩ := lv_own HA10.out
  rw [← HN.out] at ev hat hlv hlo
  simp only [Value.slice.injEq, true_and] at ev
  obtain ⟨rfl, rfl⟩ := ev
  have hN8 : N ≤ 8000 := by rw [HN.out]; exact HRL.out
  have CM2 : Hid (Calls Tryz.prog 11 #[.slice a1 N c1, .int .i64 1] w10 fun e w' => e = .returned (.int .i64 ((1 + N : Nat) : Int)) ∧ Mkd w10 w' (lN ⟨a1, g, c1⟩ N) 1) := t_markNames 1 ⟨a1, g, c1⟩ N 1 w10 rfl hat hlv (Nat.le_refl _) (by omega)
  obtain ⟨m, hm⟩ : ∃ m : Nat, m = 1 + N := ⟨_, rfl⟩
  rw [← hm] at CM2
  have HM : Hid (m = 1 + N) := hm
  have nm : ¬ (m : Int) < 0 := by omega
  have HAT : Hid (0 < N → a1 = some ⟨g, 0, none⟩) := hat
  have HLO : Hid (∀ x, x ∈ lN ⟨a1, g, c1⟩ N → w4.heap.size ≤ x.1) := hlo
  clear hm hat hlv hlo b10 C9
  go_wp2_with fail
  refine CM2.out.mono ?_
  rintro e w11 ⟨rfl, M11⟩
  have CH : Hid (Calls Tryz.prog 12 #[.slice a1 N c1, .int .i64 1] w11 fun e w' => e = .returned (.int .i64 ((1 + N : Nat) : Int)) ∧ Below w11.heap.size w11 w') := t_heldNames 1 ⟨a1, g, c1⟩ N 1 w11 rfl HAT.out M11.at_ (Nat.le_refl _) (by omega)
  rw [← HM.out] at CH
  have HB11 : Hid (Below w.heap.size w w11) := below_mkd HB10.out M11 (fun x hx => by have := HLO.out x hx; have := HB4.out.size; omega)
  have HZ11 : Hid (w11.ownsRow w.heap.size 9 1 (.slice a0 N c0) R.length (sts R)) := own_mkd HZ10.out M11 (fun b e x hx e2 => by have := HLO.out x hx; have := (HO0.out.lt b e).2; omega)
  clear M11 CM2
  go_wp2_with fail
  refine CH.out.mono ?_
  rintro e w12 ⟨rfl, b12⟩
  have HB12 : Hid (Below w.heap.size w w12) := HB11.out.trans (b12.mono HB11.out.size)
  have HZ12 : Hid (w12.ownsRow w.heap.size 9 1 (.slice a0 N c0) R.length (sts R)) := ownR_below HZ11.out b12
  clear b12 CH
  go_wp2_with fail
  refine (HTO.out w12 HB12.out).mono ?_
  rintro e w13 ⟨rfl, hS13, b13, _, _⟩
  have HB13 : Hid (Below w.heap.size w w13) := HB12.out.trans (b13.mono HB12.out.size)
  have HZ13 : Hid (w13.ownsRow w.heap.size 9 1 (.slice a0 N c0) R.length (sts R)) := ownR_below HZ12.out b13
  have C13 : Hid (Calls Tryz.prog 7 #[.slice (some ⟨w12.heap.size, 0, none⟩) n n, .string s] w13 (ImpR w13 R)) := HIM.out w13 _ HB13.out hS13
  clear hS13 b13
  go_wp2_with fail
  refine C13.out.mono ?_
  rintro e w14 ⟨b14, v2, rfl, hO2⟩
  obtain ⟨a2, c2, hv2⟩ := own_form hO2
  have HB14 : Hid (Below w.heap.size w w14) := HB13.out.trans (b14.mono HB13.out.size)
  have C14 : Hid (Calls Tryz.prog 8 #[v2, .slice a0 N c0] w14 fun e w' => e = .returned (.bool true) ∧ Below w14.heap.size w14 w') := e_own w14 hO2 (ownR_below HZ13.out b14) (by have := HRL.out; omega)
  rw [← HN.out] at hv2
  subst hv2
  clear b14 hO2 C13
  go_wp2_with fail
  refine C14.out.mono ?_
  rintro e w15 ⟨rfl, b15⟩
  have HB15 : Hid (Below w.heap.size w w15) := HB14.out.trans (b15.mono HB14.out.size)
  clear b15 C14
  go_wp2
  go_ret
  exact ⟨rfl, HB15.out⟩

end Go.Proofs.YtmcbmcjbgjnbhaaGreatDoor

namespace Go.Proofs.YtmcbmcjbgjnbhaaGreatDoor
open Go.ChangeShapes Go.WideShapes Go.ChangeAt Go.RowKit Go.Deep

theorem Tryz.cells9 : Tryz.prog.cellsOf 9 = 1 := by kernel_rfl
theorem Tryz.cells35 : Tryz.prog.cellsOf 35 = 2 := by kernel_rfl

theorem addr_plain {w : World} {a : Addr} {v : Value} (h : w.cell? (a.add 0) = some v) : a = ⟨a.block, a.off, none⟩ := by
  obtain ⟨b, o, s⟩ := a
  have hs : s = none := by simpa [Addr.add] using World.cell?_spot h
  subst hs; rfl

theorem addr_at {w : World} {a : Addr} {v : Value} {i : Nat} (hp : a = ⟨a.block, a.off, none⟩) (h : w.cell? (a.add i) = some v) : w.cell? ⟨a.block, a.off + i, none⟩ = some v := by
  rw [hp, add_plain] at h; exact h

section
variable {H : Type} {enc : TypeId × Value → H} {W : World} {held : Bool}

set_option maxRecDepth 4000 in
theorem src_open {fuel : Nat} {cs : List Value} {x : DataW H × List MemPlace} (h : DataW.trod enc Tryz.prog W 0 (fun _ => true) held fuel 35 cs = some x) :
    ∃ y : ByteArray × ByteArray, cs = [.string y.1, .string y.2] ∧ y.1.size ≤ maxLen ∧ y.2.size ≤ maxLen := by
  obtain ⟨y0, y1, n, _, hlen, h0, h1⟩ := trod_struct2 Tryz.underlying35 h
  rw [Tryz.cells35] at hlen
  match cs, hlen with
  | [v0, v1], _ =>
    simp only [Tryz.cells9, List.drop_zero, List.drop_succ_cons, List.take_succ_cons, List.take_zero] at h0 h1
    obtain ⟨s, hs, hsz⟩ := DataW.trod_string Tryz.underlying9 h0
    obtain ⟨t, ht, htz⟩ := DataW.trod_string Tryz.underlying9 h1
    simp only [List.cons.injEq, and_true] at hs ht
    subst hs ht
    exact ⟨(s, t), rfl, hsz.2, htz.2⟩

theorem srcs_open {fuel : Nat} {cs : List Value} {x : DataW H × List MemPlace} (h : DataW.trod enc Tryz.prog W 0 (fun _ => true) held fuel 22 cs = some x) :
    ∃ ao b o n c S T, cs = [.slice ao n c] ∧ SrcsAt W ao b o n S T := by
  rcases open_slice Tryz.underlying22 h with ⟨rfl, _⟩ | ⟨a, len, cap, m, n, D, Pl, rfl, _, hl, hm, hmm, _, hx⟩
  · exact ⟨none, 0, 0, 0, 0, fun _ => ByteArray.empty, fun _ => ByteArray.empty, rfl, ⟨fun h => absurd h (Nat.lt_irrefl _), fun i h => absurd h (Nat.not_lt_zero _), fun i h => absurd h (Nat.not_lt_zero _), fun i h => absurd h (Nat.not_lt_zero _), fun i h => absurd h (Nat.not_lt_zero _), by omega⟩⟩
  · simp only [if_true] at hmm
    subst hmm
    rw [Tryz.cells35] at hx
    have each : ∀ i, i < m → ∃ y : ByteArray × ByteArray, (W.cell? (a.add (i * 2)) = some (.string y.1) ∧ W.cell? (a.add (i * 2 + 1)) = some (.string y.2)) ∧ y.1.size ≤ maxLen ∧ y.2.size ≤ maxLen := by
      intro i hi
      obtain ⟨cs', h1, h2⟩ := hx i hi
      obtain ⟨y, rfl, hy⟩ := src_open h2
      obtain ⟨_, _, hc⟩ := World.cells?_some h1
      have e0 := hc 0 (by omega)
      have e1 := hc 1 (by omega)
      rw [add_add] at e0 e1
      exact ⟨y, ⟨e0, e1⟩, hy⟩
    obtain ⟨y, hy⟩ := choose_lt each
    unfold maxLen at hm hy
    have hp : 0 < len → a = ⟨a.block, a.off, none⟩ := fun hp => by
      have := (hy 0 (by omega)).1.1
      rw [Nat.zero_mul] at this
      exact addr_plain this
    refine ⟨some a, a.block, a.off, len, m, fun i => (y i).1, fun i => (y i).2, rfl, ⟨fun h => congrArg some (hp h), fun i hi => addr_at (hp (by omega)) (hy i (by omega)).1.1, fun i hi => ?_, fun i hi => ?_, fun i hi => ?_, by omega⟩⟩
    · have := addr_at (hp (by omega)) (hy i (by omega)).1.2
      rw [Nat.add_assoc]; exact this
    · have := (hy i (by omega)).2.1; omega
    · have := (hy i (by omega)).2.2; omega

end
end Go.Proofs.YtmcbmcjbgjnbhaaGreatDoor

