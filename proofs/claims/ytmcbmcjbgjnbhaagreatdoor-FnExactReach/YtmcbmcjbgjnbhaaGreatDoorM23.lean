/-
  Merged for the claim: RaA RbA RbB RbC RaD ReA ReB.
-/
import Derived.Test.YtmcbmcjbgjnbhaaGreatDoorM01
import Derived.Test.YtmcbmcjbgjnbhaaGreatDoorPgL
import Derived.Test.YtmcbmcjbgjnbhaaGreatDoorM22
import Derived.Test.YtmcbmcjbgjnbhaaGreatDoorM05
import Derived.Test.YtmcbmcjbgjnbhaaGreatDoorM04
namespace Go.Proofs.YtmcbmcjbgjnbhaaGreatDoor

theorem ba_ext {a b : ByteArray} (h : a.data.toList = b.data.toList) : a = b := by
  cases a; cases b
  simp only [ByteArray.mk.injEq]
  exact Array.toList_inj.1 h
theorem hasN_iff {l : List ByteArray} {s : ByteArray} : hasN l s = true ↔ s ∈ l := by
  unfold hasN
  rw [List.any_eq_true]
  constructor
  · rintro ⟨x, hx, he⟩
    rw [← ba_ext (beq_iff_eq.1 he)]
    exact hx
  · intro h
    exact ⟨s, h, beq_iff_eq.2 rfl⟩
/-- The names of a list, each once, behind those that are there. -/
def addN (out : List ByteArray) : List ByteArray → List ByteArray
  | [] => out
  | s :: l => if hasN out s then addN out l else addN (out ++ [s]) l
theorem addN_pre : ∀ (l out : List ByteArray), ∃ r, addN out l = out ++ r
  | [], out => ⟨[], by rw [List.append_nil]; rfl⟩
  | s :: l, out => by
    unfold addN
    split
    · exact addN_pre l out
    · obtain ⟨r, h⟩ := addN_pre l (out ++ [s])
      exact ⟨s :: r, by rw [h, List.append_assoc]; rfl⟩
theorem addN_mem : ∀ (l out : List ByteArray) (x : ByteArray), x ∈ addN out l ↔ x ∈ out ∨ x ∈ l
  | [], out, x => by simp [addN]
  | s :: l, out, x => by
    unfold addN
    split
    · rename_i h
      rw [addN_mem l out x, List.mem_cons]
      constructor
      · rintro (h1 | h1)
        · exact .inl h1
        · exact .inr (.inr h1)
      · rintro (h1 | rfl | h1)
        · exact .inl h1
        · exact .inl (hasN_iff.1 h)
        · exact .inr h1
    · rw [addN_mem l (out ++ [s]) x, List.mem_append, List.mem_singleton, List.mem_cons, or_assoc]
theorem addN_nodup : ∀ (l out : List ByteArray), out.Nodup → (addN out l).Nodup
  | [], _, h => h
  | s :: l, out, h => by
    unfold addN
    split
    · exact addN_nodup l out h
    · rename_i hn
      refine addN_nodup l _ ?_
      rw [List.nodup_append]
      refine ⟨h, by simp, fun a ha b hb e => ?_⟩
      rw [List.mem_singleton.1 hb] at e
      exact hn (hasN_iff.2 (e ▸ ha))
theorem addN_snoc (out l : List ByteArray) (s : ByteArray) : addN out (l ++ [s]) = if hasN (addN out l) s then addN out l else addN out l ++ [s] := by
  induction l generalizing out with
  | nil => rfl
  | cons a l ih =>
    show addN out (a :: (l ++ [s])) = _
    unfold addN
    split
    · exact ih out
    · exact ih (out ++ [a])
/-- All that is reached: the names are gone through one after the other. -/
def rch (I : ByteArray → List ByteArray) : Nat → Nat → List ByteArray → List ByteArray
  | 0, _, out => out
  | f + 1, i, out => if i < out.length then rch I f (i + 1) (addN out (I (out.getD i ByteArray.empty))) else out
theorem nodup_len : ∀ {l U : List ByteArray}, l.Nodup → (∀ x, x ∈ l → x ∈ U) → l.length ≤ U.length
  | [], _, _, _ => Nat.zero_le _
  | x :: l, U, hn, hs => by
    obtain ⟨U1, U2, rfl⟩ := List.append_of_mem (hs x (List.mem_cons_self ..))
    have h := nodup_len (l := l) (U := U1 ++ U2) (List.nodup_cons.1 hn).2 (fun y hy => by
      have h1 := hs y (List.mem_cons_of_mem _ hy)
      rw [List.mem_append, List.mem_cons] at h1
      rw [List.mem_append]
      rcases h1 with h1 | rfl | h1
      · exact .inl h1
      · exact absurd hy (List.nodup_cons.1 hn).1
      · exact .inr h1)
    rw [List.length_append] at h
    rw [List.length_cons, List.length_append, List.length_cons]
    omega
/-- Names that are met: each once, all of them out of U. -/
structure Met (U out : List ByteArray) : Prop where
  nd : out.Nodup
  sub : ∀ x, x ∈ out → x ∈ U
theorem Met.len {U out : List ByteArray} (h : Met U out) : out.length ≤ U.length := nodup_len h.nd h.sub
theorem Met.add {U out l : List ByteArray} (h : Met U out) (hl : ∀ x, x ∈ l → x ∈ U) : Met U (addN out l) :=
  ⟨addN_nodup l out h.nd, fun x hx => by
    rcases (addN_mem l out x).1 hx with z | z
    · exact h.sub x z
    · exact hl x z⟩
theorem Met.nil (U : List ByteArray) : Met U [] := ⟨List.nodup_nil, fun x hx => by cases hx⟩
theorem rch_step {I : ByteArray → List ByteArray} {f i : Nat} {out : List ByteArray} (h : i < out.length) : rch I (f + 1) i out = rch I f (i + 1) (addN out (I (out.getD i ByteArray.empty))) := by
  rw [rch, if_pos h]
theorem rch_end {I : ByteArray → List ByteArray} {f i : Nat} {out : List ByteArray} (h : ¬ i < out.length) : rch I f i out = out := by
  cases f with
  | zero => rfl
  | succ f => rw [rch, if_neg h]
theorem rch_met {I : ByteArray → List ByteArray} {U : List ByteArray} (hI : ∀ s x, x ∈ I s → x ∈ U) : ∀ (f i : Nat) (out : List ByteArray), Met U out → Met U (rch I f i out)
  | 0, _, _, h => h
  | f + 1, i, out, h => by
    unfold rch
    split
    · exact rch_met hI f (i + 1) _ (h.add (hI _))
    · exact h

end Go.Proofs.YtmcbmcjbgjnbhaaGreatDoor

namespace Go.Proofs.YtmcbmcjbgjnbhaaGreatDoor
open Go.RowKit

/-- The place of a source. -/
def srcI (S : Nat → ByteArray) (n : Nat) (s : ByteArray) : Option Nat := (List.range n).find? fun i => (S i).toList == s.toList
theorem srcI_no {S : Nat → ByteArray} {n : Nat} {s : ByteArray} (h : ∀ j, j < n → ((S j).toList == s.toList) = false) : srcI S n s = none := by
  unfold srcI
  rw [List.find?_eq_none]
  intro j hj
  rw [h j (List.mem_range.1 hj)]
  exact Bool.false_ne_true
theorem srcI_yes {S : Nat → ByteArray} {n k : Nat} {s : ByteArray} (hk : k < n) (h : ∀ j, j < k → ((S j).toList == s.toList) = false) (e : ((S k).toList == s.toList) = true) : srcI S n s = some k := by
  unfold srcI
  rw [List.find?_range_eq_some]
  exact ⟨e, List.mem_range.2 hk, fun j hj => by rw [h j hj]; rfl⟩
/-- The place, -1 if it is not there. -/
def plI : Option Nat → Int
  | none => -1
  | some k => k

set_option maxRecDepth 100000 in
set_option maxHeartbeats 1000000 in
/-- l3Source. -/
theorem m_source {ao : Option Addr} {b o n c : Nat} {S T : Nat → ByteArray} (w : World) (h1 : SrcsAt w ao b o n S T) (s : ByteArray) :
    Calls Tryz.prog 42 #[.slice ao n c, .string s] w fun e w' => e = .returned (.int .i64 (plI (srcI S n s))) ∧ ∃ m, w' = w.drewN m := by
  have hlen := h1.len
  have A1 := h1.at_
  have HB : Hid (SrcsAt w ao b o n S T) := h1
  clear h1
  obtain ⟨r, hr⟩ : ∃ r, r = plI (srcI S n s) := ⟨_, rfl⟩
  have HR : Hid (r = plI (srcI S n s)) := hr
  rw [← hr]
  clear hr
  go_enter Tryz.func42, Tryz.ntmps42
  go_wp2
  go_loopw [5] (fun i wr => ∃ k : Nat, k ≤ n ∧ i = .int .i64 k ∧ Hid (∀ j, j < k → ((S j).toList == s.toList) = false) ∧ ∃ m, wr = w.drewN m) (fun i _ => n - (intOf i).toNat)
  case atStart => exact ⟨0, Nat.zero_le _, rfl, fun j h => absurd h (Nat.not_lt_zero _), 0, rfl⟩
  case round =>
    obtain ⟨k, hk, rfl, HA, m, rfl⟩ := hrel
    by_cases hlt : k < n
    · have e1 := A1 (by omega)
      have g0 := HB.out.c0 k hlt
      subst e1
      cases r0 : ((S k).toList == s.toList)
      · have HS : Hid (((S k).toList == s.toList) = false) := r0
        go_wp2
        go_roundw
        case rel => exact ⟨k + 1, by omega, by go_num, fun j hj => by
          by_cases e : j = k
          · subst e; exact HS.out
          · exact HA.out j (by omega), _, rfl⟩
        case measure => simp [intOf]; omega
      · have HS : Hid (((S k).toList == s.toList) = true) := r0
        go_wp2
        go_ret
        refine ⟨?_, _, rfl⟩
        rw [HR.out, srcI_yes hlt HA.out HS.out]
        rfl
    · have hkn : k = n := by omega
      subst hkn
      go_wp2
      go_ret
      refine ⟨?_, _, rfl⟩
      rw [HR.out, srcI_no HA.out]
      rfl

end Go.Proofs.YtmcbmcjbgjnbhaaGreatDoor

namespace Go.Proofs.YtmcbmcjbgjnbhaaGreatDoor
open Go.RowKit

/-- The declarations of a module, none if it is not present. -/
def dsOf (S T : Nat → ByteArray) (n : Nat) (s : ByteArray) : List DC :=
  match srcI S n s with
  | none => []
  | some i => decs false ((toks (T i)).length + 1) (toks (T i))
theorem srcI_lt {S : Nat → ByteArray} {n i : Nat} {s : ByteArray} (h : srcI S n s = some i) : i < n := by
  unfold srcI at h
  exact List.mem_range.1 (List.mem_of_find?_eq_some h)

theorem md_decls (v : Value) (w : World) : Sem.run Tryz.prog (Instr.field 72 (.agg #[v]) 0) w = .ok v w := by
  kernel_rfl

set_option maxRecDepth 100000 in
set_option maxHeartbeats 1000000 in
/-- l3Decls. -/
theorem m_decls {ao : Option Addr} {b o n c : Nat} {S T : Nat → ByteArray} (w : World) (h1 : SrcsAt w ao b o n S T) (s : ByteArray) :
    Calls Tryz.prog 33 #[.slice ao n c, .string s] w fun e w' => Below w.heap.size w w' ∧ ∃ v xs, e = .returned v ∧ RD w.heap.size w' v xs ∧ xs.map Prod.fst = dsOf S T n s := by
  have hlen := h1.len
  have A1 := h1.at_
  have HB : Hid (SrcsAt w ao b o n S T) := h1
  have C1 : Hid (Calls Tryz.prog 42 #[.slice ao n c, .string s] w fun e w' => e = .returned (.int .i64 (plI (srcI S n s))) ∧ ∃ m, w' = w.drewN m) := m_source w h1 s
  clear h1
  obtain ⟨r, hr⟩ : ∃ r, r = srcI S n s := ⟨_, rfl⟩
  rw [← hr] at C1
  have HR : Hid (srcI S n s = r) := hr.symm
  clear hr
  cases r with
  | none =>
    go_enter Tryz.func33, Tryz.ntmps33
    go_wp2_with fail
    refine C1.out.mono ?_
    rintro e w' ⟨rfl, m, rfl⟩
    simp only [plI]
    go_wp2
    go_ret
    refine ⟨?_, _, [], rfl, ⟨World.ownsRow_lit (e := 67) (size := 4) (w.drewN m) #[] 0 (Nat.le_refl _) (by unfold maxLen; omega) (by rfl), fun x hx => by cases hx⟩, ?_⟩
    · exact (below_drewN' w m).trans (bel1 (w.drewN m) _)
    · unfold dsOf; rw [HR.out]; rfl
  | some i =>
    have hi : i < n := srcI_lt HR.out
    have e1 := A1 (by omega)
    have g1 := HB.out.c1 i hi
    have z1 := HB.out.sizeT i hi
    subst e1
    go_enter Tryz.func33, Tryz.ntmps33
    go_wp2_with fail
    refine C1.out.mono ?_
    rintro e w' ⟨rfl, m, rfl⟩
    simp only [plI]
    have hn : ¬ (i : Int) < 0 := by omega
    go_wp2_with fail
    refine (s_parse (T i) _ z1).mono ?_
    rintro e w2 ⟨hb, v, xs, rfl, hD, hx⟩
    obtain ⟨da, dc, rfl⟩ := own_form hD.own
    go_wp2
    rw [md_decls]
    go_wp2
    go_ret
    refine ⟨?_, _, xs, rfl, hD, ?_⟩
    · exact (below_drewN' w m).trans hb
    · unfold dsOf; rw [HR.out]; exact hx

end Go.Proofs.YtmcbmcjbgjnbhaaGreatDoor

namespace Go.Proofs.YtmcbmcjbgjnbhaaGreatDoor
open Go.RowKit

/-- The names of the imports. -/
def impN (ds : List DC) : List ByteArray := (ds.filter fun d => d.kind == 1).map DC.nm
theorem impN_snoc_yes (l : List DC) {d : DC} (h : (d.kind == 1) = true) : impN (l ++ [d]) = impN l ++ [d.nm] := by
  unfold impN
  rw [List.filter_append, List.map_append]
  simp [h]
theorem impN_snoc_no (l : List DC) {d : DC} (h : (d.kind == 1) = false) : impN (l ++ [d]) = impN l := by
  unfold impN
  rw [List.filter_append, List.map_append]
  simp [h]
theorem impN_len (l : List DC) : (impN l).length ≤ l.length := by
  unfold impN
  rw [List.length_map]
  exact List.length_filter_le _ _
theorem addN_len : ∀ (l out : List ByteArray), (addN out l).length ≤ out.length + l.length
  | [], out => by simp [addN]
  | s :: l, out => by
    unfold addN
    split
    · have := addN_len l out; rw [List.length_cons]; omega
    · have := addN_len l (out ++ [s]); rw [List.length_append, List.length_singleton] at this; rw [List.length_cons]; omega
/-- What the first declarations import. -/
def impK (ds : List DC) (k : Nat) : List ByteArray := addN [] (impN (ds.take k))
theorem take_snoc {ds : List DC} {k : Nat} {d : DC} (h : ds[k]? = some d) : ds.take (k + 1) = ds.take k ++ [d] := by
  rw [List.take_add_one, h]; rfl
theorem impK_no {ds : List DC} {k : Nat} {d : DC} (h : ds[k]? = some d) (hk : (d.kind == 1) = false) : impK ds (k + 1) = impK ds k := by
  unfold impK; rw [take_snoc h, impN_snoc_no _ hk]
theorem impK_has {ds : List DC} {k : Nat} {d : DC} (h : ds[k]? = some d) (hk : (d.kind == 1) = true) (hh : hasN (impK ds k) d.nm = true) : impK ds (k + 1) = impK ds k := by
  unfold impK at hh ⊢; rw [take_snoc h, impN_snoc_yes _ hk, addN_snoc, if_pos hh]
theorem impK_new {ds : List DC} {k : Nat} {d : DC} (h : ds[k]? = some d) (hk : (d.kind == 1) = true) (hh : hasN (impK ds k) d.nm = false) : impK ds (k + 1) = impK ds k ++ [d.nm] := by
  unfold impK at hh ⊢; rw [take_snoc h, impN_snoc_yes _ hk, addN_snoc, if_neg (by rw [hh]; exact Bool.false_ne_true)]
theorem impK_len (ds : List DC) (k : Nat) : (impK ds k).length ≤ k := by
  unfold impK
  have h1 := addN_len (impN (ds.take k)) []
  have h2 := impN_len (ds.take k)
  rw [List.length_take] at h2
  rw [List.length_nil] at h1
  omega

theorem dk_cells {B : Nat} {w : World} {a : Option Addr} {c n : Nat} {xs : List (DC × DPl)} (h : w.ownsRow B 67 4 (.slice a n c) xs.length (dcsC xs)) (hn : n = xs.length) {k : Nat} (hk : k < n) : ∃ (g : Nat) (d : DC), a = some ⟨g, 0, none⟩ ∧ w.cell? ⟨g, k * 4, none⟩ = some (.int .i64 d.kind) ∧ w.cell? ⟨g, k * 4 + 1, none⟩ = some (.string d.nm) ∧ (xs.map Prod.fst)[k]? = some d := by
  subst hn
  obtain ⟨g, gc, ev, _⟩ := own_blk h (show 0 < xs.length by omega)
  simp only [Value.slice.injEq] at ev
  obtain ⟨rfl, -, rfl⟩ := ev
  refine ⟨g, xs[k].1, rfl, own_at (f := dcC) dcC_len h (j := k) (r := 0) rfl hk (by omega) rfl, own_at (f := dcC) dcC_len h rfl hk (by omega) rfl, ?_⟩
  rw [List.getElem?_map, List.getElem?_eq_getElem hk]
  rfl

/-- A list of texts of one's own is given back. -/
def ImpR (w : World) (ns : List ByteArray) (e : Ending) (w' : World) : Prop := Below w.heap.size w w' ∧ ∃ v, e = .returned v ∧ w'.ownsRow w.heap.size 9 1 v ns.length (sts ns)

theorem dsOf_len (S T : Nat → ByteArray) (n : Nat) (s : ByteArray) : (dsOf S T n s).length ≤ 1000 := by
  unfold dsOf
  split
  · exact Nat.zero_le _
  · rename_i i _
    have := (decs_sm false ((toks (T i)).length + 1) (toks (T i))).1
    have := toks_len (T i)
    omega

structure ILoop (w wr : World) (da : Option Addr) (N dc : Nat) (xs : List (DC × DPl)) (v : Value) (k : Nat) : Prop where
  below : Below w.heap.size w wr
  ds : wr.ownsRow w.heap.size 67 4 (.slice da N dc) xs.length (dcsC xs)
  out : wr.ownsRow w.heap.size 9 1 v (impK (xs.map Prod.fst) k).length (sts (impK (xs.map Prod.fst) k))

set_option maxRecDepth 100000 in
set_option maxHeartbeats 1000000 in
/-- l3Imports. -/
theorem m_imports {ao : Option Addr} {b o n c : Nat} {S T : Nat → ByteArray} (w : World) (h1 : SrcsAt w ao b o n S T) (s : ByteArray) :
    Calls Tryz.prog 25 #[.slice ao n c, .string s] w (ImpR w (addN [] (impN (dsOf S T n s)))) := by
  obtain ⟨j0, hj0, hy0, hy1, hy2⟩ := info_parts Tryz.info9
  have C1 : Hid (Calls Tryz.prog 33 #[.slice ao n c, .string s] w fun e w' => Below w.heap.size w w' ∧ ∃ v xs, e = .returned v ∧ RD w.heap.size w' v xs ∧ xs.map Prod.fst = dsOf S T n s) := m_decls w h1 s
  have HL : Hid ((dsOf S T n s).length ≤ 1000) := dsOf_len S T n s
  clear h1
  go_enter Tryz.func25, Tryz.ntmps25
  go_wp2_with fail
  refine C1.out.mono ?_
  rintro e w2 ⟨hb, v, xs, rfl, hD, hx⟩
  obtain ⟨da, dc, rfl⟩ := own_form hD.own
  obtain ⟨N, hN⟩ : ∃ N, N = xs.length := ⟨_, rfl⟩
  have hN1 : N ≤ 1000 := by have := HL.out; rw [← hx, List.length_map] at this; omega
  have HX : Hid (xs.map Prod.fst = dsOf S T n s) := hx
  rw [← hN] at hD ⊢
  have ST : Hid (ILoop w (w2.alloc (.cells #[] 9)) da N dc xs (.slice (some ⟨w2.heap.size, 0, none⟩) 0 0) 0) :=
    ⟨hb.trans ((bel1 _ _).mono hb.size), by have := hD.own.alloc (.cells #[] 9); rw [hN] at this ⊢; exact this, World.ownsRow_lit (e := 9) (size := 1) w2 #[] 0 hb.size (by unfold maxLen; omega) (by rfl)⟩
  have HN : Hid (N = xs.length) := hN
  have hs2 := hb.size
  clear hb hD hx hN C1
  go_wp2
  go_loopw [6, 7] (fun v i wr => ∃ k : Nat, k ≤ N ∧ i = .int .i64 k ∧ Hid (ILoop w wr da N dc xs v k)) (fun _ i _ => N - (intOf i).toNat)
  case atStart => exact ⟨0, Nat.zero_le _, rfl, ST⟩
  case round =>
    clear ST
    obtain ⟨k, hk, rfl, HI⟩ := hrel
    obtain ⟨NL, hNL⟩ : ∃ NL, NL = impK (xs.map Prod.fst) k := ⟨_, rfl⟩
    have OWN := HI.out.out
    rw [← hNL] at OWN
    have HNL : Hid (impK (xs.map Prod.fst) k = NL) := hNL.symm
    have hlen : NL.length ≤ k := by rw [hNL]; exact impK_len _ _
    clear hNL
    obtain ⟨nl, hnl⟩ : ∃ nl, nl = NL.length := ⟨_, rfl⟩
    rw [← hnl] at OWN hlen
    have HNN : Hid (NL.length = nl) := hnl.symm
    clear hnl
    obtain ⟨va, vc, hv⟩ := own_form OWN
    subst hv
    have HO : Hid (wr.ownsRow w.heap.size 9 1 (.slice va nl vc) nl (sts NL)) := OWN
    clear OWN
    have hsz := HI.out.below.size
    by_cases hlt : k < N
    · obtain ⟨g, d, rfl, ck, cn, hd⟩ := dk_cells HI.out.ds HN.out hlt
      have HDK : Hid ((xs.map Prod.fst)[k]? = some d) := hd
      clear hd
      obtain ⟨dk, nm, dt, de⟩ := d
      simp only at ck cn
      cases hkk : (dk == 1)
      case false =>
        have HNX : Hid (ILoop w wr (some ⟨g, 0, none⟩) N dc xs (.slice va nl vc) (k + 1)) := ⟨HI.out.below, HI.out.ds, by rw [impK_no HDK.out hkk, HNL.out, HNN.out]; exact HO.out⟩
        go_wp2
        exact ⟨⟨k + 1, by omega, by go_num, HNX⟩, by simp [intOf]; omega⟩
      case true =>
        cases hh : hasN NL nm
        case true =>
          have HNX : Hid (ILoop w wr (some ⟨g, 0, none⟩) N dc xs (.slice va nl vc) (k + 1)) := ⟨HI.out.below, HI.out.ds, by rw [impK_has HDK.out hkk (by rw [HNL.out]; exact hh), HNL.out, HNN.out]; exact HO.out⟩
          go_wp2_with fail
          refine (m_twice wr HNN.out.symm HO.out (by omega) nm hh).mono ?_
          rintro e w' ⟨rfl, rfl⟩
          go_wp2
          exact ⟨⟨k + 1, by omega, by go_num, HNX⟩, by simp [intOf]; omega⟩
        case false =>
          have HNX : Hid (impK (xs.map Prod.fst) (k + 1) = NL ++ [nm]) := by
            show _ = _
            rw [impK_new HDK.out hkk (by rw [HNL.out]; exact hh), HNL.out]
          go_wp2_with fail
          refine (m_twice wr HNN.out.symm HO.out (by omega) nm hh).mono ?_
          rintro e w' ⟨rfl, rfl⟩
          go_wp2_with (first | (at_builtin; refine wpList_append_lies _ rfl _ _ 24 rfl w.heap.size 9 j0 _ 1 16 Tryz.underlying24 hj0 hy0 hy1 hy2 rfl (by omega) (.slice va nl vc) nl (sts NL) rfl (HO.out.alloc _) ⟨wr.heap.size, 0, none⟩ 1 1 [.string nm] rfl rfl (World.news_of_block (cs := #[.string nm]) (t := 9) (fr := (0, 0)) (heap_alloc_new wr _)) (by simp [Value.oneCell']) (by omega) (by unfold maxLen; omega) (by omega) (by simp only [World.size_alloc]; omega) (wr.heap.size + 1) (by simp) ?_; intro gg cap3 w5 hown3 hg3 hat3 hlt3))
          have HF : Hid (ILoop w w5 (some ⟨g, 0, none⟩) N dc xs (.slice (some ⟨gg, 0, none⟩) (nl + 1) cap3) (k + 1)) := by
            have hk : Kp 9 wr w5 := (kp_alloc _ wr _).trans (grown_kp (HO.out.alloc _) hg3)
            refine ⟨?_, own_kp HI.out.ds hk (by decide), ?_⟩
            · exact below_grown HI.out.below hg3 (fun b e => (HO.out.lt b e).1)
            · rw [HNX.out, sts_snoc, List.length_append, HNN.out]; exact hown3
          clear hown3 hg3 hat3 hlt3
          go_wp2
          exact ⟨⟨k + 1, by omega, by go_num, HF⟩, by simp [intOf]; omega⟩
    · have hkn : k = N := by omega
      subst hkn
      have HE : Hid (impK (xs.map Prod.fst) k = addN [] (impN (dsOf S T n s))) := by
        show _ = _
        unfold impK
        rw [List.take_of_length_le (by rw [List.length_map]; exact Nat.le_of_eq HN.out.symm), HX.out]
      go_wp2
      go_ret
      exact ⟨HI.out.below, _, rfl, by rw [← HE.out, HNL.out, HNN.out]; exact HO.out⟩

end Go.Proofs.YtmcbmcjbgjnbhaaGreatDoor

namespace Go.Proofs.YtmcbmcjbgjnbhaaGreatDoor

/-- What declarations are told apart by. -/
def dkey (d : DC) : Int × List UInt8 := (d.kind, d.nm.data.toList)
/-- Which of the declarations are the first of their kind and name, where some have been met. -/
def fstK (seen : List (Int × List UInt8)) : List DC → List Bool
  | [] => []
  | d :: l => if seen.contains (dkey d) then false :: fstK seen l else true :: fstK (seen ++ [dkey d]) l
/-- The names of those of them that are imports. -/
def fstI : List DC → List Bool → List ByteArray
  | d :: l, f :: fs => if d.kind == 1 && f then d.nm :: fstI l fs else fstI l fs
  | _, _ => []
theorem fst_add : ∀ (l : List DC) (seen : List (Int × List UInt8)) (out : List ByteArray), (∀ s : ByteArray, hasN out s = seen.contains ((1 : Int), s.data.toList)) → out ++ fstI l (fstK seen l) = addN out (impN l)
  | [], seen, out, _ => by simp [fstI, impN, addN]
  | d :: l, seen, out, h => by
    unfold fstK
    cases hk : (d.kind == 1)
    · have e : impN (d :: l) = impN l := by simp [impN, hk]
      rw [e]
      split
      · rw [fstI, hk]
        exact fst_add l seen out h
      · rw [fstI, hk]
        refine fst_add l _ out fun s => ?_
        rw [h s]
        have hne : d.kind ≠ 1 := by simpa using hk
        have : ((1 : Int), s.data.toList) ≠ dkey d := fun e => hne (by simpa [dkey] using (congrArg Prod.fst e).symm)
        simp [this]
    · have e : impN (d :: l) = d.nm :: impN l := by simp [impN, hk]
      have hkey : dkey d = ((1 : Int), d.nm.data.toList) := by unfold dkey; rw [show d.kind = 1 by simpa using hk]
      rw [e, addN, h d.nm, hkey]
      split
      · rw [fstI]
        simp only [Bool.and_false, Bool.false_eq_true, if_false]
        exact fst_add l seen out h
      · rw [fstI, hk]
        simp only [Bool.and_self, if_true]
        rw [← fst_add l (seen ++ [((1 : Int), d.nm.data.toList)]) (out ++ [d.nm]) (fun s => ?_), List.append_assoc]
        · rfl
        · have h2 := h s
          unfold hasN at h2 ⊢
          rw [List.any_append, h2]
          simp only [List.any_cons, List.any_nil, Bool.or_false]
          rw [Bool.eq_iff_iff]
          simp only [Bool.or_eq_true, beq_iff_eq, List.contains_iff_mem, List.mem_append, List.mem_singleton, Prod.mk.injEq, true_and]
          exact ⟨fun z => z.imp id Eq.symm, fun z => z.imp id Eq.symm⟩
theorem first_names (l : List DC) : fstI l (fstK [] l) = addN [] (impN l) := by
  rw [← fst_add l [] [] (fun s => rfl)]; rfl

end Go.Proofs.YtmcbmcjbgjnbhaaGreatDoor

namespace Go.Proofs.YtmcbmcjbgjnbhaaGreatDoor
open Go.RowKit Go.Maps

set_option maxRecDepth 100000 in
theorem Tryz.rowM : (77 : TypeId) < Tryz.prog.types.size := of_decide_eq_true (by kernel_rfl)
set_option maxRecDepth 100000 in
theorem Tryz.laidOut' : laidOutB Tryz.prog = true := by kernel_rfl
theorem Tryz.cellsM : Tryz.prog.cellsOf 77 = 2 := by kernel_rfl
theorem Tryz.deepM : Tryz.prog.keyTypeAt (Tryz.prog.types.size + 1) 77 = true := by kernel_rfl
theorem Tryz.wideM : (match Tryz.prog.underlying 77 with | some (.array _ _) | some (.struct _) => true | _ => false) = true := by rw [Tryz.underlying77]
set_option maxRecDepth 100000 in
theorem Tryz.lawM : Keyed Tryz.prog 77 := Keyed.of_law (deep_law_laid Tryz.laidOut' (m := 3) (by omega) Tryz.rowM (by kernel_rfl) Tryz.wideM)
theorem Tryz.formedM {c0 c1 : Value} : (Value.agg #[c0, c1]).formed Tryz.prog 77 = true := by simp [Value.formed, Tryz.underlying77, Tryz.cellsM]
theorem Tryz.cells3M : Tryz.prog.cellsOf 3 = 1 := by kernel_rfl
theorem Tryz.cells9M : Tryz.prog.cellsOf 9 = 1 := by kernel_rfl
theorem Tryz.infoM : (Tryz.prog.info? 77).map (fun i => (i.zero, i.size, i.bytes)) = some (some (.agg #[.int .i64 0, .string ByteArray.empty]), 2, 24) := by kernel_rfl

/-- A kind and a name as a key. -/
def kq (q : Int × List UInt8) : Lit := (DataW.agg [.lit (.int .i64 q.1), .lit (.string q.2)] : DataW Unit).asKey
/-- A kind and a name as the program has it. -/
def qv (q : Int × List UInt8) : Value := .agg #[.int .i64 q.1, .string ⟨q.2.toArray⟩]
/-- A number that is one, and a name that is not too long. -/
def SmQ (q : Int × List UInt8) : Prop := (Lit.int .i64 q.1).wf = true ∧ q.2.length ≤ maxLen

set_option maxRecDepth 100000 in
theorem key_q {q : Int × List UInt8} (h : SmQ q) : keyOf Tryz.prog 77 (qv q) = some (kq q) := by
  have wa := h.1
  have wb := h.2
  have ht : DataW.Trod (H := Unit) (fun _ => ()) Tryz.prog default 0 (fun _ => true) true 77 (qv q) (.agg [.lit (.int .i64 q.1), .lit (.string q.2)]) [] := by
    refine ⟨3, ?_⟩
    have e : (ByteArray.mk q.2.toArray).size ≤ maxLen := by show q.2.toArray.size ≤ maxLen; simpa using wb
    simp [qv, DataW.trod, Tryz.underlying77, Tryz.underlying3, Tryz.underlying9, Tryz.cellsM, Tryz.cells3M, Value.cells, Tryz.cells9M, wa, e]
  exact (keyOf_asKey Tryz.deepM Tryz.wideM Tryz.formedM ht).1

theorem kq_inj {q r : Int × List UInt8} (hq : SmQ q) (hr : SmQ r) (e : kq r = kq q) : r = q := by
  have h := Tryz.lawM.inj (key_q hr) (by rw [e]; exact key_q hq)
  simp [qv] at h
  obtain ⟨h1, h2⟩ := h
  exact Prod.ext h1 h2

end Go.Proofs.YtmcbmcjbgjnbhaaGreatDoor

namespace Go.Proofs.YtmcbmcjbgjnbhaaGreatDoor
open Go.RowKit Go.Maps

/-- A question that is come to: known, or the next. -/
def addM (ord : List (Int × List UInt8)) (q : Int × List UInt8) : List (Int × List UInt8) := if ord.contains q then ord else ord ++ [q]
/-- The cells of the questions. -/
def qcells (ord : List (Int × List UInt8)) : List Value := ord.flatMap fun q => [.int .i64 q.1, .string ⟨q.2.toArray⟩]

structure KnQ (w : World) (kb mb : Nat) (ov : Value) (D : DataW Unit) (ord : List (Int × List UInt8)) (keep : Nat → Prop) : Prop where
  row : w.rowIs kb 92 2 (v2 (.map (some mb)) ov)
  mlt : mb < kb
  map : w.ownsMap Tryz.prog 77 (plainElem Tryz.prog 3) mb ord.length D
  has : ∀ q, SmQ q → Maps.has D (kq q) = ord.contains q
  val : ∀ q, SmQ q → q ∈ ord → D.atKey (kq q) (.lit (.int .i64 0)) = .lit (.int .i64 (ord.idxOf q : Int))
  own : w.ownsRow (kb + 1) 77 2 ov ord.length (qcells ord)
  far : ∀ k, keep k → k < w.heap.size ∧ k ≠ kb ∧ k ≠ mb ∧ some k ≠ ov.ownBlock

set_option maxHeartbeats 1000000 in
theorem kq_new (w : World) (keep : Nat → Prop) (hk : ∀ k, keep k → k < w.heap.size) :
    Calls Tryz.prog 38 #[] w fun e w' => e = .returned (.pointer (some ⟨w.heap.size + 1, 0, none⟩)) ∧ KnQ w' (w.heap.size + 1) w.heap.size (.slice none 0 0) (.map []) [] keep ∧ Kept keep w w' := by
  have hmm := @run_makeMap Tryz.prog
  go_enter Tryz.func38, Tryz.ntmps38
  go_wp2
  go_ret
  have R := row2 (w.alloc (.map #[] 0)) (.map (some w.heap.size)) (.slice none 0 0) 92
  simp only [World.size_alloc] at R
  refine ⟨rfl, ⟨R, by omega, (World.ownsMap_made w Tryz.prog 77 (plainElem Tryz.prog 3)).alloc _, fun q _ => rfl, fun q _ h => by simp at h, World.ownsRow_nil _ _ _ _, fun k h => ?_⟩, ?_⟩
  · have := hk k h
    exact ⟨by simp; omega, by omega, by omega, by simp [Value.ownBlock]⟩
  · have := bel2 w (.map #[] 0) (.cells #[.map (some w.heap.size), .slice none 0 0] 92)
    exact ⟨this.os, this.tape, this.output, this.size, fun k h => this.block k (hk k h)⟩

theorem look_q {w : World} {mb n : Nat} {D : DataW Unit} {q : Int × List UInt8} (h : w.ownsMap Tryz.prog 77 (plainElem Tryz.prog 3) mb n D) (hq : SmQ q) :
    ∃ v : Int, (∀ m, (Instr.lookup 89 (.map (some mb)) (.agg #[.int .i64 q.1, .string ⟨q.2.toArray⟩]) true).run Tryz.prog (w.drewN m) = .ok (.tuple #[.int .i64 v, .bool (Maps.has D (kq q))]) (w.drewN m)) ∧ D.atKey (kq q) (.lit (.int .i64 0)) = .lit (.int .i64 v) := by
  have hz : plainElem (H := Unit) Tryz.prog 3 (.int .i64 0) = some (.lit (.int .i64 0), []) := plainElem_int Tryz.underlying3 (by decide)
  have each : ∀ m, ∃ v : Int, (Instr.lookup 89 (.map (some mb)) (.agg #[.int .i64 q.1, .string ⟨q.2.toArray⟩]) true).run Tryz.prog (w.drewN m) = .ok (.tuple #[.int .i64 v, .bool (Maps.has D (kq q))]) (w.drewN m) ∧ D.atKey (kq q) (.lit (.int .i64 0)) = .lit (.int .i64 v) := fun m => by
    have h' : (w.drewN m).ownsMap Tryz.prog 77 (plainElem Tryz.prog 3) mb n D := h
    obtain ⟨v, ps, hrun, hR⟩ := h'.look_ok Tryz.lawM Tryz.underlying89 (Tryz.zero3 _) hz (key_q hq)
    obtain ⟨x, rfl, hx, _⟩ := plainElem_int_inv Tryz.underlying3 hR
    simp only [Prod.mk.injEq] at hx
    exact ⟨x, hrun, hx.1⟩
  obtain ⟨v, _, hv⟩ := each 0
  refine ⟨v, fun m => ?_, hv⟩
  obtain ⟨v', hrun, hv'⟩ := each m
  rw [hv] at hv'
  simp only [DataW.lit.injEq, Lit.int.injEq, true_and] at hv'
  rw [hv']; exact hrun

theorem qcells_snoc (ord : List (Int × List UInt8)) (q : Int × List UInt8) : qcells (ord ++ [q]) = qcells ord ++ [.int .i64 q.1, .string ⟨q.2.toArray⟩] := by simp [qcells]

end Go.Proofs.YtmcbmcjbgjnbhaaGreatDoor

