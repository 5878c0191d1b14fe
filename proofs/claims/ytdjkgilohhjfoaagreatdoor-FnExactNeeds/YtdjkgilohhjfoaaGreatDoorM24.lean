/-
  Merged for the claim: RbC NdC RaD ReA ReB.
-/
import Derived.Test.YtdjkgilohhjfoaaGreatDoorM02
import Derived.Test.YtdjkgilohhjfoaaGreatDoorM23
import Derived.Test.YtdjkgilohhjfoaaGreatDoorM15
import Derived.Test.YtdjkgilohhjfoaaGreatDoorM05
namespace Go.Proofs.YtdjkgilohhjfoaaGreatDoor
open Go.RowKit

/-- The names of the imports. -/
def impN (ds : List DC) : List ByteArray := (ds.filter fun d => d.kind == 1).map DC.nm
theorem impN_snoc_yes (l : List DC) {d : DC} (h : (d.kind == 1) = true) : impN (l ++ [d]) = impN l ++ [d.nm] := by
  unfold impN
  rw [List.filter_append, List.map_append]
  simp [h]
theorem impN_snoc_no (l : List DC) {d : DC} (h : (d.kind == 1) = false) : impN (l ++ [d]) = impN l := by
  unfold impN
  rw [List.filter_append, List.map_append]
  simp [h]
theorem impN_len (l : List DC) : (impN l).length ≤ l.length := by
  unfold impN
  rw [List.length_map]
  exact List.length_filter_le _ _
theorem addN_len : ∀ (l out : List ByteArray), (addN out l).length ≤ out.length + l.length
  | [], out => by simp [addN]
  | s :: l, out => by
    unfold addN
    split
    · have := addN_len l out; rw [List.length_cons]; omega
    · have := addN_len l (out ++ [s]); rw [List.length_append, List.length_singleton] at this; rw [List.length_cons]; omega
/-- What the first declarations import. -/
def impK (ds : List DC) (k : Nat) : List ByteArray := addN [] (impN (ds.take k))
theorem take_snoc {ds : List DC} {k : Nat} {d : DC} (h : ds[k]? = some d) : ds.take (k + 1) = ds.take k ++ [d] := by
  rw [List.take_add_one, h]; rfl
theorem impK_no {ds : List DC} {k : Nat} {d : DC} (h : ds[k]? = some d) (hk : (d.kind == 1) = false) : impK ds (k + 1) = impK ds k := by
  unfold impK; rw [take_snoc h, impN_snoc_no _ hk]
theorem impK_has {ds : List DC} {k : Nat} {d : DC} (h : ds[k]? = some d) (hk : (d.kind == 1) = true) (hh : hasN (impK ds k) d.nm = true) : impK ds (k + 1) = impK ds k := by
  unfold impK at hh ⊢; rw [take_snoc h, impN_snoc_yes _ hk, addN_snoc, if_pos hh]
theorem impK_new {ds : List DC} {k : Nat} {d : DC} (h : ds[k]? = some d) (hk : (d.kind == 1) = true) (hh : hasN (impK ds k) d.nm = false) : impK ds (k + 1) = impK ds k ++ [d.nm] := by
  unfold impK at hh ⊢; rw [take_snoc h, impN_snoc_yes _ hk, addN_snoc, if_neg (by rw [hh]; exact Bool.false_ne_true)]
theorem impK_len (ds : List DC) (k : Nat) : (impK ds k).length ≤ k := by
  unfold impK
  have h1 := addN_len (impN (ds.take k)) []
  have h2 := impN_len (ds.take k)
  rw [List.length_take] at h2
  rw [List.length_nil] at h1
  omega

theorem dk_cells {B : Nat} {w : World} {a : Option Addr} {c n : Nat} {xs : List (DC × DPl)} (h : w.ownsRow B 58 4 (.slice a n c) xs.length (dcsC xs)) (hn : n = xs.length) {k : Nat} (hk : k < n) : ∃ (g : Nat) (d : DC), a = some ⟨g, 0, none⟩ ∧ w.cell? ⟨g, k * 4, none⟩ = some (.int .i64 d.kind) ∧ w.cell? ⟨g, k * 4 + 1, none⟩ = some (.string d.nm) ∧ (xs.map Prod.fst)[k]? = some d := by
  subst hn
  obtain ⟨g, gc, ev, _⟩ := own_blk h (show 0 < xs.length by omega)
  simp only [Value.slice.injEq] at ev
  obtain ⟨rfl, -, rfl⟩ := ev
  refine ⟨g, xs[k].1, rfl, own_at (f := dcC) dcC_len h (j := k) (r := 0) rfl hk (by omega) rfl, own_at (f := dcC) dcC_len h rfl hk (by omega) rfl, ?_⟩
  rw [List.getElem?_map, List.getElem?_eq_getElem hk]
  rfl

/-- A list of texts of one's own is given back. -/
def ImpR (w : World) (ns : List ByteArray) (e : Ending) (w' : World) : Prop := Below w.heap.size w w' ∧ ∃ v, e = .returned v ∧ w'.ownsRow w.heap.size 9 1 v ns.length (sts ns)

theorem dsOf_len (S T : Nat → ByteArray) (n : Nat) (s : ByteArray) : (dsOf S T n s).length ≤ 1000 := by
  unfold dsOf
  split
  · exact Nat.zero_le _
  · rename_i i _
    have := (decs_sm false ((toks (T i)).length + 1) (toks (T i))).1
    have := toks_len (T i)
    omega

structure ILoop (w wr : World) (da : Option Addr) (N dc : Nat) (xs : List (DC × DPl)) (v : Value) (k : Nat) : Prop where
  below : Below w.heap.size w wr
  ds : wr.ownsRow w.heap.size 58 4 (.slice da N dc) xs.length (dcsC xs)
  out : wr.ownsRow w.heap.size 9 1 v (impK (xs.map Prod.fst) k).length (sts (impK (xs.map Prod.fst) k))

set_option maxRecDepth 100000 in
set_option maxHeartbeats 1000000 in
/-- l3Imports. -/
theorem m_imports {ao : Option Addr} {b o n c : Nat} {S T : Nat → ByteArray} (w : World) (h1 : SrcsAt w ao b o n S T) (s : ByteArray) :
    Calls Tryz.prog 18 #[.slice ao n c, .string s] w (ImpR w (addN [] (impN (dsOf S T n s)))) := by
  obtain ⟨j0, hj0, hy0, hy1, hy2⟩ := info_parts Tryz.info9
  have C1 : Hid (Calls Tryz.prog 30 #[.slice ao n c, .string s] w fun e w' => Below w.heap.size w w' ∧ ∃ v xs, e = .returned v ∧ RD w.heap.size w' v xs ∧ xs.map Prod.fst = dsOf S T n s) := m_decls w h1 s
  have HL : Hid ((dsOf S T n s).length ≤ 1000) := dsOf_len S T n s
  clear h1
  go_enter Tryz.func18, Tryz.ntmps18
  go_wp2_with fail
  refine C1.out.mono ?_
  rintro e w2 ⟨hb, v, xs, rfl, hD, hx⟩
  obtain ⟨da, dc, rfl⟩ := own_form hD.own
  obtain ⟨N, hN⟩ : ∃ N, N = xs.length := ⟨_, rfl⟩
  have hN1 : N ≤ 1000 := by have := HL.out; rw [← hx, List.length_map] at this; omega
  have HX : Hid (xs.map Prod.fst = dsOf S T n s) := hx
  rw [← hN] at hD ⊢
  have ST : Hid (ILoop w (w2.alloc (.cells #[] 9)) da N dc xs (.slice (some ⟨w2.heap.size, 0, none⟩) 0 0) 0) :=
    ⟨hb.trans ((bel1 _ _).mono hb.size), by have := hD.own.alloc (.cells #[] 9); rw [hN] at this ⊢; exact this, World.ownsRow_lit (e := 9) (size := 1) w2 #[] 0 hb.size (by unfold maxLen; omega) (by rfl)⟩
  have HN : Hid (N = xs.length) := hN
  have hs2 := hb.size
  clear hb hD hx hN C1
  go_wp2
  go_loopw [6, 7] (fun v i wr => ∃ k : Nat, k ≤ N ∧ i = .int .i64 k ∧ Hid (ILoop w wr da N dc xs v k)) (fun _ i _ => N - (intOf i).toNat)
  case atStart => exact ⟨0, Nat.zero_le _, rfl, ST⟩
  case round =>
    clear ST
    obtain ⟨k, hk, rfl, HI⟩ := hrel
    obtain ⟨NL, hNL⟩ : ∃ NL, NL = impK (xs.map Prod.fst) k := ⟨_, rfl⟩
    have OWN := HI.out.out
    rw [← hNL] at OWN
    have HNL : Hid (impK (xs.map Prod.fst) k = NL) := hNL.symm
    have hlen : NL.length ≤ k := by rw [hNL]; exact impK_len _ _
    clear hNL
    obtain ⟨nl, hnl⟩ : ∃ nl, nl = NL.length := ⟨_, rfl⟩
    rw [← hnl] at OWN hlen
    have HNN : Hid (NL.length = nl) := hnl.symm
    clear hnl
    obtain ⟨va, vc, hv⟩ := own_form OWN
    subst hv
    have HO : Hid (wr.ownsRow w.heap.size 9 1 (.slice va nl vc) nl (sts NL)) := OWN
    clear OWN
    have hsz := HI.out.below.size
    by_cases hlt : k < N
    · obtain ⟨g, d, rfl, ck, cn, hd⟩ := dk_cells HI.out.ds HN.out hlt
      have HDK : Hid ((xs.map Prod.fst)[k]? = some d) := hd
      clear hd
      obtain ⟨dk, nm, dt, de⟩ := d
      simp only at ck cn
      cases hkk : (dk == 1)
      case false =>
        have HNX : Hid (ILoop w wr (some ⟨g, 0, none⟩) N dc xs (.slice va nl vc) (k + 1)) := ⟨HI.out.below, HI.out.ds, by rw [impK_no HDK.out hkk, HNL.out, HNN.out]; exact HO.out⟩
        go_wp2
        exact ⟨⟨k + 1, by omega, by go_num, HNX⟩, by simp [intOf]; omega⟩
      case true =>
        cases hh : hasN NL nm
        case true =>
          have HNX : Hid (ILoop w wr (some ⟨g, 0, none⟩) N dc xs (.slice va nl vc) (k + 1)) := ⟨HI.out.below, HI.out.ds, by rw [impK_has HDK.out hkk (by rw [HNL.out]; exact hh), HNL.out, HNN.out]; exact HO.out⟩
          go_wp2_with fail
          refine (m_twice wr HNN.out.symm HO.out (by omega) nm hh).mono ?_
          rintro e w' ⟨rfl, rfl⟩
          go_wp2
          exact ⟨⟨k + 1, by omega, by go_num, HNX⟩, by simp [intOf]; omega⟩
        case false =>
          have HNX : Hid (impK (xs.map Prod.fst) (k + 1) = NL ++ [nm]) := by
            show _ = _
            rw [impK_new HDK.out hkk (by rw [HNL.out]; exact hh), HNL.out]
          go_wp2_with fail
          refine (m_twice wr HNN.out.symm HO.out (by omega) nm hh).mono ?_
          rintro e w' ⟨rfl, rfl⟩
          go_wp2_with (first | (at_builtin; refine wpList_append_lies _ rfl _ _ 43 rfl w.heap.size 9 j0 _ 1 16 Tryz.underlying43 hj0 hy0 hy1 hy2 rfl (by omega) (.slice va nl vc) nl (sts NL) rfl (HO.out.alloc _) ⟨wr.heap.size, 0, none⟩ 1 1 [.string nm] rfl rfl (World.news_of_block (cs := #[.string nm]) (t := 9) (fr := (0, 0)) (heap_alloc_new wr _)) (by simp [Value.oneCell']) (by omega) (by unfold maxLen; omega) (by omega) (by simp only [World.size_alloc]; omega) (wr.heap.size + 1) (by simp) ?_; intro gg cap3 w5 hown3 hg3 hat3 hlt3))
          have HF : Hid (ILoop w w5 (some ⟨g, 0, none⟩) N dc xs (.slice (some ⟨gg, 0, none⟩) (nl + 1) cap3) (k + 1)) := by
            have hk : Kp 9 wr w5 := (kp_alloc _ wr _).trans (grown_kp (HO.out.alloc _) hg3)
            refine ⟨?_, own_kp HI.out.ds hk (by decide), ?_⟩
            · exact below_grown HI.out.below hg3 (fun b e => (HO.out.lt b e).1)
            · rw [HNX.out, sts_snoc, List.length_append, HNN.out]; exact hown3
          clear hown3 hg3 hat3 hlt3
          go_wp2
          exact ⟨⟨k + 1, by omega, by go_num, HF⟩, by simp [intOf]; omega⟩
    · have hkn : k = N := by omega
      subst hkn
      have HE : Hid (impK (xs.map Prod.fst) k = addN [] (impN (dsOf S T n s))) := by
        show _ = _
        unfold impK
        rw [List.take_of_length_le (by rw [List.length_map]; exact Nat.le_of_eq HN.out.symm), HX.out]
      go_wp2
      go_ret
      exact ⟨HI.out.below, _, rfl, by rw [← HE.out, HNL.out, HNN.out]; exact HO.out⟩

end Go.Proofs.YtdjkgilohhjfoaaGreatDoor

namespace Go.Proofs.YtdjkgilohhjfoaaGreatDoor
open Go.RowKit

/-- The imports of a module, each once. -/
def impO (S T : Nat → ByteArray) (n : Nat) (s : ByteArray) : List ByteArray := addN [] (impN (dsOf S T n s))
/-- The keys that a key needs, where it and the sources are valid. -/
def nedK (m : ByteArray) (l : List ByteArray) : List (Int × ByteArray) := (1, m) :: l.map fun x => (2, x)
/-- What Needs answers. -/
def nedA (S T : Nat → ByteArray) (n : Nat) (k : Int) (m : ByteArray) : List (Int × ByteArray) := if vsr n S T && kv k m && !(k == 1) then nedK m (impO S T n m) else []
theorem impO_len (S T : Nat → ByteArray) (n : Nat) (s : ByteArray) : (impO S T n s).length ≤ 1000 := by
  unfold impO
  have h1 := addN_len (impN (dsOf S T n s)) []
  have h2 := impN_len (dsOf S T n s)
  have h3 := dsOf_len S T n s
  rw [List.length_nil] at h1
  omega
theorem nedK_snoc (m : ByteArray) (l : List ByteArray) (s : ByteArray) : nedK m (l ++ [s]) = nedK m l ++ [(2, s)] := by unfold nedK; simp
theorem nedK_len (m : ByteArray) (l : List ByteArray) : (nedK m l).length = l.length + 1 := by unfold nedK; simp
theorem nedA_len (S T : Nat → ByteArray) (n : Nat) (k : Int) (m : ByteArray) : (nedA S T n k m).length ≤ 1001 := by
  unfold nedA
  split
  · rw [nedK_len]; have := impO_len S T n m; omega
  · exact Nat.zero_le _
theorem Tryz.infoK : (Tryz.prog.info? 31).map (fun i => (i.zero, i.size, i.bytes)) = some (some (.agg #[.int .i64 0, .string ByteArray.empty]), 2, 24) := by kernel_rfl
theorem row2k (w : World) (a b : Value) (t : TypeId) : (w.alloc (.cells #[a, b] t)).rowIs w.heap.size t 2 (fun i => if i = 0 then a else b) :=
  World.rowIs_alloc w #[a, b] t _ (fun i hi => by
    match i, hi with
    | 0, _ => rfl
    | 1, _ => rfl)

set_option maxHeartbeats 1000000 in
theorem m_keyOk (k : Int) (m : ByteArray) (w : World) (hs : m.size ≤ 9223372036854775807) :
    Calls Tryz.prog 17 #[.agg #[.int .i64 k, .string m]] w fun e w' => e = .returned (.bool (kv k m)) ∧ Below w.heap.size w w' := by
  by_cases h : 1 ≤ k ∧ k ≤ 3
  · have HV : Hid (kv k m = gn m) := kv_yes h
    have hex : ∃ x y z : Bool, (k == 1) = x ∧ (k == 2) = y ∧ (k == 3) = z ∧ (x || y || z) = true := ⟨_, _, _, rfl, rfl, rfl, by simp; omega⟩
    obtain ⟨x, y, z, b0, b1, b2, hxyz⟩ := hex
    clear h
    cases x <;> cases y <;> cases z <;> first
      | (exfalso; revert hxyz; decide)
      | (clear hxyz
         go_enter Tryz.func17, Tryz.ntmps17
         go_wp2_with (go_at_call 29; refine (c32 _ _ hs).mono ?_; rintro e w' ⟨rfl, rfl⟩)
         go_ret
         exact ⟨ret_bool HV.out.symm, bel1 _ _⟩)
  · have HV : Hid (kv k m = false) := kv_no h
    have b0 : (k == 1) = false := beq_eq_false_iff_ne.2 (by omega)
    have b1 : (k == 2) = false := beq_eq_false_iff_ne.2 (by omega)
    have b2 : (k == 3) = false := beq_eq_false_iff_ne.2 (by omega)
    clear h
    go_enter Tryz.func17, Tryz.ntmps17
    go_wp2
    go_ret
    exact ⟨ret_bool HV.out.symm, bel1 _ _⟩

theorem st_cellN {B n : Nat} {w : World} {a : Option Addr} {c : Nat} {ns : List ByteArray} (h : w.ownsRow B 9 1 (.slice a n c) n (sts ns)) (hn : n = ns.length) {k : Nat} (hk : k < n) : ∃ g, a = some ⟨g, 0, none⟩ ∧ w.cell? ⟨g, k, none⟩ = some (.string (ns.getD k ByteArray.empty)) := by
  subst hn
  obtain ⟨g, gc, ev, _⟩ := own_blk h (show 0 < ns.length by omega)
  simp only [Value.slice.injEq] at ev
  obtain ⟨rfl, -, rfl⟩ := ev
  refine ⟨g, rfl, ?_⟩
  have := own_at (f := fun s : ByteArray => [Value.string s]) sts_len h (j := k) (r := 0) (u := .string ns[k]) rfl hk (by omega) rfl
  rw [Nat.mul_one, Nat.add_zero] at this
  rw [this, List.getD_eq_getElem?_getD, List.getElem?_eq_getElem hk]
  rfl
/-- The state of the model's loop. -/
structure NdL (w wr : World) (m : ByteArray) (u v : Value) (ML : List ByteArray) (q : Nat) : Prop where
  below : Below w.heap.size w wr
  own : wr.ownsRow w.heap.size 31 2 v (q + 1) (kysC (nedK m (ML.take q)))
  more : wr.ownsRow w.heap.size 9 1 u ML.length (sts ML)

set_option maxRecDepth 100000 in
set_option maxHeartbeats 4000000 in
theorem s_Needs {ao : Option Addr} {b o n c : Nat} {S T : Nat → ByteArray} (w : World) (h1 : SrcsAt w ao b o n S T) (k : Int) (m : ByteArray) (hm : m.size ≤ 1048576) :
    Calls Tryz.prog 6 #[.slice ao n c, .agg #[.int .i64 k, .string m]] w (KyR w (nedA S T n k m)) := by
  obtain ⟨j0, hj0, hy0, hy1, hy2⟩ := info_parts Tryz.infoK
  have B0 : Below w.heap.size w ((w.alloc (.cells #[.int .i64 k, .string m] 31)).alloc (.cells #[] 31)) := (bel1 w _).alloc (by simp) _
  have HB0 : Hid (Below w.heap.size w ((w.alloc (.cells #[.int .i64 k, .string m] 31)).alloc (.cells #[] 31))) := B0
  have CV : Hid (Calls Tryz.prog 16 #[.slice ao n c] ((w.alloc (.cells #[.int .i64 k, .string m] 31)).alloc (.cells #[] 31)) fun e w' => e = .returned (.bool (vsr n S T)) ∧ ∃ m2, w' = ((w.alloc (.cells #[.int .i64 k, .string m] 31)).alloc (.cells #[] 31)).drewN m2) := sc5 ao b o n c S T _ (h1.below B0)
  have HSR : Hid (∀ W, Below w.heap.size w W → SrcsAt W ao b o n S T) := fun W hb => h1.below hb
  obtain ⟨W0, hW0⟩ : ∃ W0, W0 = (w.alloc (.cells #[.int .i64 k, .string m] 31)).alloc (.cells #[] 31) := ⟨_, rfl⟩
  have HRK : Hid (W0.rowIs w.heap.size 31 2 (fun i => if i = 0 then .int .i64 k else .string m)) := by rw [hW0]; exact (row2k w _ _ _).alloc _
  have HOE : Hid (W0.ownsRow w.heap.size 31 2 (.slice (some ⟨w.heap.size + 1, 0, none⟩) 0 0) 0 []) := by
    have := World.ownsRow_lit (e := 31) (size := 2) (w.alloc (.cells #[.int .i64 k, .string m] 31)) #[] 0 (base := w.heap.size) (by simp) (by unfold maxLen; omega) (by rfl)
    simp only [World.size_alloc] at this
    rw [hW0]; exact this
  rw [← hW0] at CV HB0
  clear B0 h1
  have hs0 : W0.heap.size = w.heap.size + 2 := by rw [hW0]; simp
  have HNO : Hid (∀ W', Below W0.heap.size W0 W' → nedA S T n k m = [] → KyR w (nedA S T n k m) (.returned (.slice (some ⟨w.heap.size + 1, 0, none⟩) 0 0)) W') := fun W' hb e => ⟨HB0.out.trans (hb.mono (by omega)), _, rfl, by rw [e]; exact ownR_below HOE.out hb⟩
  have HK0 : Hid (∀ W', Below W0.heap.size W0 W' → W'.cell? ⟨w.heap.size, 0, none⟩ = some (.int .i64 k) ∧ W'.cell? ⟨w.heap.size, 1, none⟩ = some (.string m)) := fun W' hb => by
    have r := HRK.out.of_block (hb.block _ HRK.out.lt)
    exact ⟨r.cell (i := 0) (by omega), r.cell (i := 1) (by omega)⟩
  have CK : Hid (∀ W', Calls Tryz.prog 17 #[.agg #[.int .i64 k, .string m]] W' fun e w' => e = .returned (.bool (kv k m)) ∧ Below W'.heap.size W' w') := fun W' => m_keyOk k m W' (by omega)
  cases hv : vsr n S T
  · rw [hv] at CV
    have HA : Hid (nedA S T n k m = []) := by show _ = _; unfold nedA; rw [hv]; rfl
    go_enter Tryz.func6, Tryz.ntmps6
    go_upto_region 2 with fail
    rw [← hW0]
    clear hW0
    go_wp2_with fail
    refine CV.out.mono ?_
    rintro e w' ⟨rfl, m2, rfl⟩
    go_wp2
    go_ret
    exact HNO.out _ (below_drewN' W0 m2) HA.out
  rw [hv] at CV
  cases hkv : kv k m
  · have HA : Hid (nedA S T n k m = []) := by show _ = _; unfold nedA; rw [hkv, Bool.and_false]; rfl
    rw [hkv] at CK
    go_enter Tryz.func6, Tryz.ntmps6
    go_upto_region 2 with fail
    rw [← hW0]
    clear hW0
    go_wp2_with fail
    refine CV.out.mono ?_
    rintro e w' ⟨rfl, m2, rfl⟩
    obtain ⟨c0, c1⟩ := HK0.out _ (below_drewN' W0 m2)
    go_wp2_with fail
    refine (CK.out _).mono ?_
    rintro e w2 ⟨rfl, hb2⟩
    have HB2 : Hid (Below W0.heap.size W0 w2) := (below_drewN' W0 m2).trans hb2
    clear hb2 c0 c1
    go_wp2
    go_ret
    exact HNO.out _ HB2.out HA.out
  rw [hkv] at CK
  cases hk1 : (k == 1)
  case true =>
    have HA : Hid (nedA S T n k m = []) := by show _ = _; unfold nedA; rw [hk1]; simp
    go_enter Tryz.func6, Tryz.ntmps6
    go_upto_region 2 with fail
    rw [← hW0]
    clear hW0
    go_wp2_with fail
    refine CV.out.mono ?_
    rintro e w' ⟨rfl, m2, rfl⟩
    obtain ⟨c0, c1⟩ := HK0.out _ (below_drewN' W0 m2)
    go_wp2_with fail
    refine (CK.out _).mono ?_
    rintro e w2 ⟨rfl, hb2⟩
    have HB2 : Hid (Below W0.heap.size W0 w2) := (below_drewN' W0 m2).trans hb2
    obtain ⟨d0, d1⟩ := HK0.out _ HB2.out
    clear hb2 c0 c1
    go_wp2
    go_ret
    exact HNO.out _ HB2.out HA.out
  case false =>
    have HA : Hid (nedA S T n k m = nedK m (impO S T n m)) := by show _ = _; unfold nedA; rw [hv, hkv, hk1]; rfl
    go_enter Tryz.func6, Tryz.ntmps6
    go_upto_region 2 with fail
    rw [← hW0]
    clear hW0 HNO
    go_wp2_with fail
    refine CV.out.mono ?_
    rintro e w' ⟨rfl, m2, rfl⟩
    obtain ⟨c0, c1⟩ := HK0.out _ (below_drewN' W0 m2)
    go_wp2_with fail
    refine (CK.out _).mono ?_
    rintro e w2 ⟨rfl, hb2⟩
    have HB2 : Hid (Below W0.heap.size W0 w2) := (below_drewN' W0 m2).trans hb2
    obtain ⟨d0, d1⟩ := HK0.out _ HB2.out
    have hs2 := HB2.out.size
    have HO2 : Hid (w2.ownsRow w.heap.size 31 2 (.slice (some ⟨w.heap.size + 1, 0, none⟩) 0 0) 0 []) := ownR_below HOE.out HB2.out
    have hne : some w.heap.size ≠ (Value.slice (some ⟨w.heap.size + 1, 0, none⟩) 0 0).ownBlock := by simp [Value.ownBlock]
    have d1' : (w2.alloc (.cells #[.int .i64 1, .string m] 31)).cell? ⟨w.heap.size, 1, none⟩ = some (.string m) := ((bel1 w2 _).cell (p := ⟨w.heap.size, 1, none⟩) (by show w.heap.size < w2.heap.size; omega)).trans d1
    clear hb2 c0 c1 CK CV
    go_wp2_with (first | (at_builtin; refine wpList_append_lies _ rfl _ _ 27 rfl w.heap.size 31 j0 _ 2 24 Tryz.underlying27 hj0 hy0 hy1 hy2 rfl (by omega) (.slice (some ⟨w.heap.size + 1, 0, none⟩) 0 0) 0 [] rfl (HO2.out.alloc _) ⟨w2.heap.size, 0, none⟩ 1 1 [.int .i64 1, .string m] rfl rfl (World.news_of_block (cs := #[.int .i64 1, .string m]) (t := 31) (fr := (0, 0)) (heap_alloc_new w2 _)) (by simp [Value.oneCell']) (by omega) (by unfold maxLen; omega) (by omega) (by simp only [World.size_alloc]; omega) (w2.heap.size + 1) (by simp) ?_; intro gg cap3 w3 hown3 hg3 hat3 hlt3; have f1 : w3.cell? ⟨w.heap.size, 1, none⟩ = some (.string m) := (hg3.cell_far ⟨w.heap.size, 1, none⟩ (by simp; omega) hne).trans d1'))
    have B2 : Below w.heap.size w w2 := HB0.out.trans (HB2.out.mono (by omega))
    have B3 : Below w.heap.size w w3 := below_grown B2 hg3 (fun b e => by have := (HO2.out.lt b e).1; omega)
    have HB3 : Hid (Below w.heap.size w w3) := B3
    have HO3 : Hid (w3.ownsRow w.heap.size 31 2 (.slice (some ⟨gg, 0, none⟩) 1 cap3) 1 (kysC (nedK m []))) := hown3
    have CI : Hid (Calls Tryz.prog 18 #[.slice ao n c, .string m] w3 (ImpR w3 (impO S T n m))) := m_imports w3 (HSR.out w3 B3) m
    clear hown3 hg3 hat3 hlt3 B2 B3 d0 d1 d1' hne
    refine CI.out.mono ?_
    rintro e w4 ⟨hb4, u, rfl, hM⟩
    obtain ⟨ML, hML⟩ : ∃ ML, ML = impO S T n m := ⟨_, rfl⟩
    rw [← hML] at hM HA
    have hml : ML.length ≤ 1000 := by rw [hML]; exact impO_len S T n m
    clear hML CI
    obtain ⟨N, hN⟩ : ∃ N, N = ML.length := ⟨_, rfl⟩
    rw [← hN] at hM hml
    have HN : Hid (N = ML.length) := hN
    clear hN
    obtain ⟨ua, uc, rfl⟩ := own_form hM
    have hw3 := HB3.out.size
    have ST : Hid (NdL w w4 m (.slice ua N uc) (.slice (some ⟨gg, 0, none⟩) 1 cap3) ML 0) := ⟨HB3.out.trans (hb4.mono hw3), ownR_below HO3.out hb4, by rw [← HN.out]; exact own_mono hM hw3⟩
    clear hb4 hM f1
    go_wp2
    go_loopw [5, 7] (fun v i wr => ∃ q : Nat, q ≤ N ∧ i = .int .i64 q ∧ Hid (NdL w wr m (.slice ua N uc) v ML q)) (fun _ i _ => N - (intOf i).toNat)
    case atStart => exact ⟨0, Nat.zero_le _, rfl, ST⟩
    case round =>
      clear ST
      obtain ⟨q, hq, rfl, HI⟩ := hrel
      have OWN := HI.out.own
      obtain ⟨va, vc, hv2⟩ := own_form OWN
      subst hv2
      have HO : Hid (wr.ownsRow w.heap.size 31 2 (.slice va (q + 1) vc) (q + 1) (kysC (nedK m (ML.take q)))) := OWN
      have hsz := HI.out.below.size
      clear OWN
      by_cases hlt : q < N
      · obtain ⟨g, rfl, cq⟩ := st_cellN (by have := HI.out.more; rw [← HN.out] at this; exact this) HN.out hlt
        obtain ⟨y, hy⟩ : ∃ y, y = ML.getD q ByteArray.empty := ⟨_, rfl⟩
        rw [← hy] at cq
        have HY : Hid (nedK m (ML.take (q + 1)) = nedK m (ML.take q) ++ [(2, y)]) := by
          show _ = _
          have hq2 : q < ML.length := by rw [← HN.out]; exact hlt
          rw [List.take_add_one, List.getElem?_eq_getElem hq2, ← nedK_snoc, hy, List.getD_eq_getElem?_getD, List.getElem?_eq_getElem hq2]
          rfl
        clear hy
        go_wp2_with (first | (at_builtin; refine wpList_append_lies _ rfl _ _ 27 rfl w.heap.size 31 j0 _ 2 24 Tryz.underlying27 hj0 hy0 hy1 hy2 rfl (by omega) (.slice va (q + 1) vc) (q + 1) (kysC (nedK m (ML.take q))) rfl (HO.out.alloc _) ⟨wr.heap.size, 0, none⟩ 1 1 [.int .i64 2, .string y] rfl rfl (World.news_of_block (cs := #[.int .i64 2, .string y]) (t := 31) (fr := (0, 0)) (heap_alloc_new wr _)) (by simp [Value.oneCell']) (by omega) (by unfold maxLen; omega) (by omega) (by simp only [World.size_alloc]; omega) (wr.heap.size + 1) (by simp) ?_; intro gg cap3 w5 hown3 hg3 hat3 hlt3))
        have HF : Hid (NdL w w5 m (.slice (some ⟨g, 0, none⟩) N uc) (.slice (some ⟨gg, 0, none⟩) (q + 1 + 1) cap3) ML (q + 1)) := by
          refine ⟨below_grown HI.out.below hg3 (fun b e => (HO.out.lt b e).1), ?_, own_kp HI.out.more ((kp_alloc _ wr _).trans (grown_kp (HO.out.alloc _) hg3)) (by decide)⟩
          rw [HY.out, kysC_snoc]; exact hown3
        clear hown3 hg3 hat3 hlt3
        go_wp2
        exact ⟨⟨q + 1, by omega, by go_num, HF⟩, by simp [intOf]; omega⟩
      · have hqn : q = N := by omega
        subst hqn
        have HE : Hid (kysC (nedK m (ML.take q)) = kysC (nedK m ML) ∧ (nedK m ML).length = q + 1) := ⟨by rw [List.take_of_length_le (Nat.le_of_eq HN.out.symm)], by rw [nedK_len, ← HN.out]⟩
        go_wp2
        go_ret
        refine ⟨HI.out.below, _, rfl, ?_⟩
        rw [HA.out, HE.out.2, ← HE.out.1]
        exact HO.out

end Go.Proofs.YtdjkgilohhjfoaaGreatDoor

namespace Go.Proofs.YtdjkgilohhjfoaaGreatDoor

/-- What declarations are told apart by. -/
def dkey (d : DC) : Int × List UInt8 := (d.kind, d.nm.data.toList)
/-- Which of the declarations are the first of their kind and name, where some have been met. -/
def fstK (seen : List (Int × List UInt8)) : List DC → List Bool
  | [] => []
  | d :: l => if seen.contains (dkey d) then false :: fstK seen l else true :: fstK (seen ++ [dkey d]) l
/-- The names of those of them that are imports. -/
def fstI : List DC → List Bool → List ByteArray
  | d :: l, f :: fs => if d.kind == 1 && f then d.nm :: fstI l fs else fstI l fs
  | _, _ => []
theorem fst_add : ∀ (l : List DC) (seen : List (Int × List UInt8)) (out : List ByteArray), (∀ s : ByteArray, hasN out s = seen.contains ((1 : Int), s.data.toList)) → out ++ fstI l (fstK seen l) = addN out (impN l)
  | [], seen, out, _ => by simp [fstI, impN, addN]
  | d :: l, seen, out, h => by
    unfold fstK
    cases hk : (d.kind == 1)
    · have e : impN (d :: l) = impN l := by simp [impN, hk]
      rw [e]
      split
      · rw [fstI, hk]
        exact fst_add l seen out h
      · rw [fstI, hk]
        refine fst_add l _ out fun s => ?_
        rw [h s]
        have hne : d.kind ≠ 1 := by simpa using hk
        have : ((1 : Int), s.data.toList) ≠ dkey d := fun e => hne (by simpa [dkey] using (congrArg Prod.fst e).symm)
        simp [this]
    · have e : impN (d :: l) = d.nm :: impN l := by simp [impN, hk]
      have hkey : dkey d = ((1 : Int), d.nm.data.toList) := by unfold dkey; rw [show d.kind = 1 by simpa using hk]
      rw [e, addN, h d.nm, hkey]
      split
      · rw [fstI]
        simp only [Bool.and_false, Bool.false_eq_true, if_false]
        exact fst_add l seen out h
      · rw [fstI, hk]
        simp only [Bool.and_self, if_true]
        rw [← fst_add l (seen ++ [((1 : Int), d.nm.data.toList)]) (out ++ [d.nm]) (fun s => ?_), List.append_assoc]
        · rfl
        · have h2 := h s
          unfold hasN at h2 ⊢
          rw [List.any_append, h2]
          simp only [List.any_cons, List.any_nil, Bool.or_false]
          rw [Bool.eq_iff_iff]
          simp only [Bool.or_eq_true, beq_iff_eq, List.contains_iff_mem, List.mem_append, List.mem_singleton, Prod.mk.injEq, true_and]
          exact ⟨fun z => z.imp id Eq.symm, fun z => z.imp id Eq.symm⟩
theorem first_names (l : List DC) : fstI l (fstK [] l) = addN [] (impN l) := by
  rw [← fst_add l [] [] (fun s => rfl)]; rfl

end Go.Proofs.YtdjkgilohhjfoaaGreatDoor

namespace Go.Proofs.YtdjkgilohhjfoaaGreatDoor
open Go.RowKit Go.Maps

set_option maxRecDepth 100000 in
theorem Tryz.rowM : (77 : TypeId) < Tryz.prog.types.size := of_decide_eq_true (by kernel_rfl)
set_option maxRecDepth 100000 in
theorem Tryz.laidOut' : laidOutB Tryz.prog = true := by kernel_rfl
theorem Tryz.cellsM : Tryz.prog.cellsOf 77 = 2 := by kernel_rfl
theorem Tryz.deepM : Tryz.prog.keyTypeAt (Tryz.prog.types.size + 1) 77 = true := by kernel_rfl
theorem Tryz.wideM : (match Tryz.prog.underlying 77 with | some (.array _ _) | some (.struct _) => true | _ => false) = true := by rw [Tryz.underlying77]
set_option maxRecDepth 100000 in
theorem Tryz.lawM : Keyed Tryz.prog 77 := Keyed.of_law (deep_law_laid Tryz.laidOut' (m := 3) (by omega) Tryz.rowM (by kernel_rfl) Tryz.wideM)
theorem Tryz.formedM {c0 c1 : Value} : (Value.agg #[c0, c1]).formed Tryz.prog 77 = true := by simp [Value.formed, Tryz.underlying77, Tryz.cellsM]
theorem Tryz.cells3M : Tryz.prog.cellsOf 3 = 1 := by kernel_rfl
theorem Tryz.cells9M : Tryz.prog.cellsOf 9 = 1 := by kernel_rfl
theorem Tryz.infoM : (Tryz.prog.info? 77).map (fun i => (i.zero, i.size, i.bytes)) = some (some (.agg #[.int .i64 0, .string ByteArray.empty]), 2, 24) := by kernel_rfl

/-- A kind and a name as a key. -/
def kq (q : Int × List UInt8) : Lit := (DataW.agg [.lit (.int .i64 q.1), .lit (.string q.2)] : DataW Unit).asKey
/-- A kind and a name as the program has it. -/
def qv (q : Int × List UInt8) : Value := .agg #[.int .i64 q.1, .string ⟨q.2.toArray⟩]
/-- A number that is one, and a name that is not too long. -/
def SmQ (q : Int × List UInt8) : Prop := (Lit.int .i64 q.1).wf = true ∧ q.2.length ≤ maxLen

set_option maxRecDepth 100000 in
theorem key_q {q : Int × List UInt8} (h : SmQ q) : keyOf Tryz.prog 77 (qv q) = some (kq q) := by
  have wa := h.1
  have wb := h.2
  have ht : DataW.Trod (H := Unit) (fun _ => ()) Tryz.prog default 0 (fun _ => true) true 77 (qv q) (.agg [.lit (.int .i64 q.1), .lit (.string q.2)]) [] := by
    refine ⟨3, ?_⟩
    have e : (ByteArray.mk q.2.toArray).size ≤ maxLen := by show q.2.toArray.size ≤ maxLen; simpa using wb
    simp [qv, DataW.trod, Tryz.underlying77, Tryz.underlying3, Tryz.underlying9, Tryz.cellsM, Tryz.cells3M, Value.cells, Tryz.cells9M, wa, e]
  exact (keyOf_asKey Tryz.deepM Tryz.wideM Tryz.formedM ht).1

theorem kq_inj {q r : Int × List UInt8} (hq : SmQ q) (hr : SmQ r) (e : kq r = kq q) : r = q := by
  have h := Tryz.lawM.inj (key_q hr) (by rw [e]; exact key_q hq)
  simp [qv] at h
  obtain ⟨h1, h2⟩ := h
  exact Prod.ext h1 h2

end Go.Proofs.YtdjkgilohhjfoaaGreatDoor

namespace Go.Proofs.YtdjkgilohhjfoaaGreatDoor
open Go.RowKit Go.Maps

/-- A question that is come to: known, or the next. -/
def addM (ord : List (Int × List UInt8)) (q : Int × List UInt8) : List (Int × List UInt8) := if ord.contains q then ord else ord ++ [q]
/-- The cells of the questions. -/
def qcells (ord : List (Int × List UInt8)) : List Value := ord.flatMap fun q => [.int .i64 q.1, .string ⟨q.2.toArray⟩]

structure KnQ (w : World) (kb mb : Nat) (ov : Value) (D : DataW Unit) (ord : List (Int × List UInt8)) (keep : Nat → Prop) : Prop where
  row : w.rowIs kb 95 2 (v2 (.map (some mb)) ov)
  mlt : mb < kb
  map : w.ownsMap Tryz.prog 77 (plainElem Tryz.prog 3) mb ord.length D
  has : ∀ q, SmQ q → Maps.has D (kq q) = ord.contains q
  val : ∀ q, SmQ q → q ∈ ord → D.atKey (kq q) (.lit (.int .i64 0)) = .lit (.int .i64 (ord.idxOf q : Int))
  own : w.ownsRow (kb + 1) 77 2 ov ord.length (qcells ord)
  far : ∀ k, keep k → k < w.heap.size ∧ k ≠ kb ∧ k ≠ mb ∧ some k ≠ ov.ownBlock

set_option maxHeartbeats 1000000 in
theorem kq_new (w : World) (keep : Nat → Prop) (hk : ∀ k, keep k → k < w.heap.size) :
    Calls Tryz.prog 39 #[] w fun e w' => e = .returned (.pointer (some ⟨w.heap.size + 1, 0, none⟩)) ∧ KnQ w' (w.heap.size + 1) w.heap.size (.slice none 0 0) (.map []) [] keep ∧ Kept keep w w' := by
  have hmm := @run_makeMap Tryz.prog
  go_enter Tryz.func39, Tryz.ntmps39
  go_wp2
  go_ret
  have R := row2 (w.alloc (.map #[] 0)) (.map (some w.heap.size)) (.slice none 0 0) 95
  simp only [World.size_alloc] at R
  refine ⟨rfl, ⟨R, by omega, (World.ownsMap_made w Tryz.prog 77 (plainElem Tryz.prog 3)).alloc _, fun q _ => rfl, fun q _ h => by simp at h, World.ownsRow_nil _ _ _ _, fun k h => ?_⟩, ?_⟩
  · have := hk k h
    exact ⟨by simp; omega, by omega, by omega, by simp [Value.ownBlock]⟩
  · have := bel2 w (.map #[] 0) (.cells #[.map (some w.heap.size), .slice none 0 0] 95)
    exact ⟨this.os, this.tape, this.output, this.size, fun k h => this.block k (hk k h)⟩

theorem look_q {w : World} {mb n : Nat} {D : DataW Unit} {q : Int × List UInt8} (h : w.ownsMap Tryz.prog 77 (plainElem Tryz.prog 3) mb n D) (hq : SmQ q) :
    ∃ v : Int, (∀ m, (Instr.lookup 92 (.map (some mb)) (.agg #[.int .i64 q.1, .string ⟨q.2.toArray⟩]) true).run Tryz.prog (w.drewN m) = .ok (.tuple #[.int .i64 v, .bool (Maps.has D (kq q))]) (w.drewN m)) ∧ D.atKey (kq q) (.lit (.int .i64 0)) = .lit (.int .i64 v) := by
  have hz : plainElem (H := Unit) Tryz.prog 3 (.int .i64 0) = some (.lit (.int .i64 0), []) := plainElem_int Tryz.underlying3 (by decide)
  have each : ∀ m, ∃ v : Int, (Instr.lookup 92 (.map (some mb)) (.agg #[.int .i64 q.1, .string ⟨q.2.toArray⟩]) true).run Tryz.prog (w.drewN m) = .ok (.tuple #[.int .i64 v, .bool (Maps.has D (kq q))]) (w.drewN m) ∧ D.atKey (kq q) (.lit (.int .i64 0)) = .lit (.int .i64 v) := fun m => by
    have h' : (w.drewN m).ownsMap Tryz.prog 77 (plainElem Tryz.prog 3) mb n D := h
    obtain ⟨v, ps, hrun, hR⟩ := h'.look_ok Tryz.lawM Tryz.underlying92 (Tryz.zero3 _) hz (key_q hq)
    obtain ⟨x, rfl, hx, _⟩ := plainElem_int_inv Tryz.underlying3 hR
    simp only [Prod.mk.injEq] at hx
    exact ⟨x, hrun, hx.1⟩
  obtain ⟨v, _, hv⟩ := each 0
  refine ⟨v, fun m => ?_, hv⟩
  obtain ⟨v', hrun, hv'⟩ := each m
  rw [hv] at hv'
  simp only [DataW.lit.injEq, Lit.int.injEq, true_and] at hv'
  rw [hv']; exact hrun

theorem qcells_snoc (ord : List (Int × List UInt8)) (q : Int × List UInt8) : qcells (ord ++ [q]) = qcells ord ++ [.int .i64 q.1, .string ⟨q.2.toArray⟩] := by simp [qcells]

end Go.Proofs.YtdjkgilohhjfoaaGreatDoor

