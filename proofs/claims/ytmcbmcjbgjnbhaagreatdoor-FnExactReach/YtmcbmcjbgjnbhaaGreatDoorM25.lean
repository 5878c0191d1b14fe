/-
  Merged for the claim: RbD RbE ReE ReG.
-/
import Derived.Test.YtmcbmcjbgjnbhaaGreatDoorM23
import Derived.Test.YtmcbmcjbgjnbhaaGreatDoorM24
namespace Go.Proofs.YtmcbmcjbgjnbhaaGreatDoor
open Go.RowKit

/-- The imports of a module, each once. -/
def impO (S T : Nat → ByteArray) (n : Nat) (s : ByteArray) : List ByteArray := addN [] (impN (dsOf S T n s))
/-- All names that are imported anywhere. -/
def impU (T : Nat → ByteArray) (n : Nat) : List ByteArray := (List.range n).flatMap fun i => impN (decs false ((toks (T i)).length + 1) (toks (T i)))
theorem impU_len (T : Nat → ByteArray) : ∀ n, (impU T n).length ≤ n * 1000
  | 0 => Nat.le_refl _
  | n + 1 => by
    have h := impU_len T n
    unfold impU at h ⊢
    rw [List.range_succ, List.flatMap_append, List.length_append]
    have h1 := impN_len (decs false ((toks (T n)).length + 1) (toks (T n)))
    have h2 := (decs_sm false ((toks (T n)).length + 1) (toks (T n))).1
    have h3 := toks_len (T n)
    simp only [List.flatMap_cons, List.flatMap_nil, List.append_nil]
    omega
theorem impO_sub {S T : Nat → ByteArray} {n : Nat} (s x : ByteArray) (h : x ∈ impO S T n s) : x ∈ impU T n := by
  unfold impO at h
  rcases (addN_mem _ _ _).1 h with z | z
  · cases z
  · unfold dsOf at z
    split at z
    · cases z
    · rename_i i hi
      exact List.mem_flatMap.2 ⟨i, List.mem_range.2 (srcI_lt hi), z⟩
/-- What is reached, in the order in which it is met. -/
def rchO (S T : Nat → ByteArray) (n : Nat) (s : ByteArray) : List ByteArray := rch (impO S T n) 8001 0 (impO S T n s)
theorem impO_met (S T : Nat → ByteArray) (n : Nat) (s : ByteArray) : Met (impU T n) (impO S T n s) := ⟨addN_nodup _ _ List.nodup_nil, fun x hx => impO_sub s x hx⟩
theorem rchO_met (S T : Nat → ByteArray) (n : Nat) (s : ByteArray) : Met (impU T n) (rchO S T n s) := rch_met (fun s x hx => impO_sub s x hx) _ _ _ (impO_met S T n s)

theorem own_other {B n : Nat} {w w5 : World} {o : Obj} {v u : Value} {t : TypeId} {k : Nat} {xs : List Value} (h : w.ownsRow B t k u n xs) (hg : (w.alloc o).grownBy w5 v.ownBlock) (hne : ∀ b, u.ownBlock = some b → v.ownBlock ≠ some b) : w5.ownsRow B t k u n xs := by
  obtain ⟨h1, h2⟩ := h
  refine ⟨h1, ?_⟩
  rcases h2 with h2 | ⟨g, cap, cur, hv, hb', hh, r⟩
  · exact Or.inl h2
  · refine Or.inr ⟨g, cap, cur, hv, hb', ?_, r⟩
    have hlt : g < w.heap.size := (Array.getElem?_eq_some_iff.1 hh).1
    rw [hg.block g (by simp only [World.size_alloc]; omega) (fun e => hne g (by rw [hv]; rfl) e.symm)]
    exact (Below.heap_alloc _ _ _ hlt).trans hh
theorem st_cell {B n : Nat} {w : World} {a : Option Addr} {c : Nat} {ns : List ByteArray} (h : w.ownsRow B 9 1 (.slice a n c) n (sts ns)) (hn : n = ns.length) {k : Nat} (hk : k < n) : ∃ g, a = some ⟨g, 0, none⟩ ∧ w.cell? ⟨g, k, none⟩ = some (.string (ns.getD k ByteArray.empty)) := by
  subst hn
  obtain ⟨g, gc, ev, _⟩ := own_blk h (show 0 < ns.length by omega)
  simp only [Value.slice.injEq] at ev
  obtain ⟨rfl, -, rfl⟩ := ev
  refine ⟨g, rfl, ?_⟩
  have := own_at (f := fun s : ByteArray => [Value.string s]) sts_len h (j := k) (r := 0) (u := .string ns[k]) rfl hk (by omega) rfl
  rw [Nat.mul_one, Nat.add_zero] at this
  rw [this, List.getD_eq_getElem?_getD, List.getElem?_eq_getElem hk]
  rfl
theorem addN_take {out l : List ByteArray} {q : Nat} (hq : q < l.length) : addN out (l.take (q + 1)) = if hasN (addN out (l.take q)) (l.getD q ByteArray.empty) then addN out (l.take q) else addN out (l.take q) ++ [l.getD q ByteArray.empty] := by
  rw [List.take_add_one, List.getD_eq_getElem?_getD, List.getElem?_eq_getElem hq]
  exact addN_snoc _ _ _

/-- The walk's state. -/
structure RLoop (w wr : World) (S T : Nat → ByteArray) (n : Nat) (s : ByteArray) (v : Value) (k : Nat) (NL : List ByteArray) : Prop where
  below : Below w.heap.size w wr
  own : wr.ownsRow w.heap.size 9 1 v NL.length (sts NL)
  met : Met (impU T n) NL
  le : k ≤ NL.length
  rest : rch (impO S T n) (8001 - k) k NL = rchO S T n s
/-- While the imports of one name are met. -/
structure RIn (w wr : World) (T : Nat → ByteArray) (n : Nat) (v u : Value) (NL ML : List ByteArray) (q : Nat) : Prop where
  below : Below w.heap.size w wr
  own : wr.ownsRow w.heap.size 9 1 v (addN NL (ML.take q)).length (sts (addN NL (ML.take q)))
  more : wr.ownsRow w.heap.size 9 1 u ML.length (sts ML)
  sep : ∀ b, u.ownBlock = some b → v.ownBlock ≠ some b
  met : Met (impU T n) (addN NL (ML.take q))

set_option maxRecDepth 100000 in
set_option maxHeartbeats 2000000 in
/-- l3Reach. -/
theorem m_reach {ao : Option Addr} {b o n c : Nat} {S T : Nat → ByteArray} (w : World) (h1 : SrcsAt w ao b o n S T) (hn8 : n ≤ 8) (s : ByteArray) :
    Calls Tryz.prog 16 #[.slice ao n c, .string s] w (ImpR w (rchO S T n s)) := by
  obtain ⟨j0, hj0, hy0, hy1, hy2⟩ := info_parts Tryz.info9
  have HU : Hid ((impU T n).length ≤ 8000) := by show _ ≤ _; have := impU_len T n; omega
  have HC : Hid (∀ (w' : World) (x : ByteArray), Below w.heap.size w w' → Calls Tryz.prog 25 #[.slice ao n c, .string x] w' (ImpR w' (impO S T n x))) := fun w' x hb => m_imports w' (h1.below hb) x
  clear h1
  go_enter Tryz.func16, Tryz.ntmps16
  go_wp2_with fail
  refine (HC.out w s (Below.refl _ _)).mono ?_
  rintro e w2 ⟨hb, v, rfl, hO⟩
  have ST : Hid (RLoop w w2 S T n s v 0 (impO S T n s)) := ⟨hb, hO, impO_met S T n s, Nat.zero_le _, rfl⟩
  clear hb
  obtain ⟨ia, ic, rfl⟩ := own_form hO
  clear hO
  go_wp2
  go_loopw [5, 6] (fun v i wr => ∃ (k : Nat) (NL : List ByteArray), k ≤ 8000 ∧ i = .int .i64 k ∧ Hid (RLoop w wr S T n s v k NL)) (fun _ i _ => 8001 - (intOf i).toNat)
  case atStart => exact ⟨0, _, Nat.zero_le _, rfl, ST⟩
  case round =>
    clear ST
    obtain ⟨k, NL, hk8, rfl, HR⟩ := hrel
    have hlen := HR.out.met.len
    have hle := HR.out.le
    have hu := HU.out
    obtain ⟨nl, hnl⟩ : ∃ nl, nl = NL.length := ⟨_, rfl⟩
    have OWN := HR.out.own
    rw [← hnl] at OWN hlen hle
    have HNN : Hid (nl = NL.length) := hnl
    clear hnl
    obtain ⟨va, vc, hv⟩ := own_form OWN
    subst hv
    have hl8 : nl ≤ 8000 := by omega
    clear hlen hu
    by_cases hlt : k < nl
    · obtain ⟨g, rfl, ck⟩ := st_cell OWN HNN.out hlt
      obtain ⟨x, hx⟩ : ∃ x, x = NL.getD k ByteArray.empty := ⟨_, rfl⟩
      rw [← hx] at ck
      have HX : Hid (NL.getD k ByteArray.empty = x) := hx.symm
      clear hx
      have HO : Hid (wr.ownsRow w.heap.size 9 1 (.slice (some ⟨g, 0, none⟩) nl vc) nl (sts NL)) := OWN
      clear OWN
      go_wp2_with fail
      refine (HC.out wr x HR.out.below).mono ?_
      rintro e w3 ⟨hb, u, rfl, hM⟩
      obtain ⟨ML, hML⟩ : ∃ ML, ML = impO S T n x := ⟨_, rfl⟩
      rw [← hML] at hM
      have HML : Hid (impO S T n x = ML) := hML.symm
      have HMU : Hid (∀ y, y ∈ ML → y ∈ impU T n) := fun y hy => by rw [hML] at hy; exact impO_sub x y hy
      have hml : ML.length ≤ 8000 := by
        have := (impO_met S T n x).len
        have := HU.out
        rw [hML]; omega
      clear hML
      obtain ⟨m, hm⟩ : ∃ m, m = ML.length := ⟨_, rfl⟩
      rw [← hm] at hM hml
      have HM : Hid (m = ML.length) := hm
      clear hm
      obtain ⟨ua, uc, rfl⟩ := own_form hM
      have hw := HR.out.below.size
      have ST : Hid (RIn w w3 T n (.slice (some ⟨g, 0, none⟩) nl vc) (.slice ua m uc) NL ML 0) :=
        ⟨HR.out.below.trans (hb.mono hw), by have := own_kp HO.out (below_kp hb) (by decide); rw [HNN.out] at this ⊢; exact this, by rw [← HM.out]; exact own_mono hM hw, fun b e e2 => by
          have h1 := (hM.lt b e).1
          have h2 := (HO.out.lt b e2).2
          omega, HR.out.met⟩
      clear hb hM ck
      go_wp2
      go_loopw [5, 8] (fun v j wr => ∃ q : Nat, q ≤ m ∧ j = .int .i64 q ∧ Hid (RIn w wr T n v (.slice ua m uc) NL ML q)) (fun _ j _ => m - (intOf j).toNat)
      case atStart => exact ⟨0, Nat.zero_le _, rfl, ST⟩
      case round =>
        clear ST
        obtain ⟨q, hq, rfl, HI⟩ := hrel
        obtain ⟨QL, hQL⟩ : ∃ QL, QL = addN NL (ML.take q) := ⟨_, rfl⟩
        have hlen := HI.out.met.len
        have hu := HU.out
        have OWQ := HI.out.own
        rw [← hQL] at OWQ hlen
        have HQL : Hid (addN NL (ML.take q) = QL) := hQL.symm
        clear hQL
        obtain ⟨ql, hql⟩ : ∃ ql, ql = QL.length := ⟨_, rfl⟩
        rw [← hql] at OWQ hlen
        have HQN : Hid (ql = QL.length) := hql
        clear hql
        obtain ⟨qa, qc, hv⟩ := own_form OWQ
        subst hv
        have HOQ : Hid (wr.ownsRow w.heap.size 9 1 (.slice qa ql qc) ql (sts QL)) := OWQ
        have hq8 : ql ≤ 8000 := by omega
        have hsz := HI.out.below.size
        clear hlen hu OWQ
        by_cases hqm : q < m
        · obtain ⟨mg, rfl, cq⟩ := st_cell (by have := HI.out.more; rw [← HM.out] at this; exact this) HM.out hqm
          obtain ⟨y, hy⟩ : ∃ y, y = ML.getD q ByteArray.empty := ⟨_, rfl⟩
          rw [← hy] at cq
          have HY : Hid (addN NL (ML.take (q + 1)) = if hasN QL y then QL else QL ++ [y]) := by
            show _ = _
            rw [addN_take (by rw [← HM.out]; exact hqm), HQL.out, ← hy]
          have HYU : Hid (Met (impU T n) (addN NL (ML.take (q + 1)))) := HR.out.met.add fun z hz => HMU.out z (List.mem_of_mem_take hz)
          clear hy
          cases hh : hasN QL y
          case true =>
            have HF : Hid (RIn w wr T n (.slice qa ql qc) (.slice (some ⟨mg, 0, none⟩) m uc) NL ML (q + 1)) := by
              have e : addN NL (ML.take (q + 1)) = QL := by rw [HY.out, hh]; rfl
              refine ⟨HI.out.below, ?_, HI.out.more, HI.out.sep, HYU.out⟩
              rw [e, ← HQN.out]; exact HOQ.out
            go_wp2_with fail
            refine (m_twice wr HQN.out HOQ.out (by omega) y hh).mono ?_
            rintro e w' ⟨rfl, rfl⟩
            go_wp2
            exact ⟨⟨q + 1, by omega, by go_num, HF⟩, by simp [intOf]; omega⟩
          case false =>
            have HE : Hid (addN NL (ML.take (q + 1)) = QL ++ [y]) := by show _ = _; rw [HY.out, hh]; rfl
            go_wp2_with fail
            refine (m_twice wr HQN.out HOQ.out (by omega) y hh).mono ?_
            rintro e w' ⟨rfl, rfl⟩
            go_wp2_with (first | (at_builtin; refine wpList_append_lies _ rfl _ _ 24 rfl w.heap.size 9 j0 _ 1 16 Tryz.underlying24 hj0 hy0 hy1 hy2 rfl (by omega) (.slice qa ql qc) ql (sts QL) rfl (HOQ.out.alloc _) ⟨wr.heap.size, 0, none⟩ 1 1 [.string y] rfl rfl (World.news_of_block (cs := #[.string y]) (t := 9) (fr := (0, 0)) (heap_alloc_new wr _)) (by simp [Value.oneCell']) (by omega) (by unfold maxLen; omega) (by omega) (by simp only [World.size_alloc]; omega) (wr.heap.size + 1) (by simp) ?_; intro gg cap3 w5 hown3 hg3 hat3 hlt3))
            have HF : Hid (RIn w w5 T n (.slice (some ⟨gg, 0, none⟩) (ql + 1) cap3) (.slice (some ⟨mg, 0, none⟩) m uc) NL ML (q + 1)) := by
              refine ⟨below_grown HI.out.below hg3 (fun b e => (HOQ.out.lt b e).1), ?_, own_other HI.out.more hg3 HI.out.sep, fun b e e2 => ?_, HYU.out⟩
              · rw [HE.out, sts_snoc, List.length_append, ← HQN.out]; exact hown3
              · have e3 : b = gg := by simpa [Value.ownBlock] using e2.symm
                subst e3
                rcases hat3 with z | z
                · exact HI.out.sep b e z
                · have := (HI.out.more.lt b e).2
                  omega
            clear hown3 hg3 hat3 hlt3
            go_wp2
            exact ⟨⟨q + 1, by omega, by go_num, HF⟩, by simp [intOf]; omega⟩
        · have hqe : q = m := by omega
          subst hqe
          have HE : Hid (addN NL (impO S T n x) = QL) := by
            show _ = _
            rw [HML.out, ← HQL.out, List.take_of_length_le (Nat.le_of_eq HM.out.symm)]
          have HF : Hid (RLoop w wr S T n s (.slice qa ql qc) (k + 1) QL) := by
            refine ⟨HI.out.below, by rw [← HQN.out]; exact HOQ.out, by have := HI.out.met; rw [HQL.out] at this; exact this, ?_, ?_⟩
            · obtain ⟨r, hr⟩ := addN_pre (impO S T n x) NL
              rw [HE.out] at hr
              rw [hr, List.length_append, ← HNN.out]; omega
            · have hr := HR.out.rest
              have e8 : 8001 - k = 8001 - (k + 1) + 1 := by omega
              rw [e8, rch_step (by rw [← HNN.out]; exact hlt), HX.out, HE.out] at hr
              exact hr
          go_wp2
          exact ⟨⟨k + 1, QL, by omega, by go_num, HF⟩, by simp [intOf]; omega⟩
    · have hkn : k = nl := by omega
      subst hkn
      have HE : Hid (rchO S T n s = NL) := by
        show _ = _
        rw [← HR.out.rest, rch_end (by rw [← HNN.out]; omega)]
      go_wp2
      go_ret
      exact ⟨HR.out.below, _, rfl, by rw [HE.out, ← HNN.out]; exact OWN⟩

end Go.Proofs.YtmcbmcjbgjnbhaaGreatDoor

namespace Go.Proofs.YtmcbmcjbgjnbhaaGreatDoor
open Go.RowKit

theorem tx_in (ts : List TK) (i : Nat) : tx ts i = e0 ∨ ∃ t, t ∈ ts ∧ tx ts i = t.txt := by
  unfold tx
  cases h : ts[i]? with
  | none => exact .inl rfl
  | some t => exact .inr ⟨t, List.mem_of_getElem? h, rfl⟩
theorem decl_nm (st : Bool) (ts : List TK) : (declP st ts).nm = e0 ∨ ∃ t, t ∈ ts ∧ (declP st ts).nm = t.txt := by
  have h := tx_in ts 1
  unfold declP
  repeat' split
  all_goals first | exact .inl rfl | exact h
theorem decs_nm (st : Bool) : ∀ (f : Nat) (ts : List TK), (∀ t, t ∈ ts → t.txt.size ≤ 1000) → ∀ d, d ∈ decs st f ts → d.nm.size ≤ 1000
  | 0, _, _, d, hd => by cases hd
  | f + 1, ts, h, d, hd => by
    rw [decs] at hd
    split at hd
    · cases hd
    · cases e : semi ts with
      | none =>
        rw [e] at hd
        rw [List.mem_singleton.1 hd]
        exact Nat.zero_le _
      | some k =>
        rw [e] at hd
        rcases List.mem_cons.1 hd with z | z
        · rw [z]
          rcases decl_nm st (ts.take k) with y | ⟨t, ht, y⟩
          · rw [y]; exact Nat.zero_le _
          · rw [y]; exact h t (List.mem_of_mem_take ht)
        · exact decs_nm st f _ (fun t ht => h t (List.mem_of_mem_drop ht)) d z
theorem impU_size {T : Nat → ByteArray} {n : Nat} {x : ByteArray} (h : x ∈ impU T n) : x.size ≤ 1000 := by
  obtain ⟨i, _, hx⟩ := List.mem_flatMap.1 h
  obtain ⟨d, hd, rfl⟩ := List.mem_map.1 hx
  exact decs_nm false _ _ (toks_ok (T i)).sz d ((List.mem_filter.1 hd).1)

set_option maxHeartbeats 1000000 in
theorem m_less (a b : ByteArray) (w : World) (_ha : a.size ≤ 9223372036854775807) (_hb : b.size ≤ 9223372036854775807) :
    Calls Tryz.prog 24 #[.string a, .string b] w fun e w' => e = .returned (.bool (lt a b)) ∧ ∃ n, w' = w.drewN n := by
  go_enter Tryz.func24, Tryz.ntmps24
  go_wp2
  go_loopw [5] (fun i wr => ∃ k : Nat, k ≤ a.size ∧ k ≤ b.size ∧ i = .int .i64 k ∧ Hid (∀ j (h1 : j < a.size) (h2 : j < b.size), j < k → a[j] = b[j]) ∧ ∃ m, wr = w.drewN m) (fun i _ => a.size - (intOf i).toNat)
  case atStart => exact ⟨0, Nat.zero_le _, Nat.zero_le _, rfl, fun j _ _ h => absurd h (Nat.not_lt_zero _), 0, rfl⟩
  case round =>
    obtain ⟨k, hka, hkb, rfl, HA, m, rfl⟩ := hrel
    by_cases h1 : k < a.size
    · by_cases h2 : k < b.size
      · by_cases h3 : a[k].toNat = b[k].toNat
        · have H3 : Hid (a[k] = b[k]) := UInt8.toNat_inj.1 h3
          have h3' : ((a[k].toNat : Int) != (b[k].toNat : Int)) = false := by rw [bne_eq_false_iff_eq]; omega
          clear h3
          go_wp2
          go_quiet (fail)
          go_wp2
          go_roundw
          case rel => exact ⟨k + 1, by omega, by omega, by go_num, fun j q1 q2 hj => by
            by_cases e : j = k
            · subst e; exact H3.out
            · exact HA.out j q1 q2 (by omega), _, rfl⟩
          case measure => simp [intOf]; omega
        · have HE : Hid (lt a b = decide ((a[k].toNat : Int) < (b[k].toNat : Int))) := lt_at h1 h2 HA.out (fun e => h3 (by rw [e]))
          have h3' : ((a[k].toNat : Int) != (b[k].toNat : Int)) = true := by rw [bne_iff_ne]; omega
          clear h3
          go_wp2
          go_quiet (fail)
          go_wp2
          go_quiet (fail)
          go_wp2
          go_ret
          exact ⟨ret_bool (by rw [HE.out]; simp), _, by rw [World.drewN_drewN, World.drewN_drewN]⟩
      · have HE : Hid (lt a b = decide ((a.size : Int) < (b.size : Int))) := lt_end hka hkb HA.out (Or.inr (by omega))
        go_wp2
        go_ret
        exact ⟨ret_bool (by rw [HE.out]; simp), _, rfl⟩
    · have HE : Hid (lt a b = decide ((a.size : Int) < (b.size : Int))) := lt_end hka hkb HA.out (Or.inl (by omega))
      go_wp2
      go_ret
      exact ⟨ret_bool (by rw [HE.out]; simp), _, rfl⟩

end Go.Proofs.YtmcbmcjbgjnbhaaGreatDoor

namespace Go.Proofs.YtmcbmcjbgjnbhaaGreatDoor
open Go.RowKit Go.Maps

theorem decl_kind (st : Bool) (ts : List TK) : 0 ≤ (declP st ts).kind ∧ (declP st ts).kind ≤ 3 := by
  unfold declP
  repeat' split
  all_goals first
    | exact ⟨by decide, by decide⟩
    | exact ⟨show (0 : Int) ≤ 1 by decide, show (1 : Int) ≤ 3 by decide⟩
    | exact ⟨show (0 : Int) ≤ 2 by decide, show (2 : Int) ≤ 3 by decide⟩
    | exact ⟨show (0 : Int) ≤ 3 by decide, show (3 : Int) ≤ 3 by decide⟩
theorem decs_kind (st : Bool) : ∀ (f : Nat) (ts : List TK), ∀ d, d ∈ decs st f ts → 0 ≤ d.kind ∧ d.kind ≤ 3
  | 0, _, d, hd => by cases hd
  | f + 1, ts, d, hd => by
    rw [decs] at hd
    split at hd
    · cases hd
    · cases e : semi ts with
      | none =>
        rw [e] at hd
        rw [List.mem_singleton.1 hd]
        exact ⟨by decide, by decide⟩
      | some k =>
        rw [e] at hd
        rcases List.mem_cons.1 hd with z | z
        · rw [z]; exact decl_kind _ _
        · exact decs_kind st f _ d z
/-- The declarations of a text. -/
def dsT (s : ByteArray) : List DC := decs true ((toks s).length + 1) (toks s)
theorem dsT_sm {s : ByteArray} {d : DC} (h : d ∈ dsT s) : SmQ (dkey d) := by
  have h1 := decs_kind true _ _ d h
  have h2 := decs_nm true _ _ (toks_ok s).sz d h
  refine ⟨WalkArith.wf_i64 ?_, ?_⟩
  · show _ ∧ _
    unfold dkey
    omega
  · unfold dkey maxLen
    show d.nm.size ≤ _
    omega
theorem dsT_len (s : ByteArray) : (dsT s).length ≤ 1000 := by
  have := (decs_sm true ((toks s).length + 1) (toks s)).1
  have := toks_len s
  unfold dsT
  omega

/-- The state of newUnit's loop. -/
structure UL (w1 wr : World) (dv fv ov : Value) (ds : List DC) (k : Nat) (ord : List (Int × List UInt8)) (fl : List Bool) : Prop where
  below : Below w1.heap.size w1 wr
  box : wr.rowIs w1.heap.size 43 3 (v3 dv fv (.slice none 0 0))
  kn : KnU wr (w1.heap.size + 2) (w1.heap.size + 1) ov ord
  own : wr.ownsRow (w1.heap.size + 3) 4 1 fv fl.length (fl.map Value.bool)
  is : fl ++ fstK ord (ds.drop k) = fstK [] ds
  len : fl.length = k
  ol : ord.length ≤ k

theorem toBut {w w' : World} (h : Below w.heap.size w w') : But [] w w' := ⟨h.os, h.tape, h.output, h.size, fun k hk _ => h.block k hk⟩

theorem below_but {w wr w2 : World} {L : List Nat} (h : Below w.heap.size w wr) (hb : But L wr w2) (hL : ∀ b, b ∈ L → w.heap.size ≤ b) : Below w.heap.size w w2 :=
  ⟨hb.os.trans h.os, hb.tape.trans h.tape, hb.output.trans h.output, Nat.le_trans h.size hb.size, fun k hk => (hb.block k (Nat.lt_of_lt_of_le hk h.size) (fun z => by have := hL k z; omega)).trans (h.block k hk)⟩
/-- Behind the numbering of a name. -/
theorem UL.on {w1 wr w2 : World} {dv fv ov : Value} {ds : List DC} {k : Nat} {ord : List (Int × List UInt8)} {fl : List Bool} {o : Obj} (h : UL w1 wr dv fv ov ds k ord fl) (hb : But ((w1.heap.size + 2) :: (w1.heap.size + 1) :: ov.ownBlock.toList) (wr.alloc o) w2) : w2.ownsRow (w1.heap.size + 3) 4 1 fv fl.length (fl.map Value.bool) ∧ w2.rowIs w1.heap.size 43 3 (v3 dv fv (.slice none 0 0)) := by
  have hub := h.box.lt
  have hid := h.kn.ids
  refine ⟨own_block (h.own.alloc o) (fun b e => hb.block b (by have := (h.own.lt b e.symm).2; simp only [World.size_alloc]; omega) (fun hm => by
    have h1 := (h.own.lt b e.symm).1
    simp only [List.mem_cons, Option.mem_toList] at hm
    rcases hm with z | z | z
    · omega
    · omega
    · exact own_ne h.own h.kn.own (by decide) e.symm z)), (h.box.alloc o).of_block (hb.block _ (by simp only [World.size_alloc]; omega) (fun hm => ?_))⟩
  simp only [List.mem_cons, Option.mem_toList] at hm
  rcases hm with z | z | z
  · omega
  · omega
  · have := (hid.2.2 _ z).1; omega
theorem UL.next {w1 wr w2 w3 : World} {dv fv ov ov' : Value} {ds : List DC} {k gg cap3 : Nat} {ord : List (Int × List UInt8)} {fl : List Bool} {d : DC} {o o2 : Obj} (h : UL w1 wr dv fv ov ds k ord fl) (hd : ds[k]? = some d)
    (hkn : KnU w2 (w1.heap.size + 2) (w1.heap.size + 1) ov' (addM ord (dkey d))) (hb : But ((w1.heap.size + 2) :: (w1.heap.size + 1) :: ov.ownBlock.toList) (wr.alloc o) w2)
    (hown : w3.ownsRow (w1.heap.size + 3) 4 1 (.slice (some ⟨gg, 0, none⟩) (fl.length + 1) cap3) (fl.length + 1) (fl.map Value.bool ++ [.bool (!ord.contains (dkey d))])) (hg : (w2.alloc o2).grownBy w3 fv.ownBlock) :
    UL w1 (w3.setCell ⟨w1.heap.size, 1, none⟩ (.slice (some ⟨gg, 0, none⟩) (fl.length + 1) cap3)) dv (.slice (some ⟨gg, 0, none⟩) (fl.length + 1) cap3) ov' ds (k + 1) (addM ord (dkey d)) (fl ++ [!ord.contains (dkey d)]) := by
  have hs := h.below.size
  have hbs := hb.size
  have hgs := hg.size
  have hub := h.box.lt
  have hid := h.kn.ids
  simp only [World.size_alloc] at hbs hgs
  have nS : ∀ b, b ≤ w1.heap.size → b ∉ (w1.heap.size + 2) :: (w1.heap.size + 1) :: ov.ownBlock.toList := fun b hb hm => by
    simp only [List.mem_cons, Option.mem_toList] at hm
    rcases hm with z | z | z
    · omega
    · omega
    · have := (hid.2.2 b z).1; omega
  have f1 : ∀ b, b ≤ w1.heap.size → w3.heap[b]? = wr.heap[b]? := fun b hb1 => by
    rw [hg.block b (by simp only [World.size_alloc]; omega) (fun e => by have := (h.own.lt b e.symm).1; omega), Below.heap_alloc _ _ _ (by omega), hb.block b (by simp only [World.size_alloc]; omega) (nS b hb1), Below.heap_alloc _ _ _ (by omega)]
  have hb3 : But [] w2 (w2.alloc o2) := (But.refl [] w2).alloc o2
  have hids := hkn.ids
  have hofl : w2.ownsRow (w1.heap.size + 3) 4 1 fv fl.length (fl.map Value.bool) := own_block (h.own.alloc o) (fun b e => hb.block b (by have := (h.own.lt b e.symm).2; simp only [World.size_alloc]; omega) (fun hm => by
    have h1 := (h.own.lt b e.symm).1
    simp only [List.mem_cons, Option.mem_toList] at hm
    rcases hm with z | z | z
    · omega
    · omega
    · exact own_ne h.own h.kn.own (by decide) e.symm z))
  refine ⟨?_, ?_, ?_, ?_, ?_, ?_, ?_⟩
  · refine ⟨hg.os.trans (hb.os.trans h.below.os), hg.tape.trans (hb.tape.trans h.below.tape), hg.output.trans (hb.output.trans h.below.output), by rw [World.size_setCell]; omega, fun b hb1 => ?_⟩
    rw [Below.heap_setCell _ _ _ _ (by show b ≠ w1.heap.size; omega), f1 b (by omega)]
    exact h.below.block b hb1
  · refine ((h.box.of_block (f1 _ (Nat.le_refl _))).set 1 _).congr (fun i hi => ?_)
    match i, hi with
    | 0, _ => rfl
    | 1, _ => rfl
    | 2, _ => rfl
  · refine KnU.but (S := [w1.heap.size]) (w := w3) ?_ ((But.refl [w1.heap.size] w3).set (fun _ => by simp) 1 _) (by simp) (by simp) (fun b e => by have := (hids.2.2 b e).1; simp; omega)
    refine KnU.but (S := fv.ownBlock.toList) (w := w2.alloc o2) (hkn.but hb3 (by simp) (by simp) (fun b _ => by simp)) ⟨hg.os, hg.tape, hg.output, by simp only [World.size_alloc]; omega, fun b hb1 hn => hg.block b hb1 (fun e => hn (by simp [← e]))⟩ ?_ ?_ ?_
    · intro hm
      have := (h.own.lt _ (by simpa using hm)).1
      omega
    · intro hm
      have := (h.own.lt _ (by simpa using hm)).1
      omega
    · intro b e hm
      exact own_ne hofl hkn.own (by decide) (by simpa using hm) e
  · have := ownsRow_setCell_below hown (a := ⟨w1.heap.size, 1, none⟩) (by show w1.heap.size < w1.heap.size + 3; omega) (.slice (some ⟨gg, 0, none⟩) (fl.length + 1) cap3)
    rw [List.map_append, List.length_append]
    exact this
  · have hdr : ds.drop k = d :: ds.drop (k + 1) := by
      obtain ⟨hk, e⟩ := List.getElem?_eq_some_iff.1 hd
      rw [List.drop_eq_getElem_cons hk, e]
    have hi := h.is
    rw [hdr, fstK_cons] at hi
    rw [List.append_assoc]
    exact hi
  · rw [List.length_append, h.len]; rfl
  · have := addM_len ord (dkey d)
    have := h.ol
    omega

/-- A module in memory of one's own: its declarations, and which are the first. -/
structure UnitO (B : Nat) (w : World) (dv fv : Value) (ds : List DC) (xs : List (DC × DPl)) : Prop where
  od : OD B w dv xs
  is : xs.map Prod.fst = ds
  fl : w.ownsRow B 4 1 fv ds.length ((fstK [] ds).map Value.bool)

/-- What newUnit gives. -/
def UnR (w : World) (ds : List DC) (e : Ending) (w' : World) : Prop := Below w.heap.size w w' ∧ ∃ dv fv xs, e = .returned (.agg #[dv, fv, .slice none 0 0]) ∧ UnitO w.heap.size w' dv fv ds xs

theorem un_ret {W : World} {X : Nat} {f : Nat → Value} (R : W.rowIs X 43 3 f) (a b c : Value) (tmps : Array Value) (h2 : tmps[2]?.getD undef = .pointer (some ⟨X, 0, none⟩)) :
    (results Tryz.f29 tmps).run Tryz.prog (((W.setCell ⟨X, 0, none⟩ a).setCell ⟨X, 1, none⟩ b).setCell ⟨X, 2, none⟩ c) = .ok (.agg #[a, b, c]) (((W.setCell ⟨X, 0, none⟩ a).setCell ⟨X, 1, none⟩ b).setCell ⟨X, 2, none⟩ c) := by
  have r := ((R.set 0 a).set 1 b).set 2 c
  obtain ⟨V, hV⟩ : ∃ V, V = ((W.setCell ⟨X, 0, none⟩ a).setCell ⟨X, 1, none⟩ b).setCell ⟨X, 2, none⟩ c := ⟨_, rfl⟩
  rw [← hV] at r ⊢
  clear hV R
  have c0 : V.cell? ⟨X, 0, none⟩ = some a := r.cell (i := 0) (by omega)
  have c1 : V.cell? ⟨X, 1, none⟩ = some b := r.cell (i := 1) (by omega)
  have c2 : V.cell? ⟨X, 2, none⟩ = some c := r.cell (i := 2) (by omega)
  unfold results
  rw [show Tryz.f29.results = #[.cell 2 43] from rfl]
  simp [go_sem, h2, c0, c1, c2]
theorem Tryz.info4 : (Tryz.prog.info? 4).map (fun i => (i.zero, i.size, i.bytes)) = some (some (.bool false), 1, 1) := by kernel_rfl

end Go.Proofs.YtmcbmcjbgjnbhaaGreatDoor

namespace Go.Proofs.YtmcbmcjbgjnbhaaGreatDoor
open Go.RowKit Go.Maps

/-- The first ones of a kind. -/
def fsX (kd : Int) : List (DC × DPl) → List Bool → List (DC × DPl)
  | x :: l, f :: fs => if x.1.kind == kd && f then x :: fsX kd l fs else fsX kd l fs
  | _, _ => []
theorem fsX_names : ∀ (xs : List (DC × DPl)) (fl : List Bool), (fsX 1 xs fl).map (fun x => x.1.nm) = fstI (xs.map Prod.fst) fl
  | [], fl => by cases fl <;> rfl
  | x :: l, [] => rfl
  | x :: l, f :: fs => by
    rw [fsX, List.map_cons, fstI]
    split
    · rw [List.map_cons, fsX_names l fs]
    · exact fsX_names l fs
theorem fsX_sub (kd : Int) : ∀ (xs : List (DC × DPl)) (fl : List Bool) (x : DC × DPl), x ∈ fsX kd xs fl → x ∈ xs
  | [], fl, x, h => by cases fl <;> cases h
  | y :: l, [], x, h => by cases h
  | y :: l, f :: fs, x, h => by
    rw [fsX] at h
    split at h
    · rcases List.mem_cons.1 h with z | z
      · rw [z]; exact List.mem_cons_self ..
      · exact List.mem_cons_of_mem _ (fsX_sub kd l fs x z)
    · exact List.mem_cons_of_mem _ (fsX_sub kd l fs x h)
theorem fsX_len (kd : Int) : ∀ (xs : List (DC × DPl)) (fl : List Bool), (fsX kd xs fl).length ≤ xs.length
  | [], fl => by cases fl <;> exact Nat.zero_le _
  | y :: l, [] => Nat.zero_le _
  | y :: l, f :: fs => by
    rw [fsX]
    have := fsX_len kd l fs
    split
    · rw [List.length_cons, List.length_cons]; omega
    · rw [List.length_cons]; omega

/-- The state of firsts' loop. -/
structure FsL (w wr : World) (dv fv r v : Value) (kd : Int) (xs ys : List (DC × DPl)) (fl : List Bool) (k : Nat) : Prop where
  below : Below w.heap.size w wr
  box : wr.rowIs w.heap.size 43 3 (v3 dv fv r)
  own : wr.ownsRow (w.heap.size + 1) 67 4 v ys.length (dcsC ys)
  is : ys ++ fsX kd (xs.drop k) (fl.drop k) = fsX kd xs fl
  len : ys.length ≤ k

theorem FsL.skip {w wr : World} {dv fv r v : Value} {kd : Int} {xs ys : List (DC × DPl)} {fl : List Bool} {k : Nat} {x : DC × DPl} {f : Bool} {o : Obj} (h : FsL w wr dv fv r v kd xs ys fl k) (hx : xs[k]? = some x) (hf : fl[k]? = some f) (hn : (x.1.kind == kd && f) = false) : FsL w (wr.alloc o) dv fv r v kd xs ys fl (k + 1) := by
  refine ⟨h.below.alloc h.below.size _, h.box.alloc _, h.own.alloc _, ?_, by have := h.len; omega⟩
  obtain ⟨h1, e1⟩ := List.getElem?_eq_some_iff.1 hx
  obtain ⟨h2, e2⟩ := List.getElem?_eq_some_iff.1 hf
  have hi := h.is
  rw [List.drop_eq_getElem_cons h1, List.drop_eq_getElem_cons h2, e1, e2, fsX, hn] at hi
  exact hi
theorem FsL.take {w wr w3 : World} {dv fv r v : Value} {kd : Int} {xs ys : List (DC × DPl)} {fl : List Bool} {k gg cap3 : Nat} {x : DC × DPl} {f : Bool} {o o2 : Obj} (h : FsL w wr dv fv r v kd xs ys fl k) (hx : xs[k]? = some x) (hf : fl[k]? = some f) (hn : (x.1.kind == kd && f) = true)
    (hown : w3.ownsRow (w.heap.size + 1) 67 4 (.slice (some ⟨gg, 0, none⟩) (ys.length + 1) cap3) (ys.length + 1) (dcsC ys ++ dcC x)) (hg : ((wr.alloc o).alloc o2).grownBy w3 v.ownBlock) : FsL w w3 dv fv r (.slice (some ⟨gg, 0, none⟩) (ys.length + 1) cap3) kd xs (ys ++ [x]) fl (k + 1) := by
  have hs := h.below.size
  have hb : ∀ b, b ≤ w.heap.size → w3.heap[b]? = wr.heap[b]? := fun b hb => by
    have hw := h.box.lt
    rw [hg.block b (by simp only [World.size_alloc]; omega) (fun e => by have := (h.own.lt b e.symm).1; omega), Below.heap_alloc _ _ _ (by simp only [World.size_alloc]; omega), Below.heap_alloc _ _ _ (by omega)]
  refine ⟨⟨hg.os.trans h.below.os, hg.tape.trans h.below.tape, hg.output.trans h.below.output, by have := hg.size; simp only [World.size_alloc] at this; omega, fun b hb1 => (hb b (by omega)).trans (h.below.block b hb1)⟩, h.box.of_block (hb _ (Nat.le_refl _)), ?_, ?_, by have := h.len; rw [List.length_append]; simp; omega⟩
  · rw [dcsC_snoc, List.length_append]; exact hown
  · obtain ⟨h1, e1⟩ := List.getElem?_eq_some_iff.1 hx
    obtain ⟨h2, e2⟩ := List.getElem?_eq_some_iff.1 hf
    have hi := h.is
    rw [List.drop_eq_getElem_cons h1, List.drop_eq_getElem_cons h2, e1, e2, fsX, hn] at hi
    rw [List.append_assoc]
    exact hi
theorem FsL.ends {w wr : World} {dv fv r v : Value} {kd : Int} {xs ys : List (DC × DPl)} {fl : List Bool} {k : Nat} (h : FsL w wr dv fv r v kd xs ys fl k) (hk : xs.length ≤ k) : ys = fsX kd xs fl := by
  have hi := h.is
  rw [List.drop_of_length_le hk, fsX, List.append_nil] at hi
  · exact hi
  · intro x l f fs e; cases e

theorem bl_len (f : Bool) : ([Value.bool f]).length = 1 := rfl
theorem map_bools : ∀ fl : List Bool, fl.map Value.bool = fl.flatMap (fun f => [Value.bool f])
  | [] => rfl
  | a :: l => by rw [List.map_cons, List.flatMap_cons, map_bools l]; rfl
/-- A flag in memory. -/
theorem fl_cell {B n : Nat} {w : World} {a : Option Addr} {c : Nat} {fl : List Bool} (h : w.ownsRow B 4 1 (.slice a n c) n (fl.map Value.bool)) (hn : n = fl.length) {k : Nat} (hk : k < n) : ∃ g f, a = some ⟨g, 0, none⟩ ∧ g < w.heap.size ∧ fl[k]? = some f ∧ w.cell? ⟨g, k, none⟩ = some (.bool f) := by
  subst hn
  obtain ⟨g, gc, ev, _, hlt, _⟩ := own_blk h (show 0 < fl.length by omega)
  simp only [Value.slice.injEq] at ev
  obtain ⟨rfl, -, rfl⟩ := ev
  refine ⟨g, fl[k], rfl, hlt, List.getElem?_eq_getElem hk, ?_⟩
  rw [map_bools] at h
  have := own_at (f := fun f : Bool => [Value.bool f]) bl_len h (j := k) (r := 0) (u := .bool fl[k]) rfl hk (by omega) rfl
  rw [Nat.mul_one, Nat.add_zero] at this
  exact this

/-- What firsts gives. -/
def FsR (w : World) (ys : List (DC × DPl)) (e : Ending) (w' : World) : Prop := Below w.heap.size w w' ∧ ∃ v, e = .returned v ∧ w'.ownsRow w.heap.size 67 4 v ys.length (dcsC ys)

end Go.Proofs.YtmcbmcjbgjnbhaaGreatDoor

