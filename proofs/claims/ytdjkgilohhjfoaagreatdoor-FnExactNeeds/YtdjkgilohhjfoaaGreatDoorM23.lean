/-
  Merged for the claim: PgZ SrcTo SrcSpec RaA RbA RbB.
-/
import Derived.Test.YtdjkgilohhjfoaaGreatDoorPgY
import Derived.Test.YtdjkgilohhjfoaaGreatDoorPfE
import Derived.Test.YtdjkgilohhjfoaaGreatDoorM22
import Derived.Test.YtdjkgilohhjfoaaGreatDoorM15
import Derived.Test.YtdjkgilohhjfoaaGreatDoorM02
import Derived.Deep.LoopGhost
import Derived.Deep.OwnRows
import Derived.Deep.RegionWith
import Derived.Test.YtdjkgilohhjfoaaGreatDoorM01
import Derived.Test.YtdjkgilohhjfoaaGreatDoorPgL
namespace Go.Proofs.YtdjkgilohhjfoaaGreatDoor
open Go.RowKit

/-- What the model's ParseModule gives. -/
def SModR (w : World) (ds : List DC) (e : Ending) (w' : World) : Prop := Below w.heap.size w w' ∧ ∃ v xs, e = .returned (.agg #[v]) ∧ RD w.heap.size w' v xs ∧ xs.map Prod.fst = ds

theorem isT_semi {ts : List TK} {i : Nat} (hi : i < ts.length) : isT ts i sSemi = ((tkA ts i).txt.toList == [59]) := by
  unfold isT
  rw [List.getElem?_eq_getElem hi, tkA_get hi, ByteArray.toList_eq]
  rfl

theorem ret_md {f : Func} {k : Nat} (hf : f.results = #[.cell k 72]) {V : World} {X : Nat} {a : Value} (c0 : V.cell? ⟨X, 0, none⟩ = some a) (tmps : Array Value) (h : tmps[k]?.getD undef = .pointer (some ⟨X, 0, none⟩)) :
    (results f tmps).run Tryz.prog V = .ok (.agg #[a]) V := by
  unfold results
  rw [hf]
  simp [go_sem, h, c0]
theorem below_set1 {w w1 : World} (h : Below w.heap.size w w1) (a : Value) : Below w.heap.size w (w1.setCell ⟨w.heap.size, 0, none⟩ a) :=
  ⟨h.os, h.tape, h.output, by rw [World.size_setCell]; exact h.size, fun k hk => by
    rw [Below.heap_setCell _ _ _ _ (by show k ≠ w.heap.size; omega)]
    exact h.block k hk⟩
theorem RD.kp {t : TypeId} {B : Nat} {w w' : World} {v : Value} {xs : List (DC × DPl)} (h : RD B w v xs) (hk : Kp t w w') (h3 : 58 ≠ t) (h0 : 123 ≠ t) (h1 : 120 ≠ t) (h2 : 9 ≠ t) : RD B w' v xs := ⟨own_kp h.own hk h3, fun x hx => (h.ok x hx).kp hk h0 h1 h2⟩
theorem RD.mono {B B' : Nat} {w : World} {v : Value} {xs : List (DC × DPl)} (h : RD B w v xs) (hb : B' ≤ B) : RD B' w v xs := ⟨own_mono h.own hb, fun x hx => (h.ok x hx).mono hb⟩

/-- The state of the loop. -/
structure QLoop (w3 : World) (ts : List TK) (p k : Nat) (v : Value) (xs : List (DC × DPl)) (wr : World) : Prop where
  below : Below w3.heap.size w3 wr
  own : RD w3.heap.size wr v xs
  le : p ≤ k ∧ k ≤ ts.length
  no : ∀ j, p ≤ j → j < k → isT ts j sSemi = false
  is : xs.map Prod.fst ++ decs false ((ts.drop p).length + 1) (ts.drop p) = decs false (ts.length + 1) ts
  few : xs.length ≤ p

theorem QLoop.semi {w3 : World} {ts : List TK} {p k : Nat} {v : Value} {xs : List (DC × DPl)} {wr : World} (h : QLoop w3 ts p k v xs wr) (hk : k < ts.length) (hs : isT ts k sSemi = true) : decs false ((ts.drop p).length + 1) (ts.drop p) = declP false ((ts.drop p).take (k - p)) :: decs false ((ts.drop (k + 1)).length + 1) (ts.drop (k + 1)) := by
  have hl := h.le
  have hd : (ts.drop p).length = ts.length - p := List.length_drop
  have e : Go.Proofs.YtdjkgilohhjfoaaGreatDoor.semi (ts.drop p) = some (k - p) := semi_some (by omega) (by
    rw [tkA_drop (by omega), show p + (k - p) = k by omega, ← isT_semi hk]; exact hs) (fun j hj => by
    rw [tkA_drop (by omega), ← isT_semi (by omega)]; exact h.no _ (by omega) (by omega))
  rw [decs_some (by omega) e, List.drop_drop, show p + (k - p + 1) = k + 1 by omega]
theorem QLoop.rest {w3 : World} {ts : List TK} {p : Nat} {v : Value} {xs : List (DC × DPl)} {wr : World} (h : QLoop w3 ts p ts.length v xs wr) : decs false ((ts.drop p).length + 1) (ts.drop p) = if p < ts.length then [dBad] else [] := by
  have hd : (ts.drop p).length = ts.length - p := List.length_drop
  by_cases hp : p < ts.length
  · rw [if_pos hp]
    refine decs_none (fun e => by rw [e] at hd; simp at hd; omega) (semi_none fun j hj => ?_)
    rw [tkA_drop hj, ← isT_semi (by omega)]
    exact h.no _ (by omega) (by omega)
  · rw [if_neg hp]
    have : ts.drop p = [] := List.length_eq_zero_iff.1 (by omega)
    rw [this, decs_nil]

set_option maxRecDepth 100000 in
set_option maxHeartbeats 4000000 in
theorem s_parse (s : ByteArray) (w : World) (hs : s.size ≤ 9223372036854775807) :
    Calls Tryz.prog 44 #[.string s] w (SModR w (decs false ((toks s).length + 1) (toks s))) := by
  obtain ⟨i0, hi0, hz0, hz1, hz2⟩ := info_parts Tryz.infoDC
  obtain ⟨W1, hW1⟩ : ∃ W1, W1 = w.alloc (.cells #[.slice none 0 0] 72) := ⟨_, rfl⟩
  have HB1 : Hid (Below w.heap.size w W1) := by rw [hW1]; exact bel1 _ _
  have RX : W1.rowIs w.heap.size 72 1 (fun _ => .slice none 0 0) := by rw [hW1]; exact row1 _ _ _
  have HX : Hid (W1.rowIs w.heap.size 72 1 (fun _ => .slice none 0 0)) := RX
  have C5 : Hid (Calls Tryz.prog 52 #[.string s] W1 fun e w' => ∃ v, e = .returned v ∧ Own W1 w' v (toks s)) := c5 s W1 hs
  clear RX
  go_enter Tryz.func44, Tryz.ntmps44
  go_wp2_with fail
  rw [← hW1]
  clear hW1
  refine C5.out.mono ?_
  rintro e w3 ⟨v0, rfl, hO⟩
  have hl := toks_len s
  obtain ⟨ao, c, rfl⟩ := own_form hO.own
  obtain ⟨tb, hms⟩ : ∃ tb, MS w3 tb 0 ao (toks s) := by
    by_cases hp : 0 < (toks s).length
    · obtain ⟨g, c', e, _⟩ := own_blk hO.own hp
      cases e
      exact ⟨g, TkAt.of_own hO, fun _ => rfl⟩
    · exact ⟨0, ⟨fun j hj => absurd hj (by omega), fun j hj => absurd hj (by omega), fun j hj => absurd hj (by omega), by omega, fun j hj => absurd hj (by omega), fun j hj => absurd hj (by omega)⟩, fun z => absurd z hp⟩
  obtain ⟨ts, hts⟩ : ∃ ts, ts = toks s := ⟨_, rfl⟩
  rw [← hts] at hO hl hms ⊢
  have HOK : Hid (TkOK ts) := by rw [hts]; exact toks_ok s
  have HTS : Hid (toks s = ts) := hts.symm
  clear hts
  have hb := hO.below
  have HB3 : Hid (Below w.heap.size w w3) := HB1.out.trans (hb.mono HB1.out.size)
  have HX3 : Hid (w3.rowIs w.heap.size 72 1 (fun _ => .slice none 0 0)) := HX.out.of_block (hb.block _ HX.out.lt)
  have hcap : ts.length ≤ c ∧ c ≤ 9223372036854775807 := by
    rcases hO.own.2 with ⟨e, z⟩ | ⟨g, cap, cur, e, _, _, h5, h6, _⟩
    · simp only [Value.slice.injEq] at e; omega
    · simp only [Value.slice.injEq] at e; unfold maxLen at h6; omega
  have HMW : Hid (∀ W, Below w3.heap.size w3 W → MS W tb 0 ao ts) := fun W hb => hms.below hb
  have ST : Hid (QLoop w3 ts 0 0 (.slice (some ⟨w3.heap.size, 0, none⟩) 0 0) [] (w3.alloc (.cells #[] 58))) :=
    ⟨bel1 _ _, ⟨World.ownsRow_lit (e := 58) (size := 4) w3 #[] 0 (Nat.le_refl _) (by unfold maxLen; omega) (by rfl), fun x hx => by cases hx⟩, ⟨Nat.le_refl _, Nat.zero_le _⟩, fun j _ hj => absurd hj (Nat.not_lt_zero _), by simp, Nat.le_refl _⟩
  have hl3 := HX3.out.lt
  clear hO hb hms HX HB1 C5
  go_wp2
  go_loopw [4, 5, 6] (fun v f i wr => ∃ (k p : Nat) (xs : List (DC × DPl)), i = .int .i64 (k : Int) ∧ f = .int .i64 (p : Int) ∧ Hid (QLoop w3 ts p k v xs wr)) (fun _ _ i _ => ts.length - (intOf i).toNat)
  case atStart => exact ⟨0, 0, [], rfl, rfl, ST⟩
  case round =>
    clear ST
    obtain ⟨k, p, xs, rfl, rfl, HQ⟩ := hrel
    obtain ⟨va, vc, hv⟩ := own_form HQ.out.own.own
    subst hv
    have hle := HQ.out.le
    have hfew := HQ.out.few
    have hws := HQ.out.below.size
    have HM : Hid (MS wr tb 0 ao ts) := HMW.out wr HQ.out.below
    by_cases hlt : k < ts.length
    case pos =>
      cases hsm : isT ts k sSemi
      case false =>
        go_wp2_with fail
        refine (m_isb HM.out (i := k) rfl (l := sSemi) hsm rfl (by decide)).mono ?_
        rintro e w' ⟨rfl, rfl⟩
        have HN : Hid (QLoop w3 ts p (k + 1) (.slice va xs.length vc) xs wr) := ⟨HQ.out.below, HQ.out.own, by omega, fun j h1 h2 => by
          by_cases e : j = k
          · rw [e]; exact hsm
          · exact HQ.out.no j h1 (by omega), HQ.out.is, HQ.out.few⟩
        clear hsm
        go_wp2
        exact ⟨⟨k + 1, p, xs, by go_num, rfl, HN⟩, by simp [intOf]; omega⟩
      case true =>
        go_wp2_with fail
        refine (m_isb HM.out (i := k) rfl (l := sSemi) hsm rfl (by decide)).mono ?_
        rintro e w' ⟨rfl, rfl⟩
        have gp : ¬ (p : Int) < 0 := by omega
        have gk : (k : Int) ≤ (c : Int) := by omega
        have gpk : (p : Int) ≤ (k : Int) := by omega
        have eao := HM.out.at_ (by omega)
        subst eao
        have C : Hid (Calls Tryz.prog 54 #[.slice (some ⟨tb, p * 3, none⟩) (k - p) (c - p)] wr fun e w' => ∃ (q : DPl) (dk : Int) (dn : ByteArray) (ta : Option Addr) (tn tc : Nat) (ea : Option Addr) (en ec : Nat), e = .returned (.agg #[.int .i64 dk, .string dn, .slice ta tn tc, .slice ea en ec]) ∧ Hid (dcC (declP false ((ts.drop p).take (k - p)), q) = [.int .i64 dk, .string dn, .slice ta tn tc, .slice ea en ec]) ∧ Hid (RdOK wr.heap.size w' (declP false ((ts.drop p).take (k - p))) q) ∧ Hid (Below wr.heap.size wr w')) := by
          have hl' : ((ts.drop p).take (k - p)).length = k - p := by rw [List.length_take, List.length_drop]; omega
          have ms : MS wr tb (p * 3) (some ⟨tb, p * 3, none⟩) ((ts.drop p).take (k - p)) := ⟨by have := (HM.out.tk.drop p).take (k - p); rw [Nat.zero_add] at this; exact this, fun _ => rfl⟩
          have := m_decl (c := c - p) ((HOK.out.drop p).take (k - p)) wr ms
          rw [hl'] at this
          refine this.mono ?_
          rintro e w' ⟨hb, q, rfl, hok⟩
          obtain ⟨ta, tc, e1⟩ := own_form hok.ty.own
          obtain ⟨ea, ec, e2⟩ := own_form hok.ex.own
          refine ⟨q, _, _, ta, _, tc, ea, _, ec, by unfold dV; rw [e1, e2], by show dcC _ = _; unfold dcC; rw [e1, e2], hok, hb⟩
        have HSE := HQ.out.semi hlt hsm
        have HSM : Hid (decs false ((ts.drop p).length + 1) (ts.drop p) = declP false ((ts.drop p).take (k - p)) :: decs false ((ts.drop (k + 1)).length + 1) (ts.drop (k + 1))) := HSE
        clear hsm HSE
        go_wp2_with (first | (go_at_call 54; refine C.out.mono ?_; rintro e w2 ⟨q, dk, dn, ta, tn, tc, ea, en, ec, rfl, HC, HK, HB2⟩; have HO2 : Hid (RD w3.heap.size w2 (.slice va xs.length vc) xs) := HQ.out.own.below HB2.out; have hw2 := HB2.out.size) | (at_builtin; refine wpList_append_lies _ rfl _ _ 49 rfl w3.heap.size 58 i0 _ 4 72 Tryz.underlying49 hi0 hz0 hz1 hz2 rfl (by omega) (.slice va xs.length vc) xs.length (dcsC xs) rfl (HO2.out.own.alloc _) ⟨w2.heap.size, 0, none⟩ 1 1 [.int .i64 dk, .string dn, .slice ta tn tc, .slice ea en ec] rfl rfl (World.news_of_block (cs := #[.int .i64 dk, .string dn, .slice ta tn tc, .slice ea en ec]) (t := 58) (fr := (0, 0)) (heap_alloc_new w2 _)) (by simp [Value.oneCell']) (by omega) (by unfold maxLen; omega) (by omega) (by simp; omega) (w2.heap.size + 1) (by simp) ?_; intro gg cap3 w5 hown3 hg3 hat3 hlt3))
        have B2 : Below w3.heap.size w3 w2 := HQ.out.below.trans (HB2.out.mono hws)
        have NX := HO2.out.push (x := (declP false ((ts.drop p).take (k - p)), q)) (by rw [HC.out]; exact hown3) hg3 (HK.out.mono hws)
        refine ⟨⟨k + 1, k + 1, xs ++ [(declP false ((ts.drop p).take (k - p)), q)], by go_num, by go_num, ?_⟩, by simp [intOf]; omega⟩
        exact ⟨below_grown B2 hg3 (fun b e => (HO2.out.own.lt b e).1), NX, by omega, fun j h1 h2 => by omega, by rw [← HQ.out.is, HSM.out, List.map_append, List.append_assoc]; rfl, by rw [List.length_append]; simp; omega⟩
    have hkn : k = ts.length := by omega
    subst hkn
    have HR := HQ.out.rest
    have HRS : Hid (decs false ((ts.drop p).length + 1) (ts.drop p) = if p < ts.length then [dBad] else []) := HR
    have HBW : Hid (Below w.heap.size w wr) := HB3.out.trans (HQ.out.below.mono HB3.out.size)
    have HXW : Hid (wr.rowIs w.heap.size 72 1 (fun _ => .slice none 0 0)) := HX3.out.of_block (HQ.out.below.block _ HX3.out.lt)
    clear HR
    by_cases hp : p < ts.length
    case pos =>
      have HIS : Hid (xs.map Prod.fst ++ [dBad] = decs false (ts.length + 1) ts) := by
        have := HQ.out.is
        rw [HRS.out, if_pos hp] at this
        exact this
      have hxl := HXW.out.lt
      go_wp2_with (first | (at_builtin; refine wpList_append_lies _ rfl _ _ 49 rfl w3.heap.size 58 i0 _ 4 72 Tryz.underlying49 hi0 hz0 hz1 hz2 rfl (by omega) (.slice va xs.length vc) xs.length (dcsC xs) rfl (HQ.out.own.own.alloc _) ⟨wr.heap.size, 0, none⟩ 1 1 [.int .i64 0, .string ⟨#[]⟩, .slice none 0 0, .slice none 0 0] rfl rfl (World.news_of_block (cs := #[.int .i64 0, .string ⟨#[]⟩, .slice none 0 0, .slice none 0 0]) (t := 58) (fr := (0, 0)) (heap_alloc_new wr _)) (by simp [Value.oneCell']) (by omega) (by unfold maxLen; omega) (by omega) (by simp; omega) (wr.heap.size + 1) (by simp) ?_; intro gg cap3 w5 hown3 hg3 hat3 hlt3; have x3 : w5.rowIs w.heap.size 72 1 (fun _ => .slice none 0 0) := (HXW.out.alloc _).of_block (hg3.block _ (by simp; omega) (fun e => by have := (HQ.out.own.own.lt _ e.symm).1; omega)); have c4 := x3.cell (i := 0) (by omega); have z4 := x3.frozen 0))
      have NX := HQ.out.own.push (x := (dBad, dp0)) hown3 hg3 (dc_bare _ _ _ _).rd
      have B5 := below_grown HBW.out hg3 (fun b e => by have := (HQ.out.own.own.lt b e).1; omega)
      have RX := x3.set 0 (.slice (some ⟨gg, 0, none⟩) (xs.length + 1) cap3)
      refine bodyPost_ret (ret_md (k := 2) rfl (RX.cell (i := 0) (by omega)) _ rfl) rfl ?_
      refine ⟨below_set1 B5 _, _, xs ++ [(dBad, dp0)], rfl, ?_, by rw [List.map_append, HTS.out, ← HIS.out]; rfl⟩
      exact (RD.kp NX (kp_set x3 0 _) (by decide) (by decide) (by decide) (by decide)).mono (by omega)
    case neg =>
      have HIS : Hid (xs.map Prod.fst = decs false (ts.length + 1) ts) := by
        have := HQ.out.is
        rw [HRS.out, if_neg hp, List.append_nil] at this
        exact this
      have c4 := HXW.out.cell (i := 0) (by omega)
      have z4 := HXW.out.frozen 0
      go_wp2
      have RX := HXW.out.set 0 (.slice va xs.length vc)
      refine bodyPost_ret (ret_md (k := 2) rfl (RX.cell (i := 0) (by omega)) _ rfl) rfl ?_
      refine ⟨below_set1 HBW.out _, _, xs, rfl, ?_, by rw [HTS.out]; exact HIS.out⟩
      exact (RD.kp HQ.out.own (kp_set HXW.out 0 _) (by decide) (by decide) (by decide) (by decide)).mono (by omega)

end Go.Proofs.YtdjkgilohhjfoaaGreatDoor

namespace Go.Proofs.YtdjkgilohhjfoaaGreatDoor
open Go.RowKit

theorem Tryz.info45 : (Tryz.prog.info? 45).map (fun i => (i.zero, i.size, i.bytes)) = some (some (.agg #[.string ByteArray.empty, .string ByteArray.empty]), 2, 32) := by kernel_rfl

set_option maxHeartbeats 1000000 in
theorem sc11 (s t : ByteArray) (w : World) :
    Calls Tryz.prog 19 #[.agg #[.string s, .string t]] w fun e w' => e = .returned (.agg #[.string s, .string t]) ∧ Below w.heap.size w w' := by
  go_enter Tryz.func19, Tryz.ntmps19
  go_wp2
  refine bodyPost_ret (v := .agg #[.string s, .string t]) (by simp [results, Tryz.results19, go_sem]) rfl ⟨rfl, ?_⟩
  repeat' (first | exact sbel3 _ _ _ _ | refine Below.setCell ?_ ?_ _)
  all_goals (simp; try omega)

theorem make2 (n : Nat) (hn : n ≤ 1048576) (w : World) :
    (Instr.makeSlice 29 (.int .i64 (n : Int)) (.int .i64 (n : Int))).run Tryz.prog w = .ok (.slice (some ⟨w.heap.size, 0, none⟩) n n) (w.alloc (.cells (madeCells #[.string ByteArray.empty, .string ByteArray.empty] (n * 2)) 45)) := by
  obtain ⟨i, hi, hzz⟩ := Option.map_eq_some_iff.1 Tryz.info45
  simp only [Prod.mk.injEq] at hzz
  obtain ⟨hz, hs, hb⟩ := hzz
  have hr := run_make (P := Tryz.prog) w 29 45 i _ Tryz.underlying29 hi hz .i64 .i64 n n (by omega) (Int.le_refl _) (by rw [hb]; omega) (by omega)
  rw [Int.toNat_natCast, hs] at hr
  exact hr

/-- The row of new sources, its first k filled. -/
structure Fill2 (w wr : World) (n k : Nat) (S T : Nat → ByteArray) : Prop where
  below : Below w.heap.size w wr
  row : ∃ f, wr.rowIs w.heap.size 45 (n * 2) f ∧ ∀ i, i < k → f (i * 2) = .string (S i) ∧ f (i * 2 + 1) = .string (T i)

theorem fill2_start (w : World) (n : Nat) (S T : Nat → ByteArray) : Fill2 w (w.alloc (.cells (madeCells #[.string ByteArray.empty, .string ByteArray.empty] (n * 2)) 45)) n 0 S T := by
  refine ⟨sbel1 w _, ?_⟩
  have h := World.rowIs_alloc w (madeCells #[.string ByteArray.empty, .string ByteArray.empty] (n * 2)) 45 (fun i => (madeCells #[.string ByteArray.empty, .string ByteArray.empty] (n * 2))[i]!) (fun i hi => by simp [hi])
  rw [size_madeCells] at h
  exact ⟨_, h, fun i hi => absurd hi (Nat.not_lt_zero _)⟩

theorem fill2_step {w wr w' : World} {n k : Nat} {S T : Nat → ByteArray} (h : Fill2 w wr n k S T) (hb : Below wr.heap.size wr w') :
    Fill2 w ((w'.setCell ⟨w.heap.size, k * 2, none⟩ (.string (S k))).setCell ⟨w.heap.size, k * 2 + 1, none⟩ (.string (T k))) n (k + 1) S T := by
  obtain ⟨f, hf, hv⟩ := h.row
  have hlt := hf.lt
  refine ⟨(((h.below.trans (hb.mono h.below.size)).setCell (Nat.le_refl _) _).setCell (Nat.le_refl _) _), ⟨_, ((hf.of_block (hb.block _ hlt)).set (k * 2) _).set (k * 2 + 1) _, fun i hi => ?_⟩⟩
  by_cases e : i = k
  · subst e
    refine ⟨?_, ?_⟩
    · show (if i * 2 = i * 2 + 1 then _ else if i * 2 = i * 2 then _ else _) = _
      rw [if_neg (by omega), if_pos rfl]
    · show (if i * 2 + 1 = i * 2 + 1 then _ else _) = _
      rw [if_pos rfl]
  · obtain ⟨r0, r1⟩ := hv i (by omega)
    refine ⟨?_, ?_⟩
    · show (if i * 2 = k * 2 + 1 then _ else if i * 2 = k * 2 then _ else f (i * 2)) = _
      rw [if_neg (by omega), if_neg (by omega), r0]
    · show (if i * 2 + 1 = k * 2 + 1 then _ else if i * 2 + 1 = k * 2 then _ else f (i * 2 + 1)) = _
      rw [if_neg (by omega), if_neg (by omega), r1]

set_option maxHeartbeats 1000000 in
theorem sc6 (ao : Option Addr) (b o n c : Nat) (S T : Nat → ByteArray) (w : World) (h1 : SrcsAt w ao b o n S T) (hn : n ≤ 1048576) :
    Calls Tryz.prog 7 #[.slice ao n c] w fun e w' => e = .returned (.slice (some ⟨w.heap.size, 0, none⟩) n n) ∧ SrcsAt w' (some ⟨w.heap.size, 0, none⟩) w.heap.size 0 n S T ∧ Below w.heap.size w w' ∧ w.heap.size < w'.heap.size ∧ ∃ f, w'.rowIs w.heap.size 45 (n * 2) f := by
  have hmk := make2 n hn
  have HB : Hid (∀ w', Below w.heap.size w w' → SrcsAt w' ao b o n S T) := fun w' hb => h1.below hb
  have A1 := h1.at_
  have HZ : Hid ((∀ i, i < n → (S i).size ≤ 9223372036854775807) ∧ (∀ i, i < n → (T i).size ≤ 9223372036854775807)) := ⟨h1.sizeS, h1.sizeT⟩
  clear h1
  go_enter Tryz.func7, Tryz.ntmps7
  go_wp2
  clear hmk
  go_loopw [4] (fun i wr => ∃ k : Nat, k ≤ n ∧ i = .int .i64 k ∧ Fill2 w wr n k S T) (fun i _ => n - (intOf i).toNat)
  case atStart => exact ⟨0, Nat.zero_le _, rfl, fill2_start _ _ _ _⟩
  case round =>
    obtain ⟨k, hk, rfl, hF⟩ := hrel
    by_cases hlt : k < n
    · have e1 := A1 (by omega)
      have q1 := HB.out wr hF.below
      have g0 := q1.c0 k hlt
      have g1 := q1.c1 k hlt
      clear q1 HB
      subst e1
      go_wp2_with fail
      refine (sc11 (S k) (T k) _).mono ?_
      rintro e w' ⟨rfl, hb'⟩
      obtain ⟨f, hf, hv⟩ := hF.row
      have hr := hf.of_block (hb'.block _ hf.lt)
      have s0 := hr.cell (i := k * 2) (by omega)
      have s1 := hr.cell (i := k * 2 + 1) (by omega)
      have t0 := hr.frozen (k * 2)
      have t1 := hr.frozen (k * 2 + 1)
      have HN := fill2_step hF hb'
      clear hF hr hf hv hb'
      go_wp2
      go_roundw
      case rel => exact ⟨k + 1, by omega, by go_num, HN⟩
      case measure => simp [intOf]; omega
    · have hkn : k = n := by omega
      subst hkn
      have HE : Hid (SrcsAt wr (some ⟨w.heap.size, 0, none⟩) w.heap.size 0 k S T ∧ Below w.heap.size w wr ∧ w.heap.size < wr.heap.size ∧ ∃ f, wr.rowIs w.heap.size 45 (k * 2) f) := by
        obtain ⟨f, hf, hv⟩ := hF.row
        refine ⟨⟨fun _ => rfl, fun i hi => ?_, fun i hi => ?_, HZ.out.1, HZ.out.2, by omega⟩, hF.below, hf.lt, f, hf⟩
        · rw [Nat.zero_add, hf.cell (by omega), (hv i hi).1]
        · rw [Nat.zero_add, hf.cell (by omega), (hv i hi).2]
      clear hF HB A1
      go_wp2
      go_ret
      exact ⟨rfl, HE.out⟩

end Go.Proofs.YtdjkgilohhjfoaaGreatDoor

namespace Go.Proofs.YtdjkgilohhjfoaaGreatDoor
open Go.RowKit

set_option maxHeartbeats 4000000 in
theorem sc5 (ao : Option Addr) (b o n c : Nat) (S T : Nat → ByteArray) (w : World) (h1 : SrcsAt w ao b o n S T) :
    Calls Tryz.prog 16 #[.slice ao n c] w fun e w' => e = .returned (.bool (vsr n S T)) ∧ ∃ m, w' = w.drewN m := by
  have hlen := h1.len
  have A1 := h1.at_
  have HB : Hid (SrcsAt w ao b o n S T) := h1
  clear h1
  by_cases hbig : 8 < n
  · have HV : Hid (vsr n S T = false) := vsr_big hbig
    go_enter Tryz.func16, Tryz.ntmps16
    go_wp2
    go_ret
    exact ⟨ret_bool HV.out.symm, 0, rfl⟩
  go_enter Tryz.func16, Tryz.ntmps16
  go_wp2
  go_loopw [3] (fun i wr => ∃ k : Nat, k ≤ n ∧ i = .int .i64 k ∧ Hid (∀ j, j < k → sok S T j = true) ∧ ∃ m, wr = w.drewN m) (fun i _ => n - (intOf i).toNat)
  case atStart => exact ⟨0, Nat.zero_le _, rfl, fun j h => absurd h (Nat.not_lt_zero _), 0, rfl⟩
  case round =>
    obtain ⟨k, hk, rfl, HA, m, rfl⟩ := hrel
    by_cases hlt : k < n
    · have e1 := A1 (by omega)
      have g0 := HB.out.c0 k hlt
      have g1 := HB.out.c1 k hlt
      have z0 := HB.out.sizeS k hlt
      have z1 := HB.out.sizeT k hlt
      subst e1
      cases hg : gn (S k)
      · have HF : Hid (vsr n S T = false) := vsr_no k hlt (sok_name hg)
        go_wp2_with (go_at_call 29; refine (c32 _ _ z0).mono ?_; rintro e w' ⟨rfl, rfl⟩)
        go_ret
        exact ⟨ret_bool HF.out.symm, _, rfl⟩
      by_cases ht : 1000 < (T k).size
      · have HF : Hid (vsr n S T = false) := vsr_no k hlt (sok_text ht)
        go_wp2_with (go_at_call 29; refine (c32 _ _ z0).mono ?_; rintro e w' ⟨rfl, rfl⟩)
        go_ret
        exact ⟨ret_bool HF.out.symm, _, rfl⟩
      have HG : Hid (gn (S k) = true) := hg
      go_wp2_with (go_at_call 29; refine (c32 _ _ z0).mono ?_; rintro e w' ⟨rfl, rfl⟩)
      go_loopw [4] (fun i wr => ∃ q : Nat, q ≤ k ∧ i = .int .i64 q ∧ Hid (∀ j, j < q → (S k).toList ≠ (S j).toList) ∧ ∃ m, wr = w.drewN m) (fun i _ => k - (intOf i).toNat)
      case atStart => exact ⟨0, Nat.zero_le _, rfl, fun j h => absurd h (Nat.not_lt_zero _), m, rfl⟩
      case round =>
        obtain ⟨q, hq, rfl, HQ, m2, rfl⟩ := hrel
        by_cases hql : q < k
        · have f0 := HB.out.c0 q (by omega)
          by_cases hs : (S k).toList = (S q).toList
          · have HF : Hid (vsr n S T = false) := vsr_no k hlt (sok_twice q hql hs)
            have bs : ((S k).toList == (S q).toList) = true := by rw [hs]; simp
            clear hs
            go_wp2
            go_quiet (fail)
            go_wp2
            go_ret
            exact ⟨ret_bool HF.out.symm, _, by rw [World.drewN_drewN]⟩
          · have HS : Hid ((S k).toList ≠ (S q).toList) := hs
            have bs : ((S k).toList == (S q).toList) = false := by rw [beq_eq_false_iff_ne]; exact hs
            clear hs
            go_wp2
            go_quiet (fail)
            go_wp2
            go_roundw
            case rel => exact ⟨q + 1, by omega, by go_num, fun j hj => by
              by_cases e : j = q
              · subst e; exact HS.out
              · exact HQ.out j (by omega), _, rfl⟩
            case measure => simp [intOf]; omega
        · have HK : Hid (sok S T k = true) := sok_yes HG.out (by omega) (fun j hj => HQ.out j (by omega))
          go_wp2
          go_roundw
          case rel => exact ⟨k + 1, by omega, by go_num, fun j hj => by
            by_cases e : j = k
            · subst e; exact HK.out
            · exact HA.out j (by omega), _, rfl⟩
          case measure => simp [intOf]; omega
    · have HF : Hid (vsr n S T = true) := vsr_yes (by omega) (fun j hj => HA.out j (by omega))
      go_wp2
      go_ret
      exact ⟨ret_bool HF.out.symm, _, rfl⟩

end Go.Proofs.YtdjkgilohhjfoaaGreatDoor

namespace Go.Proofs.YtdjkgilohhjfoaaGreatDoor

theorem ba_ext {a b : ByteArray} (h : a.data.toList = b.data.toList) : a = b := by
  cases a; cases b
  simp only [ByteArray.mk.injEq]
  exact Array.toList_inj.1 h
theorem hasN_iff {l : List ByteArray} {s : ByteArray} : hasN l s = true ↔ s ∈ l := by
  unfold hasN
  rw [List.any_eq_true]
  constructor
  · rintro ⟨x, hx, he⟩
    rw [← ba_ext (beq_iff_eq.1 he)]
    exact hx
  · intro h
    exact ⟨s, h, beq_iff_eq.2 rfl⟩
/-- The names of a list, each once, behind those that are there. -/
def addN (out : List ByteArray) : List ByteArray → List ByteArray
  | [] => out
  | s :: l => if hasN out s then addN out l else addN (out ++ [s]) l
theorem addN_pre : ∀ (l out : List ByteArray), ∃ r, addN out l = out ++ r
  | [], out => ⟨[], by rw [List.append_nil]; rfl⟩
  | s :: l, out => by
    unfold addN
    split
    · exact addN_pre l out
    · obtain ⟨r, h⟩ := addN_pre l (out ++ [s])
      exact ⟨s :: r, by rw [h, List.append_assoc]; rfl⟩
theorem addN_mem : ∀ (l out : List ByteArray) (x : ByteArray), x ∈ addN out l ↔ x ∈ out ∨ x ∈ l
  | [], out, x => by simp [addN]
  | s :: l, out, x => by
    unfold addN
    split
    · rename_i h
      rw [addN_mem l out x, List.mem_cons]
      constructor
      · rintro (h1 | h1)
        · exact .inl h1
        · exact .inr (.inr h1)
      · rintro (h1 | rfl | h1)
        · exact .inl h1
        · exact .inl (hasN_iff.1 h)
        · exact .inr h1
    · rw [addN_mem l (out ++ [s]) x, List.mem_append, List.mem_singleton, List.mem_cons, or_assoc]
theorem addN_nodup : ∀ (l out : List ByteArray), out.Nodup → (addN out l).Nodup
  | [], _, h => h
  | s :: l, out, h => by
    unfold addN
    split
    · exact addN_nodup l out h
    · rename_i hn
      refine addN_nodup l _ ?_
      rw [List.nodup_append]
      refine ⟨h, by simp, fun a ha b hb e => ?_⟩
      rw [List.mem_singleton.1 hb] at e
      exact hn (hasN_iff.2 (e ▸ ha))
theorem addN_snoc (out l : List ByteArray) (s : ByteArray) : addN out (l ++ [s]) = if hasN (addN out l) s then addN out l else addN out l ++ [s] := by
  induction l generalizing out with
  | nil => rfl
  | cons a l ih =>
    show addN out (a :: (l ++ [s])) = _
    unfold addN
    split
    · exact ih out
    · exact ih (out ++ [a])
/-- All that is reached: the names are gone through one after the other. -/
def rch (I : ByteArray → List ByteArray) : Nat → Nat → List ByteArray → List ByteArray
  | 0, _, out => out
  | f + 1, i, out => if i < out.length then rch I f (i + 1) (addN out (I (out.getD i ByteArray.empty))) else out
theorem nodup_len : ∀ {l U : List ByteArray}, l.Nodup → (∀ x, x ∈ l → x ∈ U) → l.length ≤ U.length
  | [], _, _, _ => Nat.zero_le _
  | x :: l, U, hn, hs => by
    obtain ⟨U1, U2, rfl⟩ := List.append_of_mem (hs x (List.mem_cons_self ..))
    have h := nodup_len (l := l) (U := U1 ++ U2) (List.nodup_cons.1 hn).2 (fun y hy => by
      have h1 := hs y (List.mem_cons_of_mem _ hy)
      rw [List.mem_append, List.mem_cons] at h1
      rw [List.mem_append]
      rcases h1 with h1 | rfl | h1
      · exact .inl h1
      · exact absurd hy (List.nodup_cons.1 hn).1
      · exact .inr h1)
    rw [List.length_append] at h
    rw [List.length_cons, List.length_append, List.length_cons]
    omega
/-- Names that are met: each once, all of them out of U. -/
structure Met (U out : List ByteArray) : Prop where
  nd : out.Nodup
  sub : ∀ x, x ∈ out → x ∈ U
theorem Met.len {U out : List ByteArray} (h : Met U out) : out.length ≤ U.length := nodup_len h.nd h.sub
theorem Met.add {U out l : List ByteArray} (h : Met U out) (hl : ∀ x, x ∈ l → x ∈ U) : Met U (addN out l) :=
  ⟨addN_nodup l out h.nd, fun x hx => by
    rcases (addN_mem l out x).1 hx with z | z
    · exact h.sub x z
    · exact hl x z⟩
theorem Met.nil (U : List ByteArray) : Met U [] := ⟨List.nodup_nil, fun x hx => by cases hx⟩
theorem rch_step {I : ByteArray → List ByteArray} {f i : Nat} {out : List ByteArray} (h : i < out.length) : rch I (f + 1) i out = rch I f (i + 1) (addN out (I (out.getD i ByteArray.empty))) := by
  rw [rch, if_pos h]
theorem rch_end {I : ByteArray → List ByteArray} {f i : Nat} {out : List ByteArray} (h : ¬ i < out.length) : rch I f i out = out := by
  cases f with
  | zero => rfl
  | succ f => rw [rch, if_neg h]
theorem rch_met {I : ByteArray → List ByteArray} {U : List ByteArray} (hI : ∀ s x, x ∈ I s → x ∈ U) : ∀ (f i : Nat) (out : List ByteArray), Met U out → Met U (rch I f i out)
  | 0, _, _, h => h
  | f + 1, i, out, h => by
    unfold rch
    split
    · exact rch_met hI f (i + 1) _ (h.add (hI _))
    · exact h

end Go.Proofs.YtdjkgilohhjfoaaGreatDoor

namespace Go.Proofs.YtdjkgilohhjfoaaGreatDoor
open Go.RowKit

/-- The place of a source. -/
def srcI (S : Nat → ByteArray) (n : Nat) (s : ByteArray) : Option Nat := (List.range n).find? fun i => (S i).toList == s.toList
theorem srcI_no {S : Nat → ByteArray} {n : Nat} {s : ByteArray} (h : ∀ j, j < n → ((S j).toList == s.toList) = false) : srcI S n s = none := by
  unfold srcI
  rw [List.find?_eq_none]
  intro j hj
  rw [h j (List.mem_range.1 hj)]
  exact Bool.false_ne_true
theorem srcI_yes {S : Nat → ByteArray} {n k : Nat} {s : ByteArray} (hk : k < n) (h : ∀ j, j < k → ((S j).toList == s.toList) = false) (e : ((S k).toList == s.toList) = true) : srcI S n s = some k := by
  unfold srcI
  rw [List.find?_range_eq_some]
  exact ⟨e, List.mem_range.2 hk, fun j hj => by rw [h j hj]; rfl⟩
/-- The place, -1 if it is not there. -/
def plI : Option Nat → Int
  | none => -1
  | some k => k

set_option maxRecDepth 100000 in
set_option maxHeartbeats 1000000 in
/-- l3Source. -/
theorem m_source {ao : Option Addr} {b o n c : Nat} {S T : Nat → ByteArray} (w : World) (h1 : SrcsAt w ao b o n S T) (s : ByteArray) :
    Calls Tryz.prog 43 #[.slice ao n c, .string s] w fun e w' => e = .returned (.int .i64 (plI (srcI S n s))) ∧ ∃ m, w' = w.drewN m := by
  have hlen := h1.len
  have A1 := h1.at_
  have HB : Hid (SrcsAt w ao b o n S T) := h1
  clear h1
  obtain ⟨r, hr⟩ : ∃ r, r = plI (srcI S n s) := ⟨_, rfl⟩
  have HR : Hid (r = plI (srcI S n s)) := hr
  rw [← hr]
  clear hr
  go_enter Tryz.func43, Tryz.ntmps43
  go_wp2
  go_loopw [5] (fun i wr => ∃ k : Nat, k ≤ n ∧ i = .int .i64 k ∧ Hid (∀ j, j < k → ((S j).toList == s.toList) = false) ∧ ∃ m, wr = w.drewN m) (fun i _ => n - (intOf i).toNat)
  case atStart => exact ⟨0, Nat.zero_le _, rfl, fun j h => absurd h (Nat.not_lt_zero _), 0, rfl⟩
  case round =>
    obtain ⟨k, hk, rfl, HA, m, rfl⟩ := hrel
    by_cases hlt : k < n
    · have e1 := A1 (by omega)
      have g0 := HB.out.c0 k hlt
      subst e1
      cases r0 : ((S k).toList == s.toList)
      · have HS : Hid (((S k).toList == s.toList) = false) := r0
        go_wp2
        go_roundw
        case rel => exact ⟨k + 1, by omega, by go_num, fun j hj => by
          by_cases e : j = k
          · subst e; exact HS.out
          · exact HA.out j (by omega), _, rfl⟩
        case measure => simp [intOf]; omega
      · have HS : Hid (((S k).toList == s.toList) = true) := r0
        go_wp2
        go_ret
        refine ⟨?_, _, rfl⟩
        rw [HR.out, srcI_yes hlt HA.out HS.out]
        rfl
    · have hkn : k = n := by omega
      subst hkn
      go_wp2
      go_ret
      refine ⟨?_, _, rfl⟩
      rw [HR.out, srcI_no HA.out]
      rfl

end Go.Proofs.YtdjkgilohhjfoaaGreatDoor

namespace Go.Proofs.YtdjkgilohhjfoaaGreatDoor
open Go.RowKit

/-- The declarations of a module, none if it is not present. -/
def dsOf (S T : Nat → ByteArray) (n : Nat) (s : ByteArray) : List DC :=
  match srcI S n s with
  | none => []
  | some i => decs false ((toks (T i)).length + 1) (toks (T i))
theorem srcI_lt {S : Nat → ByteArray} {n i : Nat} {s : ByteArray} (h : srcI S n s = some i) : i < n := by
  unfold srcI at h
  exact List.mem_range.1 (List.mem_of_find?_eq_some h)

theorem md_decls (v : Value) (w : World) : Sem.run Tryz.prog (Instr.field 72 (.agg #[v]) 0) w = .ok v w := by
  kernel_rfl

set_option maxRecDepth 100000 in
set_option maxHeartbeats 1000000 in
/-- l3Decls. -/
theorem m_decls {ao : Option Addr} {b o n c : Nat} {S T : Nat → ByteArray} (w : World) (h1 : SrcsAt w ao b o n S T) (s : ByteArray) :
    Calls Tryz.prog 30 #[.slice ao n c, .string s] w fun e w' => Below w.heap.size w w' ∧ ∃ v xs, e = .returned v ∧ RD w.heap.size w' v xs ∧ xs.map Prod.fst = dsOf S T n s := by
  have hlen := h1.len
  have A1 := h1.at_
  have HB : Hid (SrcsAt w ao b o n S T) := h1
  have C1 : Hid (Calls Tryz.prog 43 #[.slice ao n c, .string s] w fun e w' => e = .returned (.int .i64 (plI (srcI S n s))) ∧ ∃ m, w' = w.drewN m) := m_source w h1 s
  clear h1
  obtain ⟨r, hr⟩ : ∃ r, r = srcI S n s := ⟨_, rfl⟩
  rw [← hr] at C1
  have HR : Hid (srcI S n s = r) := hr.symm
  clear hr
  cases r with
  | none =>
    go_enter Tryz.func30, Tryz.ntmps30
    go_wp2_with fail
    refine C1.out.mono ?_
    rintro e w' ⟨rfl, m, rfl⟩
    simp only [plI]
    go_wp2
    go_ret
    refine ⟨?_, _, [], rfl, ⟨World.ownsRow_lit (e := 58) (size := 4) (w.drewN m) #[] 0 (Nat.le_refl _) (by unfold maxLen; omega) (by rfl), fun x hx => by cases hx⟩, ?_⟩
    · exact (below_drewN' w m).trans (bel1 (w.drewN m) _)
    · unfold dsOf; rw [HR.out]; rfl
  | some i =>
    have hi : i < n := srcI_lt HR.out
    have e1 := A1 (by omega)
    have g1 := HB.out.c1 i hi
    have z1 := HB.out.sizeT i hi
    subst e1
    go_enter Tryz.func30, Tryz.ntmps30
    go_wp2_with fail
    refine C1.out.mono ?_
    rintro e w' ⟨rfl, m, rfl⟩
    simp only [plI]
    have hn : ¬ (i : Int) < 0 := by omega
    go_wp2_with fail
    refine (s_parse (T i) _ z1).mono ?_
    rintro e w2 ⟨hb, v, xs, rfl, hD, hx⟩
    obtain ⟨da, dc, rfl⟩ := own_form hD.own
    go_wp2
    rw [md_decls]
    go_wp2
    go_ret
    refine ⟨?_, _, xs, rfl, hD, ?_⟩
    · exact (below_drewN' w m).trans hb
    · unfold dsOf; rw [HR.out]; exact hx

end Go.Proofs.YtdjkgilohhjfoaaGreatDoor

