/-
  The program's ParseModule.
-/
import Derived.Test.YtdjkgilohhjfoaaGreatDoorM13
namespace Go.Proofs.YtdjkgilohhjfoaaGreatDoor
open Go.RowKit

theorem Tryz.infoDC : (Tryz.prog.info? 58).map (fun i => (i.zero, i.size, i.bytes)) = some (some (.agg #[.int .i64 0, .string ByteArray.empty, .slice none 0 0, .slice none 0 0]), 4, 72) := by kernel_rfl

/-- What ParseModule gives. -/
def ModR (w : World) (ds : List DC) (e : Ending) (w' : World) : Prop := Below w.heap.size w w' ∧ ∃ v xs, e = .returned (.agg #[v]) ∧ OD w.heap.size w' v xs ∧ xs.map Prod.fst = ds

/-- The state of the loop. -/
structure PLoop (w : World) (s : ByteArray) (us : List TK) (ao : Option Addr) (c : Nat) (v : Value) (xs : List (DC × DPl)) (wr : World) : Prop where
  below : Below w.heap.size w wr
  box : wr.rowIs w.heap.size 72 1 (fun _ => .slice none 0 0)
  mod : wr.rowIs (w.heap.size + 1) 72 1 (fun _ => v)
  own : OD (w.heap.size + 2) wr v xs
  tk : 0 < us.length → ∃ tb o, TkAt wr tb o us ∧ ao = some ⟨tb, o, none⟩ ∧ tb < wr.heap.size ∧ w.heap.size + 2 ≤ tb ∧ v.ownBlock ≠ some tb
  ok : TkOK us
  cap : us.length ≤ c ∧ c ≤ 9223372036854775807
  is : xs.map Prod.fst ++ decs true (us.length + 1) us = decs true ((toks s).length + 1) (toks s)
  few : xs.length + us.length ≤ 1000

theorem PLoop.on {w wr w1 : World} {s : ByteArray} {us : List TK} {ao : Option Addr} {c : Nat} {v : Value} {xs : List (DC × DPl)} (h : PLoop w s us ao c v xs wr) (hb : Below wr.heap.size wr w1) : PLoop w s us ao c v xs w1 := by
  have hB : But [] wr w1 := ⟨hb.os, hb.tape, hb.output, hb.size, fun k hk _ => hb.block k hk⟩
  refine ⟨h.below.trans (hb.mono h.below.size), h.box.of_block (hb.block _ h.box.lt), h.mod.of_block (hb.block _ h.mod.lt), h.own.low hB (by simp), fun z => ?_, h.ok, h.cap, h.is, h.few⟩
  obtain ⟨tb, o, h1, h2, h3, h4⟩ := h.tk z
  exact ⟨tb, o, h1.below hb, h2, Nat.lt_of_lt_of_le h3 hb.size, h4⟩

theorem TkAt.drew {w : World} {tb o : Nat} {ts : List TK} (h : TkAt w tb o ts) : TkAt w.drew tb o ts := ⟨h.c0, h.c1, h.c2, h.len, h.sz, h.gd⟩
theorem md_ret {W : World} {X : Nat} {f : Nat → Value} (R : W.rowIs X 72 1 f) (a : Value) (tmps : Array Value) (h2 : tmps[2]?.getD undef = .pointer (some ⟨X, 0, none⟩)) :
    (results Tryz.f38 tmps).run Tryz.prog (W.setCell ⟨X, 0, none⟩ a) = .ok (.agg #[a]) (W.setCell ⟨X, 0, none⟩ a) := by
  have r := R.set 0 a
  obtain ⟨V, hV⟩ : ∃ V, V = W.setCell ⟨X, 0, none⟩ a := ⟨_, rfl⟩
  rw [← hV] at r ⊢
  clear hV R
  have c0 : V.cell? ⟨X, 0, none⟩ = some a := r.cell (i := 0) (by omega)
  unfold results
  rw [show Tryz.f38.results = #[.cell 2 72] from rfl]
  simp [go_sem, h2, c0]

/-- The answer. -/
theorem PLoop.done {w wr : World} {s : ByteArray} {ao : Option Addr} {c : Nat} {v : Value} {xs : List (DC × DPl)} {us : List TK} (h : PLoop w s us ao c v xs wr) (he : us.length = 0) : ModR w (decs true ((toks s).length + 1) (toks s)) (.returned (.agg #[v])) (wr.setCell ⟨w.heap.size, 0, none⟩ v) := by
  have e : us = [] := List.length_eq_zero_iff.1 he
  have hb : But [w.heap.size] wr (wr.setCell ⟨w.heap.size, 0, none⟩ v) := (But.refl _ _).set (fun _ => by simp) 0 v
  refine ⟨?_, v, xs, rfl, (h.own.low hb (fun b hb => by have := List.mem_singleton.1 hb; omega)).mono (by omega), ?_⟩
  · have hB := h.below
    exact ⟨hB.os, hB.tape, hB.output, by rw [World.size_setCell]; exact hB.size, fun k hk => (hb.block k (Nat.lt_of_lt_of_le hk hB.size) (by simp; omega)).trans (hB.block k hk)⟩
  · rw [← h.is, e, decs_nil, List.append_nil]

/-- One more declaration. -/
theorem PLoop.next {w wr w2 w3 : World} {s : ByteArray} {ao ao' : Option Addr} {c c' : Nat} {v : Value} {xs : List (DC × DPl)} {us us' : List TK} {x : DC × DPl} {o : Obj} {gg cap3 : Nat} (h : PLoop w s us ao c v xs wr) (hb : Below wr.heap.size wr w2)
    (hown : w3.ownsRow (w.heap.size + 2) 58 4 (.slice (some ⟨gg, 0, none⟩) (xs.length + 1) cap3) (xs.length + 1) (dcsC xs ++ dcC x)) (hg : (w2.alloc o).grownBy w3 v.ownBlock) (hat : v.ownBlock = some gg ∨ gg = w2.heap.size + 1)
    (hx : DcOK wr.heap.size w2 x.1 x.2) (hl : us'.length < us.length) (hok : TkOK us') (hc : us'.length ≤ c' ∧ c' ≤ 9223372036854775807) (his : decs true (us.length + 1) us = x.1 :: decs true (us'.length + 1) us')
    (htk : 0 < us'.length → ∀ tb o, TkAt wr tb o us → ao = some ⟨tb, o, none⟩ → ∃ o', TkAt wr tb o' us' ∧ ao' = some ⟨tb, o', none⟩) :
    PLoop w s us' ao' c' (.slice (some ⟨gg, 0, none⟩) (xs.length + 1) cap3) (xs ++ [x]) (w3.setCell ⟨w.heap.size + 1, 0, none⟩ (.slice (some ⟨gg, 0, none⟩) (xs.length + 1) cap3)) := by
  have hws := h.below.size
  have hmlt := h.mod.lt
  have g := h.on hb
  have hbg := grown_but hg
  have O3 := g.own.push hown hg hat (hx.mono (by omega)) (M := wr.heap.size) (fun b hb => (hx.lt hb).1) (fun b e => (h.own.own.lt b e).2) (fun b e => (h.own.lt e).2)
  have nv : ∀ b, b < w.heap.size + 2 → v.ownBlock ≠ some b := fun b hb e => by have := (h.own.own.lt b e).1; omega
  obtain ⟨V, hV⟩ : ∃ V : Value, V = .slice (some ⟨gg, 0, none⟩) (xs.length + 1) cap3 := ⟨_, rfl⟩
  have ob : V.ownBlock = some gg := by rw [hV]; rfl
  rw [← hV] at O3 ⊢
  have hb4 : But [w.heap.size + 1] w3 (w3.setCell ⟨w.heap.size + 1, 0, none⟩ V) := (But.refl _ _).set (fun _ => by simp) 0 _
  have k3 : ∀ b, b < w2.heap.size → v.ownBlock ≠ some b → w3.heap[b]? = w2.heap[b]? := fun b hb hn => hbg.block b hb (by simp only [Option.mem_toList]; exact hn)
  have hmod := g.mod.of_block (k3 _ g.mod.lt (nv _ (by omega)))
  have hbox := g.box.of_block (k3 _ g.box.lt (nv _ (by omega)))
  refine ⟨?_, hbox.of_block (hb4.block _ hbox.lt (by simp)), (hmod.set 0 V).congr (fun k hk => by
    match k, hk with
    | 0, _ => rfl), O3.low hb4 (fun b hb => by have := List.mem_singleton.1 hb; omega), fun z => ?_, hok, hc, ?_, ?_⟩
  · have hB := g.below
    refine ⟨hb4.os.trans (hbg.os.trans hB.os), hb4.tape.trans (hbg.tape.trans hB.tape), hb4.output.trans (hbg.output.trans hB.output), Nat.le_trans hB.size (Nat.le_trans hbg.size hb4.size), fun k hk => ?_⟩
    have := hB.size
    have := hbg.size
    rw [hb4.block k (by omega) (by simp; omega), k3 k (by omega) (nv _ (by omega)), hB.block k hk]
  · obtain ⟨tb, o, h1, h2, h3, h4, h5⟩ := h.tk (by omega)
    obtain ⟨o', t1, t2⟩ := htk z tb o h1 h2
    have hs2 := hb.size
    have hs3 := hbg.size
    refine ⟨tb, o', ((t1.below hb).but hbg (by simp only [Option.mem_toList]; exact h5)).but hb4 (by simp; omega), t2, by have := hb4.size; omega, h4, ?_⟩
    intro e
    rw [ob] at e
    cases e
    rcases hat with q | q
    · exact h5 q
    · omega
  · rw [← h.is, his, List.map_append, List.append_assoc]; rfl
  · have := h.few; rw [List.length_append]; simp; omega

set_option maxRecDepth 100000 in
set_option maxHeartbeats 4000000 in
theorem p_parse (s : ByteArray) (m : Int) (w : World) (hs : s.size ≤ 9223372036854775807) (hm : w.cell? ⟨1, 0, none⟩ = some (.int .i64 m)) {eT : TypeId} {eV : Value} (hev : w.cell? ⟨0, 0, none⟩ = some (.iface eT eV)) :
    Calls Tryz.prog 38 #[.string s] w (ModR w (decs true ((toks s).length + 1) (toks s))) := by
  obtain ⟨i0, hi0, hz0, hz1, hz2⟩ := info_parts Tryz.infoDC
  obtain ⟨W2, hW2⟩ : ∃ W2, W2 = (w.alloc (.cells #[.slice none 0 0] 72)).alloc (.cells #[.slice none 0 0] 72) := ⟨_, rfl⟩
  have B2 : Below w.heap.size w W2 := by rw [hW2]; exact (bel1 _ _).alloc (by simp) _
  have RX : W2.rowIs w.heap.size 72 1 (fun _ => .slice none 0 0) := by rw [hW2]; exact (row1 _ _ _).alloc _
  have RM : W2.rowIs (w.heap.size + 1) 72 1 (fun _ => .slice none 0 0) := by
    have := row1 (w.alloc (.cells #[.slice none 0 0] 72)) (.slice none 0 0) 72
    simp only [World.size_alloc] at this
    rw [hW2]; exact this
  have s2 : W2.heap.size = w.heap.size + 2 := by rw [hW2]; simp
  have h0 := World.block_lt_of_cell? _ _ hev
  have h1 := World.block_lt_of_cell? _ _ hm
  have C6 : Hid (Calls Tryz.prog 48 #[.string s] W2 fun e w' => ∃ v, e = .returned v ∧ Own W2 w' v (toks s)) := c6 s m W2 hs ((B2.cell (p := ⟨1, 0, none⟩) h1).trans hm)
  have HEV : Hid (∀ W, Below w.heap.size w W → W.cell? ⟨0, 0, none⟩ = some (.iface eT eV)) := fun W hb => (hb.cell (p := ⟨0, 0, none⟩) h0).trans hev
  have HB2 : Hid (Below w.heap.size w W2) := B2
  have HX : Hid (W2.rowIs w.heap.size 72 1 (fun _ => .slice none 0 0)) := RX
  have HM : Hid (W2.rowIs (w.heap.size + 1) 72 1 (fun _ => .slice none 0 0)) := RM
  have HS2 : Hid (W2.heap.size = w.heap.size + 2) := s2
  clear B2 RX RM hm hev s2
  go_enter Tryz.func38, Tryz.ntmps38
  go_wp2_with fail
  rw [← hW2]
  clear hW2
  refine C6.out.mono ?_
  rintro e w3 ⟨v0, rfl, hO⟩
  have HL : ∃ ao c, v0 = .slice ao (toks s).length c ∧ Hid (PLoop w s (toks s) ao c (.slice none 0 0) [] w3) := by
    obtain ⟨ao, c, rfl⟩ := own_form hO.own
    refine ⟨ao, c, rfl, ?_⟩
    have hb := hO.below
    have hl := toks_len s
    have e2 := HS2.out
    refine ⟨HB2.out.trans (hb.mono (by omega)), HX.out.of_block (hb.block _ HX.out.lt), HM.out.of_block (hb.block _ HM.out.lt), OD.nil _ _, ?_, toks_ok s, ?_, by simp, by simp; omega⟩
    · intro hp
      obtain ⟨g, c', e, hg, hlt, _⟩ := own_blk hO.own hp
      cases e
      exact ⟨g, 0, TkAt.of_own hO, rfl, hlt, by omega, by simp [Value.ownBlock]⟩
    · rcases hO.own.2 with ⟨e, z⟩ | ⟨g, cap, cur, e, _, _, h5, h6, _⟩
      · simp only [Value.slice.injEq] at e; omega
      · simp only [Value.slice.injEq] at e; unfold maxLen at h6; omega
  obtain ⟨ao, c, rfl, HPL⟩ := HL
  clear hO C6 HB2 HX HM HS2
  go_wp2
  go_loopw [4] (fun r wr => ∃ (us : List TK) (ao : Option Addr) (c : Nat) (v : Value) (xs : List (DC × DPl)), r = .slice ao us.length c ∧ Hid (PLoop w s us ao c v xs wr)) (fun r _ => match r with | .slice _ n _ => n | _ => 0)
  case atStart => exact ⟨_, _, _, _, _, rfl, HPL⟩
  case round =>
    obtain ⟨us, ao', c', v, xs, rfl, HP⟩ := hrel
    clear HPL
    by_cases hlt : 0 < us.length
    case neg =>
      have HZ : Hid (us.length = 0) := by show _ = _; omega
      obtain ⟨n, hn⟩ : ∃ n, n = us.length := ⟨_, rfl⟩
      have hn0 : n = 0 := by omega
      rw [← hn]
      clear hn hlt
      subst hn0
      have cm := HP.out.mod.cell (i := 0) (by omega)
      have cx := HP.out.box.cell (i := 0) (by omega)
      have zx := HP.out.box.frozen 0
      obtain ⟨va, vc, hv⟩ := own_form HP.out.own.own
      subst hv
      go_wp2
      exact bodyPost_ret (md_ret HP.out.box _ _ rfl) rfl (HP.out.done HZ.out)
    obtain ⟨tb, o, htk, e, htb, htl, hvb⟩ := HP.out.tk hlt
    subst e
    have CI : Hid (Calls Tryz.prog 49 #[.slice (some ⟨tb, o, none⟩) us.length c', .func (.func 50) #[] #[]] wr fun e w' => Hid (Below wr.heap.size wr w') ∧ ((e = .returned (.int .i64 (-1)) ∧ Hid (semi us = none)) ∨ ∃ i : Nat, e = .returned (.int .i64 (i : Int)) ∧ i < us.length ∧ Hid (semi us = some i))) := p_index htk (fun _ => rfl)
    obtain ⟨va, vc, hv⟩ := own_form HP.out.own.own
    subst hv
    have hfew := HP.out.few
    have hcap := HP.out.cap
    clear htk
    go_wp2_with fail
    refine CI.out.mono ?_
    rintro e wi ⟨hbi, (⟨rfl, hsm⟩ | ⟨k, rfl, hk, hsm⟩)⟩
    · have HP1 : Hid (PLoop w s us (some ⟨tb, o, none⟩) c' (.slice va xs.length vc) xs wi) := HP.out.on hbi.out
      have hw1 := HP1.out.below.size
      have cm := HP1.out.mod.cell (i := 0) (by omega)
      have cx := HP1.out.box.cell (i := 0) (by omega)
      have zx := HP1.out.box.frozen 0
      have xlt := HP1.out.box.lt
      have mlt := HP1.out.mod.lt
      clear HP CI hbi
      go_wp2_with (first | (at_builtin; refine wpList_append_lies _ rfl _ _ 49 rfl (w.heap.size + 2) 58 i0 _ 4 72 Tryz.underlying49 hi0 hz0 hz1 hz2 rfl (by omega) (.slice va xs.length vc) xs.length (dcsC xs) rfl (HP1.out.own.own.alloc _) ⟨wi.heap.size, 0, none⟩ 1 1 [.int .i64 0, .string ⟨#[]⟩, .slice none 0 0, .slice none 0 0] rfl rfl (World.news_of_block (cs := #[.int .i64 0, .string ⟨#[]⟩, .slice none 0 0, .slice none 0 0]) (t := 58) (fr := (0, 0)) (heap_alloc_new wi _)) (by simp [Value.oneCell']) (by omega) (by unfold maxLen; omega) (by omega) (by simp; omega) (wi.heap.size + 1) (by simp) ?_; intro gg cap3 w3 hown3 hg3 hat3 hlt3; have m3 : w3.rowIs (w.heap.size + 1) 72 1 (fun _ => .slice va xs.length vc) := (HP1.out.mod.alloc _).of_block (hg3.block _ (by simp; omega) (fun e => by have := (HP1.out.own.own.lt _ e.symm).1; omega)); have c3 := m3.cell (i := 0) (by omega); have z3 := m3.frozen 0; have x3 : w3.rowIs w.heap.size 72 1 (fun _ => .slice none 0 0) := (HP1.out.box.alloc _).of_block (hg3.block _ (by simp; omega) (fun e => by have := (HP1.out.own.own.lt _ e.symm).1; omega)); have c4 := x3.cell (i := 0) (by omega); have z4 := x3.frozen 0))
      have HN : Hid (us ≠ []) := fun e => by rw [e] at hlt; exact absurd hlt (by decide)
      have NX := HP1.out.next (us' := []) (ao' := none) (c' := 0) (x := (dBad, dp0)) (w2 := wi) (Below.refl _ _) hown3 hg3 hat3 (dc_bare _ _ _ _) (by simpa using hlt) ⟨(fun t ht => by cases ht), (fun t ht => by cases ht), (fun t ht => by cases ht), (fun t ht => by cases ht)⟩ (by simp) (by rw [decs_none HN.out hsm.out, decs_nil]) (fun z => absurd z (by decide))
      exact bodyPost_ret (md_ret NX.box _ _ rfl) rfl (NX.done rfl)
    · have HP1 : Hid (PLoop w s us (some ⟨tb, o, none⟩) c' (.slice va xs.length vc) xs wi) := HP.out.on hbi.out
      have hw1 := HP1.out.below.size
      have cm := HP1.out.mod.cell (i := 0) (by omega)
      have zm := HP1.out.mod.frozen 0
      have mlt := HP1.out.mod.lt
      have CP : Hid (Calls Tryz.prog 51 #[.slice (some ⟨tb, o, none⟩) k c'] wi.drew (PcV wi (declP true (us.take k)))) := by
        have hl : (us.take k).length = k := by rw [List.length_take]; omega
        obtain ⟨tb', o', htk, e, htb', _⟩ := HP1.out.tk hlt
        cases e
        have := p_pieceV (w := wi.drew) (c := c') (ao := some ⟨tb, o, none⟩) (num_c (HP1.out.ok.take k)) (tb := tb) (o := o) (htk.take k).drew htb' (fun _ => rfl) (by omega) (HEV.out wi HP1.out.below)
        rw [hl] at this
        refine this.mono ?_
        rintro e w' ⟨p, dk, dn, ta, tn, tc, ea, en, ec, he, h1, h2, h3⟩
        exact ⟨p, dk, dn, ta, tn, tc, ea, en, ec, he, h1, h2, ⟨h3.out.os, h3.out.tape, h3.out.output, h3.out.size, h3.out.block⟩⟩
      have hk0 : ¬ (k : Int) < 0 := by omega
      have hk2 : k ≤ c' := by omega
      clear HP CI hbi
      go_wp2
      refine wp_region_held_drew (S := fun _ => True) (by kernel_rfl) trivial (fun hHeld => ?_)
      refine wpAnyH_take (i := 0) (oi := ⟨some 21, _, _, _, _, _⟩) (v := ?_) rfl (by kernel_rfl) (by kernel_rfl) (by kernel_rfl) (fun _ _ _ h => h) (Or.inl ⟨by kernel_rfl, ?_⟩) (by assumption) ?_
      rotate_left
      · (intro wS hSw; (try dsimp only at hSw); (go_simp <;> with_reducible rfl))
      (try simp only [Act.put]); (try simp only [List.setIfInBounds_toArray]); (try simp only [List.set_cons_succ]); (try simp only [List.set_cons_zero])
      refine wpAnyH_take (i := 2) (oi := ⟨some 23, _, _, _, _, _⟩) (v := ?_) rfl (by kernel_rfl) (by kernel_rfl) (by kernel_rfl) (fun _ _ _ h => h) (Or.inl ⟨by kernel_rfl, ?_⟩) (by assumption) ?_
      rotate_left
      · (intro wS hSw; (try dsimp only at hSw); (go_simp <;> with_reducible rfl))
      (try simp only [Act.put]); (try simp only [List.setIfInBounds_toArray]); (try simp only [List.set_cons_succ]); (try simp only [List.set_cons_zero])
      refine wpAnyH_take (i := 3) (oi := ⟨some 24, _, _, _, _, _⟩) (v := ?_) rfl (by kernel_rfl) (by kernel_rfl) (by kernel_rfl) (fun _ _ _ h => h) (Or.inl ⟨by kernel_rfl, ?_⟩) (by assumption) ?_
      rotate_left
      · (intro wS hSw; (try dsimp only at hSw); (go_simp <;> with_reducible rfl))
      (try simp only [Act.put]); (try simp only [List.setIfInBounds_toArray]); (try simp only [List.set_cons_succ]); (try simp only [List.set_cons_zero])
      refine wpAnyH_take (i := 4) (oi := ⟨some 25, _, _, _, _, _⟩) (v := ?_) rfl (by kernel_rfl) (by kernel_rfl) (by kernel_rfl) (fun _ _ _ h => h) (Or.inl ⟨by kernel_rfl, ?_⟩) (by assumption) ?_
      rotate_left
      · (intro wS hSw; (try dsimp only at hSw); (go_simp <;> with_reducible rfl))
      (try simp only [Act.put]); (try simp only [List.setIfInBounds_toArray]); (try simp only [List.set_cons_succ]); (try simp only [List.set_cons_zero])
      refine wpAnyH_ready (rs := [1, 5]) (by kernel_rfl) (by simp) ?_
      refine AllReadyH.cons rfl (fun K hK => ?_) ?_
      · go_simp
        refine hK.out _ _ trivial (fun hHeld2 => ?_)
        clear hK K
        refine wpAnyH_ready (rs := [5]) (by kernel_rfl) (by simp) ?_
        refine AllReadyH.cons rfl (fun K hK => ?_) AllReadyH.nil
        go_simp
        go_wp2_with (first | (go_at_call 51; refine CP.out.mono ?_; rintro e w2 ⟨p, dk, dn, ta, tn, tc, ea, en, ec, rfl, HC, HX, HB2⟩))
        have B2 : Below wi.heap.size wi w2 := ⟨HB2.out.os, HB2.out.tape, HB2.out.output, HB2.out.size, fun k hk => HB2.out.block k hk (by simp)⟩
        have G2 := HP1.out.on B2
        have cm2 := G2.mod.cell (i := 0) (by omega)
        have cm2' := (G2.mod.alloc (.cells #[.int .i64 dk, .string dn, .slice ta tn tc, .slice ea en ec] 58)).cell (i := 0) (by omega)
        have hws2 := G2.below.size
        have hxs2 := G2.mod.lt
        have HG2 : Hid (PLoop w s us (some ⟨tb, o, none⟩) c' (.slice va xs.length vc) xs w2) := G2
        clear G2
        refine hK.out _ _ trivial (fun hHeld2 => ?_)
        clear hK K
        refine wpAnyH_ready (rs := [6]) (by kernel_rfl) (by simp) ?_
        refine AllReadyH.cons rfl (fun K hK => ?_) AllReadyH.nil
        go_simp
        refine hK.out _ _ trivial (fun hHeld2 => ?_)
        clear hK K
        refine wpAnyH_ready (rs := [7]) (by kernel_rfl) (by simp) ?_
        refine AllReadyH.cons rfl (fun K hK => ?_) AllReadyH.nil
        refine step_append_lies _ (by rfl) _ _ _ (by rfl) (w.heap.size + 2) 58 i0 _ 4 72 Tryz.underlying49 hi0 hz0 hz1 hz2 rfl (by omega) (.slice va xs.length vc) xs.length (dcsC xs) (by rfl) (HG2.out.own.own.alloc _) ⟨w2.heap.size, 0, none⟩ 1 1 [.int .i64 dk, .string dn, .slice ta tn tc, .slice ea en ec] (by rfl) (by rfl) (World.news_of_block (cs := #[.int .i64 dk, .string dn, .slice ta tn tc, .slice ea en ec]) (t := 58) (fr := (0, 0)) (heap_alloc_new w2 _)) (by simp [Value.oneCell']) (by omega) (by unfold maxLen; have := HP1.out.few; omega) (by have := HP1.out.few; omega) (by simp; omega) (w2.heap.size + 1) (by simp) ?_
        intro gg cap3 w3 hown3 hg3 hat3 hlt3
        have NX := fun (us' : List TK) (ao'' : Option Addr) (c'' : Nat) hl hok hc his htk => HP1.out.next (us' := us') (ao' := ao'') (c' := c'') (x := (declP true (us.take k), p)) B2 (by rw [HC.out]; exact hown3) hg3 hat3 HX.out hl hok hc his htk
        have HNX : Hid (∀ (us' : List TK) (ao'' : Option Addr) (c'' : Nat), _) := NX
        clear NX
        have m3 : w3.rowIs (w.heap.size + 1) 72 1 (fun _ => .slice va xs.length vc) := (HG2.out.mod.alloc _).of_block (hg3.block _ (by simp; omega) (fun e => by have := (HG2.out.own.own.lt _ e.symm).1; omega))
        have c3 := m3.cell (i := 0) (by omega)
        have z3 := m3.frozen 0
        clear m3 hown3 hg3 hat3
        refine hK.out _ _ trivial (fun hHeld2 => ?_)
        clear hK K
        refine wpAnyH_ready (rs := [8]) (by kernel_rfl) (by simp) ?_
        refine AllReadyH.cons rfl (fun K hK => ?_) AllReadyH.nil
        go_simp
        refine hK.out _ _ trivial (fun hHeld2 => ?_)
        clear hK K
        refine wpAnyH_ready (rs := [9]) (by kernel_rfl) (by simp) ?_
        refine AllReadyH.cons rfl (fun K hK => ?_) AllReadyH.nil
        go_simp
        refine hK.out _ _ trivial (fun hHeld2 => ?_)
        clear hK K
        refine wpAnyH_done (by kernel_rfl) ?_ _
        clear CP hHeld
        go_wp2
        exact ⟨⟨us.drop (k + 1), _, _, _, _, by rw [List.length_drop], HNX.out (us.drop (k + 1)) _ _ (by rw [List.length_drop]; omega) (HP1.out.ok.drop _) (by rw [List.length_drop]; omega) (decs_some hk hsm.out) (fun z tb' o' h e => by cases e; refine ⟨o + (k + 1) * 3, h.drop (k + 1), ?_⟩; rw [List.length_drop] at z; rw [if_neg (by omega)])⟩, by show us.length - (k + 1) < us.length; omega⟩
      refine AllReadyH.cons rfl (fun K hK => ?_) AllReadyH.nil
      go_simp
      go_wp2_with (first | (go_at_call 51; refine CP.out.mono ?_; rintro e w2 ⟨p, dk, dn, ta, tn, tc, ea, en, ec, rfl, HC, HX, HB2⟩))
      have B2 : Below wi.heap.size wi w2 := ⟨HB2.out.os, HB2.out.tape, HB2.out.output, HB2.out.size, fun k hk => HB2.out.block k hk (by simp)⟩
      have G2 := HP1.out.on B2
      have cm2 := G2.mod.cell (i := 0) (by omega)
      have cm2' := (G2.mod.alloc (.cells #[.int .i64 dk, .string dn, .slice ta tn tc, .slice ea en ec] 58)).cell (i := 0) (by omega)
      have hws2 := G2.below.size
      have hxs2 := G2.mod.lt
      have HG2 : Hid (PLoop w s us (some ⟨tb, o, none⟩) c' (.slice va xs.length vc) xs w2) := G2
      clear G2
      refine hK.out _ _ trivial (fun hHeld2 => ?_)
      clear hK K
      refine wpAnyH_ready (rs := [1, 6]) (by kernel_rfl) (by simp) ?_
      refine AllReadyH.cons rfl (fun K hK => ?_) ?_
      · go_simp
        refine hK.out _ _ trivial (fun hHeld2 => ?_)
        clear hK K
        refine wpAnyH_ready (rs := [6]) (by kernel_rfl) (by simp) ?_
        refine AllReadyH.cons rfl (fun K hK => ?_) AllReadyH.nil
        go_simp
        refine hK.out _ _ trivial (fun hHeld2 => ?_)
        clear hK K
        refine wpAnyH_ready (rs := [7]) (by kernel_rfl) (by simp) ?_
        refine AllReadyH.cons rfl (fun K hK => ?_) AllReadyH.nil
        refine step_append_lies _ (by rfl) _ _ _ (by rfl) (w.heap.size + 2) 58 i0 _ 4 72 Tryz.underlying49 hi0 hz0 hz1 hz2 rfl (by omega) (.slice va xs.length vc) xs.length (dcsC xs) (by rfl) (HG2.out.own.own.alloc _) ⟨w2.heap.size, 0, none⟩ 1 1 [.int .i64 dk, .string dn, .slice ta tn tc, .slice ea en ec] (by rfl) (by rfl) (World.news_of_block (cs := #[.int .i64 dk, .string dn, .slice ta tn tc, .slice ea en ec]) (t := 58) (fr := (0, 0)) (heap_alloc_new w2 _)) (by simp [Value.oneCell']) (by omega) (by unfold maxLen; have := HP1.out.few; omega) (by have := HP1.out.few; omega) (by simp; omega) (w2.heap.size + 1) (by simp) ?_
        intro gg cap3 w3 hown3 hg3 hat3 hlt3
        have NX := fun (us' : List TK) (ao'' : Option Addr) (c'' : Nat) hl hok hc his htk => HP1.out.next (us' := us') (ao' := ao'') (c' := c'') (x := (declP true (us.take k), p)) B2 (by rw [HC.out]; exact hown3) hg3 hat3 HX.out hl hok hc his htk
        have HNX : Hid (∀ (us' : List TK) (ao'' : Option Addr) (c'' : Nat), _) := NX
        clear NX
        have m3 : w3.rowIs (w.heap.size + 1) 72 1 (fun _ => .slice va xs.length vc) := (HG2.out.mod.alloc _).of_block (hg3.block _ (by simp; omega) (fun e => by have := (HG2.out.own.own.lt _ e.symm).1; omega))
        have c3 := m3.cell (i := 0) (by omega)
        have z3 := m3.frozen 0
        clear m3 hown3 hg3 hat3
        refine hK.out _ _ trivial (fun hHeld2 => ?_)
        clear hK K
        refine wpAnyH_ready (rs := [8]) (by kernel_rfl) (by simp) ?_
        refine AllReadyH.cons rfl (fun K hK => ?_) AllReadyH.nil
        go_simp
        refine hK.out _ _ trivial (fun hHeld2 => ?_)
        clear hK K
        refine wpAnyH_ready (rs := [9]) (by kernel_rfl) (by simp) ?_
        refine AllReadyH.cons rfl (fun K hK => ?_) AllReadyH.nil
        go_simp
        refine hK.out _ _ trivial (fun hHeld2 => ?_)
        clear hK K
        refine wpAnyH_done (by kernel_rfl) ?_ _
        clear CP hHeld
        go_wp2
        exact ⟨⟨us.drop (k + 1), _, _, _, _, by rw [List.length_drop], HNX.out (us.drop (k + 1)) _ _ (by rw [List.length_drop]; omega) (HP1.out.ok.drop _) (by rw [List.length_drop]; omega) (decs_some hk hsm.out) (fun z tb' o' h e => by cases e; refine ⟨o + (k + 1) * 3, h.drop (k + 1), ?_⟩; rw [List.length_drop] at z; rw [if_neg (by omega)])⟩, by show us.length - (k + 1) < us.length; omega⟩
      refine AllReadyH.cons rfl (fun K hK => ?_) AllReadyH.nil
      go_simp
      refine hK.out _ _ trivial (fun hHeld2 => ?_)
      clear hK K
      refine wpAnyH_ready (rs := [1]) (by kernel_rfl) (by simp) ?_
      refine AllReadyH.cons rfl (fun K hK => ?_) AllReadyH.nil
      go_simp
      refine hK.out _ _ trivial (fun hHeld2 => ?_)
      clear hK K
      refine wpAnyH_ready (rs := [7]) (by kernel_rfl) (by simp) ?_
      refine AllReadyH.cons rfl (fun K hK => ?_) AllReadyH.nil
      refine step_append_lies _ (by rfl) _ _ _ (by rfl) (w.heap.size + 2) 58 i0 _ 4 72 Tryz.underlying49 hi0 hz0 hz1 hz2 rfl (by omega) (.slice va xs.length vc) xs.length (dcsC xs) (by rfl) (HG2.out.own.own.alloc _) ⟨w2.heap.size, 0, none⟩ 1 1 [.int .i64 dk, .string dn, .slice ta tn tc, .slice ea en ec] (by rfl) (by rfl) (World.news_of_block (cs := #[.int .i64 dk, .string dn, .slice ta tn tc, .slice ea en ec]) (t := 58) (fr := (0, 0)) (heap_alloc_new w2 _)) (by simp [Value.oneCell']) (by omega) (by unfold maxLen; have := HP1.out.few; omega) (by have := HP1.out.few; omega) (by simp; omega) (w2.heap.size + 1) (by simp) ?_
      intro gg cap3 w3 hown3 hg3 hat3 hlt3
      have NX := fun (us' : List TK) (ao'' : Option Addr) (c'' : Nat) hl hok hc his htk => HP1.out.next (us' := us') (ao' := ao'') (c' := c'') (x := (declP true (us.take k), p)) B2 (by rw [HC.out]; exact hown3) hg3 hat3 HX.out hl hok hc his htk
      have HNX : Hid (∀ (us' : List TK) (ao'' : Option Addr) (c'' : Nat), _) := NX
      clear NX
      have m3 : w3.rowIs (w.heap.size + 1) 72 1 (fun _ => .slice va xs.length vc) := (HG2.out.mod.alloc _).of_block (hg3.block _ (by simp; omega) (fun e => by have := (HG2.out.own.own.lt _ e.symm).1; omega))
      have c3 := m3.cell (i := 0) (by omega)
      have z3 := m3.frozen 0
      clear m3 hown3 hg3 hat3
      refine hK.out _ _ trivial (fun hHeld2 => ?_)
      clear hK K
      refine wpAnyH_ready (rs := [8]) (by kernel_rfl) (by simp) ?_
      refine AllReadyH.cons rfl (fun K hK => ?_) AllReadyH.nil
      go_simp
      refine hK.out _ _ trivial (fun hHeld2 => ?_)
      clear hK K
      refine wpAnyH_ready (rs := [9]) (by kernel_rfl) (by simp) ?_
      refine AllReadyH.cons rfl (fun K hK => ?_) AllReadyH.nil
      go_simp
      refine hK.out _ _ trivial (fun hHeld2 => ?_)
      clear hK K
      refine wpAnyH_done (by kernel_rfl) ?_ _
      clear CP hHeld
      go_wp2
      exact ⟨⟨us.drop (k + 1), _, _, _, _, by rw [List.length_drop], HNX.out (us.drop (k + 1)) _ _ (by rw [List.length_drop]; omega) (HP1.out.ok.drop _) (by rw [List.length_drop]; omega) (decs_some hk hsm.out) (fun z tb' o' h e => by cases e; refine ⟨o + (k + 1) * 3, h.drop (k + 1), ?_⟩; rw [List.length_drop] at z; rw [if_neg (by omega)])⟩, by show us.length - (k + 1) < us.length; omega⟩

end Go.Proofs.YtdjkgilohhjfoaaGreatDoor
