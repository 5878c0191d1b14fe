/-
  Merged for the claim: VeD VeE VeF.
-/
import Derived.Test.YtcehppndpccldaaDoorM9
import Derived.Test.YtcehppndpccldaaDoorShelf
import Derived.Lib.Builder
import Derived.Lib.AppendStr
import Derived.Lib.OthersKept
import Derived.WalkKit
import Derived.Laws.Externs
namespace Go.Proofs.YtcehppndpccldaaDoor
open Go.RowKit Go.Lib

theorem info_parts5 {o : Option TypeInfo} {z : Value} {s b : Nat} (h : o.map (fun i => (i.zero, i.size, i.bytes)) = some (some z, s, b)) : ∃ i, o = some i ∧ i.zero = some z ∧ i.size = s ∧ i.bytes = b := by
  obtain ⟨i, hi, hzz⟩ := Option.map_eq_some_iff.1 h
  simp only [Prod.mk.injEq] at hzz
  exact ⟨i, hi, hzz.1, hzz.2.1, hzz.2.2⟩
theorem Tryd.info5 : (Tryd.prog.info? 5).map (fun i => (i.zero, i.size, i.bytes)) = some (some (.int .u8 0), 1, 1) := by kernel_rfl
theorem own_bel {w w' : World} {base : Nat} {e : TypeId} {size : Nat} {v : Value} {n : Nat} {xs : List Value} (h : w.ownsRow base e size v n xs) (hb : Below w.heap.size w w') : w'.ownsRow base e size v n xs := by
  refine ⟨h.1, ?_⟩
  rcases h.2 with h2 | ⟨g, cap, cur, rfl, h1, h2, h3⟩
  · exact Or.inl h2
  · refine Or.inr ⟨g, cap, cur, rfl, h1, ?_, h3⟩
    rw [hb.block g ?_]; exact h2
    rcases Nat.lt_or_ge g w.heap.size with h' | h'
    · exact h'
    · rw [Array.getElem?_eq_none h'] at h2; simp at h2
theorem Tryd.sizeB : (Tryd.prog.info? 115).map (·.size) = some 2 := by kernel_rfl
theorem Tryd.liesB : liesAt Tryd.prog Tryd.prog.depth 115 (2 / Tryd.prog.cellsOf 115) 0 115 1 = true := by kernel_rfl
set_option maxHeartbeats 1000000 in
set_option maxRecDepth 100000 in
theorem p_check_used (b : Nat) (w : World) (h0 : w.cell? ⟨b, 0, none⟩ = some (.pointer (some ⟨b, 0, none⟩))) :
    Calls Tryd.prog 79 #[.pointer (some ⟨b, 0, none⟩)] w fun e w' => e = .returned (.tuple #[]) ∧ w' = w := by
  obtain ⟨j, hj, _⟩ := Option.map_eq_some_iff.1 Tryd.sizeB
  go_enter Tryd.func79, Tryd.ntmps79
  go_wp2
  rw [Lib.run_neq_ptr_same w _ Tryd.underlying112 hj]
  go_wp2
  go_end0
  exact ⟨rfl, rfl⟩
set_option maxHeartbeats 1000000 in
set_option maxRecDepth 100000 in
theorem p_check_new (b : Nat) (w : World) (h0 : w.cell? ⟨b, 0, none⟩ = some (.pointer none)) (hsh : w.shape? b = some (115, 2)) (hfz : w.frozen? ⟨b, 0, none⟩ = false) :
    Calls Tryd.prog 79 #[.pointer (some ⟨b, 0, none⟩)] w fun e w' => e = .returned (.tuple #[]) ∧ w' = w.setCell ⟨b, 0, none⟩ (.pointer (some ⟨b, 0, none⟩)) := by
  obtain ⟨j, hj, hjs⟩ := Option.map_eq_some_iff.1 Tryd.sizeB
  go_enter Tryd.func79, Tryd.ntmps79
  go_wp2
  rw [Lib.run_to_unsafe w ⟨b, 0, none⟩ Tryd.underlying112 Tryd.underlying131 hj (by rw [hjs]; decide) hsh (Nat.zero_lt_succ 1)]
  simp only [Result.andThen]
  rw [Oper.upon_value]
  go_wp2
  rw [run_callFunc_extern Tryd.func81 (by kernel_rfl) (by kernel_rfl) (by kernel_rfl) (e := Extern.AbiNoEscape.same) (by kernel_rfl)]
  rw [Lib.run_noEscape]
  simp only [Result.andThen]
  rw [Oper.upon_value]
  go_wp2
  rw [Lib.run_from_unsafe w ⟨b, 0, none⟩ Tryd.underlying131 Tryd.underlying112 hj hsh Tryd.liesB]
  simp only [Result.andThen]
  rw [Oper.upon_value]
  go_wp2
  go_end0
  exact ⟨rfl, rfl⟩
theorem p_check (B b : Nat) (bs : List Value) (w : World) (h : Lib.IsBuilder 115 5 B b bs w) :
    Calls Tryd.prog 79 #[.pointer (some ⟨b, 0, none⟩)] w fun e w' => e = .returned (.tuple #[]) ∧ Lib.BuilderAt 115 5 B b (.pointer (some ⟨b, 0, none⟩)) bs w' ∧ Below B w w' ∧ Lib.OthersKept 5 (some b) w w' := by
  rcases h with h | h
  · refine (p_check_new b w h.cell0 h.shape h.frozen0).mono ?_
    rintro e w' ⟨rfl, rfl⟩
    exact ⟨rfl, h.used _, (Below.refl B w).setCell (p := ⟨b, 0, none⟩) h.1 _, (Lib.OthersKept.refl _ _ w).setCell ⟨b, 0, none⟩ rfl _⟩
  · refine (p_check_used b w h.cell0).mono ?_
    rintro e w' ⟨rfl, rfl⟩
    exact ⟨rfl, h, Below.refl _ _, Lib.OthersKept.refl _ _ _⟩
set_option maxHeartbeats 1000000 in
set_option maxRecDepth 100000 in
/-- What is written stands behind what was there. -/
theorem p_write (B b : Nat) (bs : List Value) (s : ByteArray) (w : World) (h : Lib.IsBuilder 115 5 B b bs w) (hlen : bs.length + s.size ≤ 140737488355328) (hBw : B ≤ w.heap.size) :
    Calls Tryd.prog 73 #[.pointer (some ⟨b, 0, none⟩), .string s] w fun e w' => e = .returned (.tuple #[.int .i64 s.size, .nilIface]) ∧ Lib.BuilderAt 115 5 B b (.pointer (some ⟨b, 0, none⟩)) (bs ++ Lib.strCells s) w' ∧ Below B w w' ∧ Lib.OthersKept 5 (some b) w w' := by
  obtain ⟨i0, hi, hz0, hz1, hz2⟩ := info_parts5 Tryd.info5
  go_enter Tryd.func73, Tryd.ntmps73
  go_wp2_with (go_at_call 79; refine (p_check B b bs _ h).mono ?_)
  rintro e w1 ⟨rfl, h1, hb1, ho1⟩
  obtain ⟨hB, v, hbk, hown, hne⟩ := h1
  have c0 : w1.cell? ⟨b, 0, none⟩ = some (.pointer (some ⟨b, 0, none⟩)) := by rw [Lib.cell_of_heap hbk]; rfl
  have c1 : w1.cell? ⟨b, 1, none⟩ = some v := by rw [Lib.cell_of_heap hbk]; rfl
  go_wp2_with (at_builtin; refine Lib.wpList_append_own_string _ rfl _ _ 113 9 rfl B 5 i0 Tryd.underlying113 Tryd.underlying9 hi hz0 hz1 hz2 _ _ _ rfl hown s rfl ?c3 ?c4 ?c5 ?_)
  case c3 => unfold maxLen; omega
  case c4 => omega
  case c5 => have := hb1.size; omega
  intro v' w2 hown' hgrow _
  have hlt : b < w1.heap.size := by
    rcases Nat.lt_or_ge b w1.heap.size with h' | h'
    · exact h'
    · simp [Array.getElem?_eq_none h'] at hbk
  have hb2 : w2.heap[b]? = some (.cells #[.pointer (some ⟨b, 0, none⟩), v] 115 (0, 0)) := by
    rw [hgrow.block b hlt (fun e => hne e.symm)]
    exact hbk
  have d0 : w2.cell? ⟨b, 0, none⟩ = some (.pointer (some ⟨b, 0, none⟩)) := by rw [Lib.cell_of_heap hb2]; rfl
  have d1 : w2.cell? ⟨b, 1, none⟩ = some v := by rw [Lib.cell_of_heap hb2]; rfl
  have f1 : w2.frozen? ⟨b, 1, none⟩ = false := Lib.frozen_of_heap hb2 1
  obtain ⟨ao, n', cap, rfl⟩ : ∃ ao n' cap, v' = .slice ao n' cap := by
    rcases hown'.2 with ⟨hv, _⟩ | ⟨g, cap, cur, hv, _⟩
    · exact ⟨_, _, _, hv⟩
    · exact ⟨_, _, _, hv⟩
  go_wp2
  go_ret2
  refine ⟨rfl, ?_, ?_, ?_⟩
  · exact Lib.BuilderAt.put (T := 115) (e := 5) hB hb2 (bs' := bs ++ Lib.strCells s) (by simpa [Lib.strCells_length] using hown') (by decide)
  · exact (hb1.grown hgrow (by have := hb1.size; omega) (fun k hk => (hown.lt k hk).1)).setCell (p := ⟨b, 1, none⟩) hB _
  · refine (ho1.grown hgrow (fun g hg => ?_)).setCell ⟨b, 1, none⟩ rfl _
    rcases hown.2 with ⟨hv, _⟩ | ⟨g2, cap2, cur2, hv, _, h2, _⟩
    · subst hv; cases hg
    · subst hv; cases hg; exact ⟨cur2, (0, 0), h2⟩
/-- The text that is built. -/
def Bld (W : World) (b : Nat) (x : ByteArray) : Prop := Lib.IsBuilder 115 5 b b (Lib.strCells x) W
theorem Bld.below {W W' : World} {b : Nat} {x : ByteArray} (h : Bld W b x) (hb : Below W.heap.size W W') : Bld W' b x := by
  have one : ∀ p, Lib.BuilderAt 115 5 b b p (Lib.strCells x) W → Lib.BuilderAt 115 5 b b p (Lib.strCells x) W' := by
    rintro p ⟨h1, v, h2, h3, h4⟩
    refine ⟨h1, v, ?_, own_bel h3 hb, h4⟩
    rw [hb.block b ?_]; exact h2
    rcases Nat.lt_or_ge b W.heap.size with h' | h'
    · exact h'
    · rw [Array.getElem?_eq_none h'] at h2; simp at h2
  rcases h with h | h
  · exact Or.inl (one _ h)
  · exact Or.inr (one _ h)
theorem Bld.new (w : World) : Bld (w.alloc (.cells #[.pointer none, .slice none 0 0] 115)) w.heap.size ⟨#[]⟩ := Lib.fresh_isBuilder _ _ w
theorem cells_app (x y : ByteArray) : Lib.strCells x ++ Lib.strCells y = Lib.strCells (x ++ y) := by
  unfold Lib.strCells
  rw [← List.map_append, ByteArray.data_append, Array.toList_append]
/-- What is written. -/
theorem p_put (b : Nat) (x s : ByteArray) (w : World) (h : Bld w b x) (hlen : x.size + s.size ≤ 140000000000000) (hBw : b ≤ w.heap.size) :
    Calls Tryd.prog 73 #[.pointer (some ⟨b, 0, none⟩), .string s] w fun e w' => e = .returned (.tuple #[.int .i64 s.size, .nilIface]) ∧ Bld w' b (x ++ s) ∧ Below b w w' ∧ Lib.OthersKept 5 (some b) w w' := by
  refine (p_write b b (Lib.strCells x) s w h (by rw [Lib.strCells_length]; omega) hBw).mono ?_
  rintro e w' ⟨he, h1, h2, h3⟩
  refine ⟨he, Or.inr ?_, h2, h3⟩
  rw [← cells_app]; exact h1
theorem p_string (b : Nat) (x : ByteArray) (w : World) (h : Bld w b x) (hBw : b ≤ w.heap.size) :
    Calls Tryd.prog 74 #[.pointer (some ⟨b, 0, none⟩)] w fun e w' => e = .returned (.string x) ∧ Below b w w' := by
  have C := Tryd.Builder_String_any b b x.data.toList w h hBw
  have e : (⟨x.data.toList.toArray⟩ : ByteArray) = x := by simp
  rw [e] at C
  exact C
theorem kept_block {e t : TypeId} {b k : Nat} {w w' : World} {cs : Array Value} {fr : Nat × Nat} (h : Lib.OthersKept e (some b) w w') (hk : w.heap[k]? = some (.cells cs t fr)) (hb : k ≠ b) (ht : t ≠ e) : w'.heap[k]? = w.heap[k]? := by
  rw [h k _ hk (fun h' => hb (Option.some.inj h')) (fun c fz h' => ht (by injection h')), hk]

end Go.Proofs.YtcehppndpccldaaDoor

namespace Go.Proofs.YtcehppndpccldaaDoor
open Go.RowKit

/-- A form in memory. -/
structure FmA (w : World) (f : Fm) (na ta : Option Addr) (nb tb : Nat) : Prop where
  nAt : 0 < f.needs.length → na = some ⟨nb, 0, none⟩
  need : ∀ k (h : k < f.needs.length), w.cell? ⟨nb, k, none⟩ = some (.int .i64 (f.needs[k] : Int))
  tAt : 0 < f.texts.length → ta = some ⟨tb, 0, none⟩
  text : ∀ k (h : k < f.texts.length), w.cell? ⟨tb, k, none⟩ = some (.string f.texts[k])
theorem FmA.below {w w' : World} {f : Fm} {na ta : Option Addr} {nb tb : Nat} (h : FmA w f na ta nb tb) (hb : Below w.heap.size w w') : FmA w' f na ta nb tb :=
  ⟨h.nAt, fun k hk => (hb.cell (p := ⟨nb, k, none⟩) (World.block_lt_of_cell? _ _ (h.need k hk))).trans (h.need k hk), h.tAt, fun k hk => (hb.cell (p := ⟨tb, k, none⟩) (World.block_lt_of_cell? _ _ (h.text k hk))).trans (h.text k hk)⟩
def fmV (f : Fm) (na ta : Option Addr) (nc tc : Nat) : Value := .agg #[.int .i64 f.lev, .slice na f.needs.length nc, .slice ta f.texts.length tc]

theorem ar_step {ns : List Nat} {ts : List ByteArray} {ps : List Wh} {k : Nat} (h1 : k < ns.length) (h2 : k < ts.length) (h3 : k < ps.length) : arnd (ns.drop k) (ts.drop k) (ps.drop k) = ts[k] ++ brk ns[k] ps[k] ++ arnd (ns.drop (k + 1)) (ts.drop (k + 1)) (ps.drop (k + 1)) := by
  rw [List.drop_eq_getElem_cons h1, List.drop_eq_getElem_cons h2, List.drop_eq_getElem_cons h3, arnd]
theorem ar_last {ns : List Nat} {ts : List ByteArray} {ps : List Wh} {k : Nat} (h1 : ns.length = k) (h2 : ts.length = k + 1) : arnd (ns.drop k) (ts.drop k) (ps.drop k) = ts[k]'(by omega) := by
  rw [List.drop_eq_nil_of_le (by omega), List.drop_eq_getElem_cons (by omega)]
  cases ps.drop k <;> rfl
theorem ar_size {ns : List Nat} {ts : List ByteArray} {ps : List Wh} : ∀ {k : Nat} {x R : ByteArray}, x ++ arnd (ns.drop k) (ts.drop k) (ps.drop k) = R → x.size ≤ R.size := fun h => by
  rw [← h, ByteArray.size_append]
  omega

/-- The two cells of the answer are written, and the answer is read of them. -/
theorem wh_ret {W : World} {X : Nat} {f : Nat → Value} (R : W.rowIs X 100 2 f) (a b : Value) (tmps : Array Value) (h4 : tmps[4]?.getD undef = .pointer (some ⟨X, 0, none⟩)) :
    (results Tryd.f59 tmps).run Tryd.prog ((W.setCell ⟨X, 0, none⟩ a).setCell ⟨X, 1, none⟩ b) = .ok (.agg #[a, b]) ((W.setCell ⟨X, 0, none⟩ a).setCell ⟨X, 1, none⟩ b) := by
  have r := (R.set 0 a).set 1 b
  obtain ⟨V, hV⟩ : ∃ V, V = (W.setCell ⟨X, 0, none⟩ a).setCell ⟨X, 1, none⟩ b := ⟨_, rfl⟩
  rw [← hV] at r ⊢
  clear hV R
  have c0 : V.cell? ⟨X, 0, none⟩ = some a := r.cell (i := 0) (by omega)
  have c1 : V.cell? ⟨X, 1, none⟩ = some b := r.cell (i := 1) (by omega)
  unfold results
  rw [show Tryd.f59.results = #[.cell 4 100] from rfl]
  simp [go_sem, h4, c0, c1]

set_option maxRecDepth 100000 in
set_option maxHeartbeats 4000000 in
theorem p_around (w : World) {f : Fm} {na ta a : Option Addr} {nb tb nc tc g o c : Nat} {ps : List Wh} (hf : FmA w f na ta nb tb) (hp : WhA w a g o ps) (hn : ps.length = f.needs.length) (ht : f.texts.length = f.needs.length + 1) (hl : ps.length ≤ 1048576) (hlc : f.needs.length ≤ nc) (hltc : f.texts.length ≤ tc) (hc : ps.length ≤ c) (hR : (arnd f.needs f.texts ps).size ≤ 1000000000) :
    Calls Tryd.prog 59 #[fmV f na ta nc tc, .slice a ps.length c] w fun e w' => e = .returned (.agg #[.string (arnd f.needs f.texts ps), .int .i64 f.lev]) ∧ Below w.heap.size w w' := by
  obtain ⟨R, hRR⟩ : ∃ R, R = arnd f.needs f.texts ps := ⟨_, rfl⟩
  rw [← hRR] at hR ⊢
  unfold fmV
  obtain ⟨n, hnn⟩ : ∃ n, n = ps.length := ⟨_, rfl⟩
  have hln : f.needs.length = n := by omega
  have hlt : f.texts.length = n + 1 := by omega
  have HF : Hid (∀ W, Below w.heap.size w W → FmA W f na ta nb tb) := fun W hb => hf.below hb
  have HP : Hid (∀ W, Below w.heap.size w W → WhA W a g o ps) := fun W hb => hp.below hb
  have HST : Hid (∀ k (h1 : k < f.needs.length) (h2 : k < f.texts.length) (h3 : k < ps.length) (x : ByteArray), x ++ arnd (f.needs.drop k) (f.texts.drop k) (ps.drop k) = R → (x ++ f.texts[k]) ++ brk f.needs[k] ps[k] ++ arnd (f.needs.drop (k + 1)) (f.texts.drop (k + 1)) (ps.drop (k + 1)) = R) := fun k h1 h2 h3 x hx => by
    rw [← hx, ar_step h1 h2 h3]
    simp only [ByteArray.append_assoc]
  have HLA : Hid (∀ (h2 : n < f.texts.length) (x : ByteArray), x ++ arnd (f.needs.drop n) (f.texts.drop n) (ps.drop n) = R → x ++ f.texts[n] = R) := fun h2 x hx => by
    rw [← hx, ar_last hln hlt]
  have HNL : Hid (ps.length = n) := hnn.symm
  rw [hln, hlt, ← hnn]
  rw [hln] at hlc
  rw [hlt] at hltc
  rw [← hnn] at hc
  have HLN : Hid (f.needs.length = n) := hln
  have HLT : Hid (f.texts.length = n + 1) := hlt
  have H0 : Hid (e0 ++ arnd (f.needs.drop 0) (f.texts.drop 0) (ps.drop 0) = R) := by show _ = _; rw [hRR]; exact em_app _
  have hn1 : n ≤ 1048576 := by omega
  clear hRR hf hp hn ht hl hnn hln hlt
  obtain ⟨lev, hlev⟩ : ∃ l : Nat, l = f.lev := ⟨_, rfl⟩
  rw [← hlev]
  clear hlev
  obtain ⟨Z, hZ⟩ : ∃ Z, Z = ((w.alloc (.cells #[.int .i64 lev, .slice na n nc, .slice ta (n + 1) tc] 97)).alloc (.cells #[.string ⟨#[]⟩, .int .i64 0] 100)).alloc (.cells #[.pointer none, .slice none 0 0] 115) := ⟨_, rfl⟩
  go_enter Tryd.func59, Tryd.ntmps59
  go_wp2
  rw [← hZ]
  obtain ⟨B, hB⟩ : ∃ B, B = w.heap.size + 1 + 1 := ⟨_, rfl⟩
  have hZs : Z.heap.size = B + 1 := by rw [hZ, hB]; simp
  have HBZ : Hid (Below w.heap.size w Z) := by rw [hZ]; exact (bel2 w _ _).alloc (by simp; omega) _
  have HZB : Hid (Bld Z B ⟨#[]⟩) := by
    have := Bld.new ((w.alloc (.cells #[.int .i64 lev, .slice na n nc, .slice ta (n + 1) tc] 97)).alloc (.cells #[.string ⟨#[]⟩, .int .i64 0] 100))
    rw [← hZ] at this
    have e : ((w.alloc (.cells #[.int .i64 lev, .slice na n nc, .slice ta (n + 1) tc] 97)).alloc (.cells #[.string ⟨#[]⟩, .int .i64 0] 100)).heap.size = B := by rw [hB]; simp
    rw [e] at this
    exact this
  have HZF : Hid (∀ W, Below B Z W → W.cell? ⟨w.heap.size, 0, none⟩ = some (.int .i64 (lev : Int)) ∧ W.cell? ⟨w.heap.size, 1, none⟩ = some (.slice na n nc) ∧ W.cell? ⟨w.heap.size, 2, none⟩ = some (.slice ta (n + 1) tc)) := fun W hb => by
    have r3 := World.rowIs_alloc w #[.int .i64 lev, .slice na n nc, .slice ta (n + 1) tc] 97 (fun i => if i = 0 then .int .i64 lev else if i = 1 then .slice na n nc else .slice ta (n + 1) tc) (fun i hi => by
      match i, hi with
      | 0, _ => rfl
      | 1, _ => rfl
      | 2, _ => rfl)
    have r4 := r3.of_block ((bel2 (w.alloc (.cells #[.int .i64 lev, .slice na n nc, .slice ta (n + 1) tc] 97)) (.cells #[.string ⟨#[]⟩, .int .i64 0] 100) (.cells #[.pointer none, .slice none 0 0] 115)).block _ r3.lt)
    rw [← hZ] at r4
    have r5 := r4.of_block (hb.block _ (by omega))
    exact ⟨r5.cell (i := 0) (by show 0 < 3; omega), r5.cell (i := 1) (by show 1 < 3; omega), r5.cell (i := 2) (by show 2 < 3; omega)⟩
  have HZR : Hid (Z.rowIs (w.heap.size + 1) 100 2 (v2 (.string ⟨#[]⟩) (.int .i64 0))) := by
    have r2 := row2 (w.alloc (.cells #[.int .i64 lev, .slice na n nc, .slice ta (n + 1) tc] 97)) (.string ⟨#[]⟩) (.int .i64 0) 100
    have r4 := r2.of_block ((bel1 ((w.alloc (.cells #[.int .i64 lev, .slice na n nc, .slice ta (n + 1) tc] 97)).alloc (.cells #[.string ⟨#[]⟩, .int .i64 0] 100)) (.cells #[.pointer none, .slice none 0 0] 115)).block _ r2.lt)
    rw [← hZ] at r4
    have e : (w.alloc (.cells #[.int .i64 lev, .slice na n nc, .slice ta (n + 1) tc] 97)).heap.size = w.heap.size + 1 := by simp
    rw [e] at r4
    exact r4
  rw [← hB]
  have hB2 : w.heap.size + 1 < B := by omega
  have hZs2 : B + 1 ≤ Z.heap.size := by omega
  clear hZ hB hZs
  go_loopw [10] (fun i wr => ∃ (k : Nat) (x : ByteArray), k ≤ n ∧ i = .int .i64 k ∧ Hid (x ++ arnd (f.needs.drop k) (f.texts.drop k) (ps.drop k) = R) ∧ Hid (Bld wr (B) x) ∧ Hid (Below (B) Z wr)) (fun i _ => n - (intOf i).toNat)
  case atStart => exact ⟨0, _, Nat.zero_le _, rfl, H0, HZB, Below.refl _ _⟩
  case round =>
    clear H0 HZB
    obtain ⟨k, x, hk, rfl, HX, HB, HW⟩ := hrel
    obtain ⟨y0, y1, y2⟩ := HZF.out wr HW.out
    have HWw : Hid (Below w.heap.size w wr) := HBZ.out.trans (HW.out.mono (by omega))
    have F := HF.out wr HWw.out
    have hBw : B < wr.heap.size := by have := HW.out.size; omega
    by_cases hlt : k < n
    · have l1 := HLN.out
      have l2 := HLT.out
      have l3 := HNL.out
      have P := HP.out wr HWw.out
      have ean := F.nAt (by omega)
      have eat := F.tAt (by omega)
      have eap := P.at_ (by omega)
      have q0 := F.need k (by omega)
      have q1 := F.text k (by omega)
      have q2 := P.txt k (by omega)
      have q3 := P.lev k (by omega)
      have HS := HST.out k (by omega) (by omega) (by omega) x HX.out
      obtain ⟨nd, hnd⟩ : ∃ m, m = f.needs[k]'(by omega) := ⟨_, rfl⟩
      obtain ⟨t, htt⟩ : ∃ m, m = f.texts[k]'(by omega) := ⟨_, rfl⟩
      obtain ⟨X, hX⟩ : ∃ m, m = ps[k]'(by omega) := ⟨_, rfl⟩
      rw [← hnd, ← htt, ← hX] at HS
      rw [← hnd] at q0
      rw [← htt] at q1
      rw [← hX] at q2 q3
      have HS2 : Hid (((x ++ t) ++ brk nd X) ++ arnd (f.needs.drop (k + 1)) (f.texts.drop (k + 1)) (ps.drop (k + 1)) = R) := HS
      have hsz : (x ++ t).size + (brk nd X).size ≤ 1000000000 := by
        rw [← HS2.out, ByteArray.size_append, ByteArray.size_append] at hR
        omega
      have hxt : x.size + t.size ≤ 1000000000 := by rw [ByteArray.size_append] at hsz; omega
      have hkl : (k : Int) < (n : Int) := by omega
      have hkl2 : (k : Int) < (n : Int) + 1 := by omega
      have hk0 : (0 : Int) ≤ (k : Int) := by omega
      have NEED : Hid (∀ W, Below w.heap.size w W → W.cell? ⟨nb, k, none⟩ = some (.int .i64 (nd : Int))) := fun W hb => by rw [hnd]; exact (HF.out W hb).need k (by omega)
      clear hnd htt hX HS F P l1 l2 l3
      subst ean eat eap
      have BX := row2 wr (.string X.1) (.int .i64 (X.2 : Int)) 100
      obtain ⟨w1, hw1⟩ : ∃ W, W = wr.alloc (.cells #[.string X.1, .int .i64 (X.2 : Int)] 100) := ⟨_, rfl⟩
      have HW1 : Hid (Below B Z w1) := by rw [hw1]; exact HW.out.alloc (by omega) _
      have HBD1 : Hid (Bld w1 B x) := by rw [hw1]; exact HB.out.below (bel1 _ _)
      have hs1 : wr.heap.size + 1 ≤ w1.heap.size := by rw [hw1]; simp
      rw [← hw1] at BX
      have C1 := p_put B x t w1 HBD1.out (by omega) (by omega)
      have HQ : Hid (∀ W, Below B w1 W → Lib.OthersKept 5 (some B) w1 W → Hid (Below B Z W) ∧ W.cell? ⟨w.heap.size, 1, none⟩ = some (.slice (some ⟨nb, 0, none⟩) n nc) ∧ W.cell? ⟨nb, k, none⟩ = some (.int .i64 (nd : Int)) ∧ W.cell? ⟨wr.heap.size, 0, none⟩ = some (.string X.1) ∧ W.cell? ⟨wr.heap.size, 1, none⟩ = some (.int .i64 (X.2 : Int))) := fun W hb ho => by
        have hbz : Below B Z W := HW1.out.trans (hb.mono (Nat.le_refl _))
        obtain ⟨cs, hcs, _⟩ := id BX
        have kb := kept_block ho hcs (by omega) (by decide)
        have BW := BX.of_block kb
        refine ⟨hbz, (HZF.out W hbz).2.1, ?_, BW.cell (i := 0) (by omega), BW.cell (i := 1) (by omega)⟩
        have hbw : Below w.heap.size w W := HBZ.out.trans (hbz.mono (by omega))
        exact NEED.out W hbw
      have q4 : (wr.alloc (.cells #[.string X.1, .int .i64 (X.2 : Int)] 100)).cell? ⟨w.heap.size, 2, none⟩ = some (.slice (some ⟨tb, 0, none⟩) (n + 1) tc) := by rw [← hw1]; exact (HZF.out w1 HW1.out).2.2
      have q5 : (wr.alloc (.cells #[.string X.1, .int .i64 (X.2 : Int)] 100)).cell? ⟨tb, k, none⟩ = some (.string t) := ((bel1 wr _).cell (p := ⟨tb, k, none⟩) (World.block_lt_of_cell? _ _ q1)).trans q1
      go_wp2_with fail
      rw [← hw1]
      refine C1.mono ?_
      rintro e w2 ⟨rfl, D2, B2, O2⟩
      obtain ⟨HB2, g0, g1, g2, g3⟩ := HQ.out w2 B2 O2
      have HD2 : Hid (Bld w2 B (x ++ t)) := D2
      have hw2 : B < w2.heap.size := by have := B2.size; omega
      clear C1 BX hw1 HW1 HBD1 D2 B2 O2 HQ q0 q1 q2 q3 q4 q5 y0 y1 y2 HB HW HWw
      by_cases hlv : X.2 < nd
      · have HBK : Hid (brk nd X = ((⟨#[40]⟩ : ByteArray) ++ X.1) ++ (⟨#[41]⟩ : ByteArray)) := by show _ = _; unfold brk; rw [if_pos hlv]; rfl
        have z0 : (⟨#[40]⟩ : ByteArray).size = 1 := rfl
        have z1 : (⟨#[41]⟩ : ByteArray).size = 1 := rfl
        have hb3 := hsz
        simp only [HBK.out, ByteArray.size_append, z0, z1] at hb3
        have c1 := fun W => run_string_add_sum (P := Tryd.prog) (w := W) (⟨#[40]⟩ : ByteArray) X.1 (by rw [z0]; omega)
        have c2 := fun W => run_string_add_sum (P := Tryd.prog) (w := W) ((⟨#[40]⟩ : ByteArray) ++ X.1) (⟨#[41]⟩ : ByteArray) (by rw [ByteArray.size_append, z0, z1]; omega)
        clear hb3
        have li : (X.2 : Int) < (nd : Int) := by omega
        have CP : Hid (∀ j, Calls Tryd.prog 73 #[.pointer (some ⟨B, 0, none⟩), .string (((⟨#[40]⟩ : ByteArray) ++ X.1) ++ (⟨#[41]⟩ : ByteArray))] (w2.drewN j) fun e w' => e = .returned (.tuple #[.int .i64 (((⟨#[40]⟩ : ByteArray) ++ X.1) ++ (⟨#[41]⟩ : ByteArray)).size, .nilIface]) ∧ Hid (Bld w' B ((x ++ t) ++ brk nd X)) ∧ Hid (Below B Z w')) := fun j => by
          have h0 := p_put B (x ++ t) (((⟨#[40]⟩ : ByteArray) ++ X.1) ++ (⟨#[41]⟩ : ByteArray)) (w2.drewN j) (HD2.out.below (below_drewN' _ _)) (by rw [← HBK.out]; omega) (by show B ≤ w2.heap.size; omega)
          rw [HBK.out]
          exact h0.mono fun e w' h => ⟨h.1, h.2.1, HB2.out.trans ((below_drewN (Below.refl _ _) j).trans h.2.2.1)⟩
        clear HBK hlv
        go_wp2
        go_quiet (fail)
        go_wp2_with fail
        refine (CP.out _).mono ?_
        rintro e w3 ⟨rfl, HD3, HB3⟩
        clear CP
        go_wp2
        go_roundw
        case rel => exact ⟨k + 1, (x ++ t) ++ brk nd X, by omega, by go_num, HS2, HD3, HB3⟩
        case measure => simp [intOf]; omega
      · have HBK : Hid (brk nd X = X.1) := by show _ = _; unfold brk; rw [if_neg hlv]
        have li : ¬ (X.2 : Int) < (nd : Int) := by omega
        have CP : Hid (∀ j, Calls Tryd.prog 73 #[.pointer (some ⟨B, 0, none⟩), .string X.1] (w2.drewN j) fun e w' => e = .returned (.tuple #[.int .i64 X.1.size, .nilIface]) ∧ Hid (Bld w' B ((x ++ t) ++ brk nd X)) ∧ Hid (Below B Z w')) := fun j => by
          have h0 := p_put B (x ++ t) X.1 (w2.drewN j) (HD2.out.below (below_drewN' _ _)) (by rw [← HBK.out]; omega) (by show B ≤ w2.heap.size; omega)
          rw [HBK.out]
          exact h0.mono fun e w' h => ⟨h.1, h.2.1, HB2.out.trans ((below_drewN (Below.refl _ _) j).trans h.2.2.1)⟩
        clear HBK hlv
        go_wp2
        go_quiet (fail)
        go_wp2_with fail
        refine (CP.out _).mono ?_
        rintro e w3 ⟨rfl, HD3, HB3⟩
        clear CP
        go_wp2
        go_roundw
        case rel => exact ⟨k + 1, (x ++ t) ++ brk nd X, by omega, by go_num, HS2, HD3, HB3⟩
        case measure => simp [intOf]; omega
    · have hkn : k = n := by omega
      subst hkn
      have l2 := HLT.out
      have eat := F.tAt (by omega)
      have q1 := F.text k (by omega)
      have HS := HLA.out (by omega) x HX.out
      obtain ⟨t, htt⟩ : ∃ m, m = f.texts[k]'(by omega) := ⟨_, rfl⟩
      rw [← htt] at HS q1
      have HS2 : Hid (x ++ t = R) := HS
      have hxt : x.size + t.size ≤ 1000000000 := by rw [← HS2.out, ByteArray.size_append] at hR; exact hR
      have C1 := p_put B x t wr HB.out (by omega) (by omega)
      have HRR : Hid (wr.rowIs (w.heap.size + 1) 100 2 (v2 (.string ⟨#[]⟩) (.int .i64 0))) := HZR.out.of_block (HW.out.block _ (by omega))
      have hkl : (k : Int) < (k : Int) + 1 := by omega
      have hk0 : (0 : Int) ≤ (k : Int) := by omega
      clear htt HS F l2
      subst eat
      go_wp2_with fail
      refine C1.mono ?_
      rintro e w2 ⟨rfl, D2, B2, O2⟩
      have HB2 : Hid (Below B Z w2) := HW.out.trans B2
      have HD2 : Hid (Bld w2 B R) := by rw [← HS2.out]; exact D2
      have HR2 : Hid (w2.rowIs (w.heap.size + 1) 100 2 (v2 (.string ⟨#[]⟩) (.int .i64 0))) := HRR.out.of_block (B2.block _ (by omega))
      have hw2 : B < w2.heap.size := by have := B2.size; omega
      have g0 := (HZF.out w2 HB2.out).1
      clear C1 D2 B2 O2 q1 y0 y1 y2 HB HW HWw HRR
      have CS : Hid (Calls Tryd.prog 74 #[.pointer (some ⟨B, 0, none⟩)] w2.drew fun e w' => e = .returned (.string R) ∧ Below B w2 w') := (p_string B R w2.drew (HD2.out.below (Below.refl _ _).drew) (by show B ≤ w2.heap.size; omega)).mono fun e w' h => ⟨h.1, (Below.refl B w2).drew.trans h.2⟩
      have CS' := CS.out
      go_wp2
      go_region_held3 (fun w' => w'.cell? ⟨w.heap.size, 0, none⟩ = some (.int .i64 (lev : Int))) (go_keep) (first
        | (go_at_call 74; (with_reducible refine CS'.mono ?_); rintro r0 u0 ⟨rfl, V0⟩; have m0 := (HZF.out u0 (HB2.out.trans V0)).1; have R0 := HR2.out.of_block (V0.block _ (by omega)); have r0 := R0.cell (i := 0) (by omega); have r1 := R0.cell (i := 1) (by omega); have f0 := R0.frozen 0; have f1 := R0.frozen 1))
      all_goals
        have HBL : Hid (Below w.heap.size w u0) := HBZ.out.trans ((HB2.out.trans V0).mono (by omega))
        have HR0 : Hid (u0.rowIs (w.heap.size + 1) 100 2 (v2 (.string ⟨#[]⟩) (.int .i64 0))) := R0
        clear V0 R0 m0 r0 r1 f0 f1 CS CS' g0
        go_wp2
        refine bodyPost_ret (wh_ret HR0.out _ _ _ rfl) rfl ?_
        exact ⟨rfl, (HBL.out.setCell (p := ⟨w.heap.size + 1, 0, none⟩) (by show w.heap.size ≤ w.heap.size + 1; omega) _).setCell (p := ⟨w.heap.size + 1, 1, none⟩) (by show w.heap.size ≤ w.heap.size + 1; omega) _⟩

end Go.Proofs.YtcehppndpccldaaDoor

namespace Go.Proofs.YtcehppndpccldaaDoor
open Go.RowKit

/-- A form that a function gives. -/
def FmR (w : World) (f : Fm) (e : Ending) (w' : World) : Prop := ∃ (na ta : Option Addr) (nb tb nc tc : Nat), e = .returned (fmV f na ta nc tc) ∧ FmA w' f na ta nb tb ∧ f.needs.length ≤ nc ∧ f.texts.length ≤ tc ∧ w.heap.size ≤ nb ∧ w.heap.size ≤ tb ∧ Below w.heap.size w w'

def v3 (a b c : Value) : Nat → Value := fun i => if i = 0 then a else if i = 1 then b else c
theorem row3 (w : World) (a b c : Value) (t : TypeId) : (w.alloc (.cells #[a, b, c] t)).rowIs w.heap.size t 3 (v3 a b c) :=
  World.rowIs_alloc w #[a, b, c] t _ (fun i hi => by
    match i, hi with
    | 0, _ => rfl
    | 1, _ => rfl
    | 2, _ => rfl)
/-- The answer is read of its three cells. -/
theorem br_read {V : World} {X : Nat} {a b c : Value} (r : V.rowIs X 97 3 (v3 a b c)) (tmps : Array Value) (h6 : tmps[6]?.getD undef = .pointer (some ⟨X, 0, none⟩)) :
    (results Tryd.f63 tmps).run Tryd.prog V = .ok (.agg #[a, b, c]) V := by
  have c0 : V.cell? ⟨X, 0, none⟩ = some a := r.cell (i := 0) (by omega)
  have c1 : V.cell? ⟨X, 1, none⟩ = some b := r.cell (i := 1) (by omega)
  have c2 : V.cell? ⟨X, 2, none⟩ = some c := r.cell (i := 2) (by omega)
  unfold results
  rw [show Tryd.f63.results = #[.cell 6 97] from rfl]
  simp [go_sem, h6, c0, c1, c2]

set_option maxRecDepth 100000 in
set_option maxHeartbeats 1000000 in
theorem p_braces_nil (w : World) (a : Option Addr) (c : Nat) (sign : ByteArray) (lev : Nat) :
    Calls Tryd.prog 63 #[.slice a 0 c, .string sign, .int .i64 (lev : Int)] w (FmR w (brc [] sign lev)) := by
  go_enter Tryd.func63, Tryd.ntmps63
  go_wp2
  have r3 := row3 w (.int .i64 (lev : Int)) (.slice none 0 0) (.slice (some ⟨w.heap.size + 1, 0, none⟩) 1 1) 97
  have r4 := r3.of_block ((bel1 _ (.cells #[.string ⟨#[123, 125]⟩] 9)).block _ r3.lt)
  have r1 := row1 (w.alloc (.cells #[.int .i64 (lev : Int), .slice none 0 0, .slice (some ⟨w.heap.size + 1, 0, none⟩) 1 1] 97)) (.string ⟨#[123, 125]⟩) 9
  have e : (w.alloc (.cells #[.int .i64 (lev : Int), .slice none 0 0, .slice (some ⟨w.heap.size + 1, 0, none⟩) 1 1] 97)).heap.size = w.heap.size + 1 := by simp
  rw [e] at r1
  refine bodyPost_ret (br_read r4 _ rfl) rfl ?_
  refine ⟨none, some ⟨w.heap.size + 1, 0, none⟩, w.heap.size + 1, w.heap.size + 1, 0, 1, rfl, ⟨fun h => absurd h (Nat.lt_irrefl _), fun k h => absurd h (Nat.not_lt_zero _), fun _ => rfl, fun k h => ?_⟩, Nat.le_refl _, Nat.le_refl _, by omega, by omega, bel2 _ _ _⟩
  have hk : k = 0 := by
    have : k < 1 := h
    omega
  subst hk
  exact r1.cell (i := 0) (by omega)

end Go.Proofs.YtcehppndpccldaaDoor

