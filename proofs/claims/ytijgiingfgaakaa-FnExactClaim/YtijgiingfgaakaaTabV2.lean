/-
  Tables: the program's copies of lists and slots.
-/
import Derived.Test.YtijgiingfgaakaaTabV
import Derived.Test.YtijgiingfgaakaaTabSz
namespace Go.Proofs.Ytijgiingfgaakaa
open Go.RowKit

set_option maxRecDepth 100000 in
set_option maxHeartbeats 2000000 in
theorem t_growS (n : Nat) (w : World) (hn : n ≤ 1048576) :
    Calls Try.prog 73 #[.slice none 0 0, .int .i64 (n : Int)] w fun e w' => ∃ sv, e = .returned sv ∧ w'.ownsRow w.heap.size 40 9 sv 0 [] ∧ Below w.heap.size w w' := by
  by_cases h0 : n = 0
  · subst h0
    go_enter Try.func73, Try.ntmps73
    go_wp2
    go_ret
    exact ⟨_, rfl, World.ownsRow_nil _ _ _ _, Below.refl _ _⟩
  · obtain ⟨i0, hi0, hz0, hz1, hz2⟩ := info_parts' Try.info40
    have hold : (Builtin.firstCells i0.size 0 (.slice none 0 0)).run Try.prog w.drew = .ok ([] : List Value).toArray w.drew := run_firstCells_none w.drew i0.size 0 0 0
    have hrz : ∀ ty, (Builtin.append_ #[26, 3] ty #[.slice none 0 0, .int .i64 (n : Int)]).run Try.prog w = _ := fun ty => Lib.run_append_grow_zeros w 26 3 ty 40 i0 _ .i64 .i64 Try.underlying26 Try.underlying3 hi0 hz0 none 0 0 [] hold n (by omega) (by omega) (by omega) (by omega) (by rw [hz2]; omega) (by rw [hz2]; exact growslice_fits (by omega) (by omega))
    rw [Nat.zero_add] at hrz
    obtain ⟨G, hG⟩ : ∃ G, G = grownCap w n 0 40 := ⟨_, rfl⟩
    have hGn : n ≤ G := by rw [hG]; exact grownCap_ge w _ _ _
    have hGm : G ≤ maxLen := by rw [hG]; exact grownCap_le_maxLen w n 0 40 (by unfold maxLen; omega)
    rw [← hG] at hrz
    obtain ⟨cs, hcs⟩ : ∃ cs, cs = (([] : List Value).toArray ++ Builtin.zeroCells (Value.agg #[.int .i64 0, .string ByteArray.empty, .bool false, .string ByteArray.empty, .slice none 0 0, .int .i64 0, .int .i64 0, .int .i64 0, .int .i64 0]).cells n ++ Builtin.zeroCells (Value.agg #[.int .i64 0, .string ByteArray.empty, .bool false, .string ByteArray.empty, .slice none 0 0, .int .i64 0, .int .i64 0, .int .i64 0, .int .i64 0]).cells (G - n)) := ⟨_, rfl⟩
    rw [← hcs] at hrz
    have hsz : cs.size = G * 9 := by rw [hcs]; simp [size_zeroCells, Value.cells]; omega
    have HF : Hid ((w.drew.alloc (.cells cs 40)).ownsRow w.heap.size 40 9 (.slice (some ⟨w.heap.size, 0, none⟩) 0 G) 0 [] ∧ Below w.heap.size w (w.drew.alloc (.cells cs 40))) :=
      ⟨World.ownsRow_made w.drew cs G (Nat.le_refl _) hGm hsz, (Below.refl _ _).drew.alloc (Nat.le_refl _) _⟩
    have hn0 : (0 : Int) < (n : Int) := by omega
    have hG63 : (G : Int) ≤ 9223372036854775807 := by unfold maxLen at hGm; omega
    clear hcs hG hGm hsz hold
    go_enter Try.func73, Try.ntmps73
    go_wp2_with (at_builtin; refine Lib.wpList_append_run _ rfl _ _ _ _ rfl _ _ rfl rfl _ _ (hrz _) ?_)
    go_ret
    exact ⟨_, rfl, HF.out.1, HF.out.2⟩

set_option maxRecDepth 100000 in
set_option maxHeartbeats 4000000 in
theorem t_newKeys (ao : Option Addr) (b o n c : Nat) (K : Nat → Int) (M : Nat → ByteArray) (w : World) (h1 : KeysAt w ao b o n K M) (hn : n ≤ 1048576) (hM : ∀ i, i < n → (M i).size ≤ 1048576) :
    Calls Try.prog 78 #[.slice ao n c] w fun e w' => ∃ oa cap, e = .returned (.slice oa n cap) ∧ w'.ownsRow w.heap.size 37 2 (.slice oa n cap) n (kcells K M n) ∧ Below w.heap.size w w' := by
  obtain ⟨i0, hi0, hz0, hz1, hz2⟩ := info_parts' Try.info37
  have HB : Hid (∀ w', Below w.heap.size w w' → KeysAt w' ao b o n K M) := fun w' hb => h1.below hb
  have A1 := h1.at_
  have HM : Hid (∀ i, i < n → (M i).size ≤ 1048576) := hM
  clear h1 hM
  go_enter Try.func78, Try.ntmps78
  go_wp2_with fail
  refine (t_growK n _ hn).mono ?_
  rintro e w0 ⟨sv, rfl, O0, hb0⟩
  have OWN0 : Hid (w0.ownsRow w.heap.size 37 2 sv 0 (kcells K M 0)) := O0
  have HB0 : Hid (Below w.heap.size w w0) := hb0
  clear O0 hb0
  go_wp2
  go_loopw [3, 11] (fun s i wr => ∃ k : Nat, k ≤ n ∧ i = .int .i64 k ∧ Hid (wr.ownsRow w.heap.size 37 2 s k (kcells K M k)) ∧ Hid (Below w.heap.size w wr)) (fun _ i _ => n - (intOf i).toNat)
  case atStart => exact ⟨0, Nat.zero_le _, rfl, OWN0, HB0⟩
  case round =>
    clear OWN0 HB0
    obtain ⟨k, hk, rfl, OW, HW⟩ := hrel
    obtain ⟨oa, cap, rfl⟩ := own_form OW.out
    by_cases hlt : k < n
    · have e1 := A1 (by omega)
      have q1 := HB.out wr HW.out
      have g0 := q1.c0 k hlt
      have g1 := q1.c1 k hlt
      clear q1
      subst e1
      have hws := HW.out.size
      go_wp2_with fail
      refine (t_newKey (K k) (M k) _ (HM.out k hlt)).mono ?_
      rintro e w1 ⟨rfl, hb1⟩
      have C1 : Hid (Below wr.heap.size wr w1) := (bel1 wr _).trans (hb1.mono (by simp))
      have HW1 : Hid (Below w.heap.size w w1) := HW.out.trans (C1.out.mono hws)
      have OW1 : Hid (w1.ownsRow w.heap.size 37 2 (.slice oa k cap) k (kcells K M k)) := own_below OW.out C1.out
      have hws1 := HW1.out.size
      clear hb1 C1 OW HW g0 g1
      go_wp2_with (first | (at_builtin; refine wpList_append_lies _ rfl _ _ 38 rfl w.heap.size 37 i0 _ 2 24 Try.underlying38 hi0 hz0 hz1 hz2 rfl (by omega) (.slice oa k cap) k (kcells K M k) rfl (OW1.out.alloc _) ⟨w1.heap.size, 0, none⟩ 1 1 [.int .i64 (K k), .string (M k)] rfl rfl (World.news_of_block (cs := #[.int .i64 (K k), .string (M k)]) (t := 37) (fr := (0, 0)) (heap_alloc_new w1 _)) (by simp [Value.oneCell']) (by omega) (by unfold maxLen; omega) (by omega) (by simp; omega) (w1.heap.size + 1) (by simp) ?_; intro gg cap3 w3 hown3 hg3 hat hlt3))
      have FIN : Hid (w3.ownsRow w.heap.size 37 2 (.slice (some ⟨gg, 0, none⟩) (k + 1) cap3) (k + 1) (kcells K M (k + 1)) ∧ Below w.heap.size w w3) := ⟨hown3, grown_below (HW1.out.alloc hws1 _) hg3 (fun x e => (OW1.out.lt x e).1)⟩
      clear hown3 hg3 hat
      go_roundw
      case rel => exact ⟨k + 1, by omega, by go_num, FIN.out.1, FIN.out.2⟩
      case measure => simp [intOf]; omega
    · have hkn : k = n := by omega
      subst hkn
      go_wp2
      go_ret
      exact ⟨_, _, rfl, OW.out, HW.out⟩

/-- The nine cells of an entry. -/
def Ent (w : World) (eb eo : Nat) (p : SP) (d : SD) : Prop :=
  w.cell? ⟨eb, eo, none⟩ = some (.int .i64 d.k) ∧ w.cell? ⟨eb, eo + 1, none⟩ = some (.string d.m) ∧ w.cell? ⟨eb, eo + 2, none⟩ = some (.int .i64 d.sin) ∧ w.cell? ⟨eb, eo + 3, none⟩ = some (.int .i64 d.own) ∧ w.cell? ⟨eb, eo + 4, none⟩ = some (.bool d.has) ∧ w.cell? ⟨eb, eo + 5, none⟩ = some (.string d.v) ∧ w.cell? ⟨eb, eo + 6, none⟩ = some (.slice p.a d.n p.c) ∧ w.cell? ⟨eb, eo + 7, none⟩ = some (.int .i64 d.ver) ∧ w.cell? ⟨eb, eo + 8, none⟩ = some (.int .i64 d.chg)

theorem Ent.lt {w : World} {eb eo : Nat} {p : SP} {d : SD} (h : Ent w eb eo p d) : eb < w.heap.size := World.block_lt_of_cell? _ _ h.1
theorem Ent.of {w w' : World} {eb eo : Nat} {p : SP} {d : SD} (h : Ent w eb eo p d) (hb : w'.heap[eb]? = w.heap[eb]?) : Ent w' eb eo p d := by
  have key : ∀ {o : Nat} {v : Value}, w.cell? ⟨eb, o, none⟩ = some v → w'.cell? ⟨eb, o, none⟩ = some v := fun {o v} h => by rw [World.cell?_of_block (a := ⟨eb, o, none⟩) hb]; exact h
  obtain ⟨a0, a1, a2, a3, a4, a5, a6, a7, a8⟩ := h
  exact ⟨key a0, key a1, key a2, key a3, key a4, key a5, key a6, key a7, key a8⟩
theorem Ent.below {w w' : World} {eb eo : Nat} {p : SP} {d : SD} (h : Ent w eb eo p d) (hb : Below w.heap.size w w') : Ent w' eb eo p d := h.of (hb.block _ h.lt)

set_option maxRecDepth 100000 in
set_option maxHeartbeats 8000000 in
theorem t_slot (eb eo : Nat) (p : SP) (d : SD) (w : World) (hE : Ent w eb eo p d) (h1 : SlotAt w p d) (hs : small d) :
    Calls Try.prog 46 #[.pointer (some ⟨eb, eo, none⟩)] w fun e w' => ∃ oa cap, e = .returned (sdl d oa cap) ∧ w'.ownsRow w.heap.size 37 2 (.slice oa d.n cap) d.n (kcells d.dk d.dm d.n) ∧ Below w.heap.size w w' := by
  have R2 := row9 w (.int .i64 0) (.string ⟨#[]⟩) (.bool false) (.string ⟨#[]⟩) (.slice none 0 0) (.int .i64 0) (.int .i64 0) (.int .i64 0) (.int .i64 0) 40
  have BB := bel1 w (.cells #[.int .i64 0, .string ⟨#[]⟩, .bool false, .string ⟨#[]⟩, .slice none 0 0, .int .i64 0, .int .i64 0, .int .i64 0, .int .i64 0] 40)
  go_enter Try.func46, Try.ntmps46
  go_wp2_with fail
  obtain ⟨X, hX⟩ : ∃ X, X = w.alloc (.cells #[.int .i64 0, .string ⟨#[]⟩, .bool false, .string ⟨#[]⟩, .slice none 0 0, .int .i64 0, .int .i64 0, .int .i64 0, .int .i64 0] 40) := ⟨_, rfl⟩
  have hXz : X.heap.size = w.heap.size + 1 := by rw [hX]; simp
  rw [← hX] at R2 BB
  rw [← hX]
  clear hX
  have HX : Hid (Below w.heap.size w X ∧ Ent X eb eo p d ∧ X.rowIs w.heap.size 40 9 _ ∧ SlotAt X p d) := ⟨BB, hE.below BB, R2, h1.below BB⟩
  have a := HX.out.2.1
  unfold Ent at a
  obtain ⟨a0, a1, a2, a3, a4, a5, a6, a7, a8⟩ := a
  have CK : Hid (∀ W, Below X.heap.size X W → Calls Try.prog 76 #[.agg #[.int .i64 d.k, .string d.m]] W fun e w' => e = .returned (.agg #[.int .i64 d.k, .string d.m]) ∧ Hid (Below X.heap.size X w')) := fun W hW => (t_newKey d.k d.m W hs.1).mono fun e w' ⟨he, hb⟩ => ⟨he, hW.trans (hb.mono hW.size)⟩
  have CV : Hid (∀ W, Hid (Below X.heap.size X W) → Calls Try.prog 77 #[.string d.v] W fun e w' => e = .returned (.string d.v) ∧ Hid (Below X.heap.size X w')) := fun W hW => (t_clone d.v W hs.2.1).mono fun e w' ⟨he, hb⟩ => ⟨he, hW.out.trans (hb.mono hW.out.size)⟩
  have CD : Hid (∀ W, Hid (Below X.heap.size X W) → Calls Try.prog 78 #[.slice p.a d.n p.c] W fun e w' => ∃ oa cap, e = .returned (.slice oa d.n cap) ∧ Hid (w'.ownsRow X.heap.size 37 2 (.slice oa d.n cap) d.n (kcells d.dk d.dm d.n)) ∧ Hid (Below X.heap.size X w')) := fun W hW => (t_newKeys p.a p.b p.o d.n p.c d.dk d.dm W (HX.out.2.2.2.below hW.out).keys hs.2.2.1 hs.2.2.2).mono fun e w' ⟨oa, cap, he, hO, hb⟩ => ⟨oa, cap, he, own_weak hO hW.out.size, hW.out.trans (hb.mono hW.out.size)⟩
  have HZ : Hid (∀ W, Below X.heap.size X W → Ent W eb eo p d ∧ W.rowIs w.heap.size 40 9 _) := fun W hW => ⟨HX.out.2.1.below hW, HX.out.2.2.1.of_block (hW.block _ HX.out.2.2.1.lt)⟩
  have hne : w.heap.size ≠ eb := by have := hE.lt; omega
  clear R2 BB hE h1 hs
  go_region_held3 (fun w' => w'.cell? ⟨eb, eo, none⟩ = some (.int .i64 d.k) ∧ w'.cell? ⟨eb, eo + 1, none⟩ = some (.string d.m) ∧ w'.cell? ⟨eb, eo + 2, none⟩ = some (.int .i64 d.sin) ∧ w'.cell? ⟨eb, eo + 3, none⟩ = some (.int .i64 d.own) ∧ w'.cell? ⟨eb, eo + 4, none⟩ = some (.bool d.has) ∧ w'.cell? ⟨eb, eo + 5, none⟩ = some (.string d.v) ∧ w'.cell? ⟨eb, eo + 6, none⟩ = some (.slice p.a d.n p.c) ∧ w'.cell? ⟨eb, eo + 7, none⟩ = some (.int .i64 d.ver) ∧ w'.cell? ⟨eb, eo + 8, none⟩ = some (.int .i64 d.chg)) (go_keep)
    (first
      | (go_at_call 76; (with_reducible refine (CK.out _ (Below.refl _ _).drew).mono ?_); rintro e w2 ⟨rfl, H2⟩; obtain ⟨⟨b0, b1, b2, b3, b4, b5, b6, b7, b8⟩, -⟩ := HZ.out w2 H2.out)
      | (go_at_call 77; (with_reducible refine (CV.out _ H2).mono ?_); rintro e w3 ⟨rfl, H3⟩; obtain ⟨⟨c0, c1, c2, c3, c4, c5, c6, c7, c8⟩, -⟩ := HZ.out w3 H3.out)
      | (go_at_call 78; (with_reducible refine (CD.out _ H3).mono ?_); rintro e w4 ⟨oa, cap, rfl, O4, H4⟩; obtain ⟨⟨d0, d1, d2, d3, d4, d5, d6, d7, d8⟩, R4⟩ := HZ.out w4 H4.out; obtain ⟨m0, m1, m2, m3, m4, m5, m6, m7, m8⟩ := nine_cells R4; obtain ⟨l0, l1, l2, l3, l4, l5, l6, l7, l8⟩ := nine_frozen R4))
  all_goals
    have HH : Hid (w4.ownsRow (w.heap.size + 1) 37 2 (.slice oa d.n cap) d.n (kcells d.dk d.dm d.n) ∧ Below w.heap.size w w4) := ⟨by rw [← hXz]; exact O4.out, HX.out.1.trans (H4.out.mono HX.out.1.size)⟩
    clear a0 a1 a2 a3 a4 a5 a6 a7 a8 b0 b1 b2 b3 b4 b5 b6 b7 b8 c0 c1 c2 c3 c4 c5 c6 c7 c8 d0 d1 d2 d3 d4 d5 d6 d7 d8 CK CV CD HZ H2 H3 H4 O4 R4 HX
    go_wp2
    refine bodyPost_ret (v := .agg #[.int .i64 d.k, .string d.m, .bool d.has, .string d.v, .slice oa d.n cap, .int .i64 d.ver, .int .i64 d.chg, .int .i64 d.own, .int .i64 d.sin])
      (by simp [results, Try.results46, go_sem, m0, m1, m2, m3, m4, m5, m6, m7, m8]) rfl ⟨oa, cap, rfl, own_weak (base := w.heap.size + 1) ?_ (by omega), ?_⟩
    · repeat' (first | with_reducible exact HH.out.1 | refine own_set ?_ ?_ _)
      all_goals (simp; try omega)
    · repeat' (first | with_reducible exact HH.out.2 | refine Below.setCell ?_ ?_ _)
      all_goals (simp; try omega)

end Go.Proofs.Ytijgiingfgaakaa
