/-
  The program's printedList, of types.
-/
import Derived.Test.YtcehppndpccldaaDoorVeI
import Derived.Test.YtcehppndpccldaaDoorVaC
import Derived.Deep.DeepCutAuto
namespace Go.Proofs.YtcehppndpccldaaDoor
open Go.RowKit

set_option maxRecDepth 100000 in
set_option maxHeartbeats 8000000 in
theorem p_listT (w : World) {a : Option Addr} {c : Nat} {xs : List (TI × NPl)} (h : TsA w (.slice a xs.length c) xs) {ts : List TI} (hts : xs.map Prod.fst = ts) (hcost : cTs ts ≤ 1048576) (lim : Nat) (hlim : lim ≤ 1000000) :
    Calls Tryd.prog 41 #[.slice a xs.length c, .int .i64 (lim : Int), .func (.func 42) #[] #[]] w fun e w' => e = .returned (.tuple #[.string ((plF (fun i => (ts[i]?).bind fT) lim ts.length).getD e0), .bool (plF (fun i => (ts[i]?).bind fT) lim ts.length).isSome]) ∧ Below w.heap.size w w' := by
  have hlen : ts.length = xs.length := by rw [← hts, List.length_map]
  obtain ⟨fo, hfo⟩ : ∃ fo : Nat → Option Fm, fo = fun i => (ts[i]?).bind fT := ⟨_, rfl⟩
  obtain ⟨n, hn⟩ : ∃ n, n = xs.length := ⟨_, rfl⟩
  have hnl : n ≤ 1048576 := by rw [hn]; exact h.len
  have hat : ∀ k (hk : k < xs.length), fo k = fT xs[k].1 := fun k hk => by
    rw [hfo]
    dsimp only
    rw [← hts, List.getElem?_map, List.getElem?_eq_getElem hk]
    rfl
  have HIT : Hid (∀ W, Below w.heap.size w W → ∀ k, k < n → ∃ (g : Nat) (t : TI) (p : NPl), a = some ⟨g, 0, none⟩ ∧ (W.cell? ⟨g, k * 4, none⟩ = some (Value.int .i64 t.op) ∧ W.cell? ⟨g, k * 4 + 1, none⟩ = some (Value.string t.md) ∧ W.cell? ⟨g, k * 4 + 2, none⟩ = some (Value.string t.nm) ∧ W.cell? ⟨g, k * 4 + 3, none⟩ = some (Value.slice p.a t.ns.length p.c)) ∧ ∀ W', Below W.heap.size W W' → Calls Tryd.prog 42 #[.agg #[.int .i64 t.op, .string t.md, .string t.nm, .slice p.a t.ns.length p.c]] W' (FmG W' (fo k))) := fun W hb k hk => by
    have hk2 : k < xs.length := by omega
    obtain ⟨g, e, y0, y1, y2, y3, T⟩ := (h.below hb).item hk2
    exact ⟨g, xs[k].1, xs[k].2, e, ⟨y0, y1, y2, y3⟩, fun W' hb' => by rw [hat k hk2]; exact p_typeForm W' (T.below hb')⟩
  have HSZ : Hid (∀ k f, k < n → fo k = some f → FOk f ∧ ltF f.texts + 2 * f.needs.length ≤ 10000000) := fun k f hk hf => by
    have hk2 : k < xs.length := by omega
    rw [hat k hk2] at hf
    refine ⟨fT_ok hf, ?_⟩
    have h1 := (fT_wt hf).1
    have h2 : cT xs[k].1 ≤ (ts.map cT).sum := mem_sum cT (by rw [← hts]; exact List.mem_map_of_mem (List.getElem_mem hk2))
    have h3 : cTs ts = ts.length + (ts.map cT).sum := rfl
    omega
  obtain ⟨i0, hi0, hz0, hz1, hz2⟩ := info_parts Tryd.infoW
  rw [hlen, ← hfo, ← hn]
  clear hfo hat h hts hcost hlen hn
  go_enter Tryd.func41, Tryd.ntmps41
  go_wp2
  go_loopw [18, 8, 9] (fun i s z wr => ∃ (k m vc sz : Nat) (va : Option Addr) (st : List Wh), k ≤ n ∧ i = .int .i64 k ∧ s = .slice va m vc ∧ z = .int .i64 sz ∧ m ≤ 1048576 ∧ sz ≤ 1000000 ∧ Hid (m = st.length ∧ sz = szW st ∧ rn fo lim k = some st) ∧ Hid (wr.ownsRow w.heap.size 100 2 (.slice va m vc) m (whC st)) ∧ Hid (Below w.heap.size w wr)) (fun i _ _ _ => n - (intOf i).toNat)
  case atStart => exact ⟨0, 0, 0, 0, none, [], Nat.zero_le _, rfl, rfl, rfl, by omega, by omega, ⟨rfl, rfl, rfl⟩, ⟨rfl, .inl ⟨rfl, rfl⟩⟩, Below.refl _ _⟩
  case round =>
    obtain ⟨k, m, vc, sz, va, st, hk, rfl, rfl, rfl, hm, hsz, HST, HOW, HW⟩ := hrel
    by_cases hlt : k < n
    · obtain ⟨g, t, p, ea, ⟨y0, y1, y2, y3⟩, C0⟩ := HIT.out wr HW.out k hlt
      have C1 := C0 (wr.alloc (.cells #[.int .i64 t.op, .string t.md, .string t.nm, .slice p.a t.ns.length p.c] 66)) (bel1 _ _)
      have hkl : (k : Int) < (n : Int) := by omega
      have hk0 : (0 : Int) ≤ (k : Int) := by omega
      rw [ea]
      clear C0 ea
      obtain ⟨w1, hw1⟩ : ∃ w1, w1 = wr.alloc (.cells #[.int .i64 t.op, .string t.md, .string t.nm, .slice p.a t.ns.length p.c] 66) := ⟨_, rfl⟩
      have HW1 : Hid (Below w.heap.size w w1) := by rw [hw1]; exact HW.out.alloc HW.out.size _
      have HOW1 : Hid (w1.ownsRow w.heap.size 100 2 (.slice va m vc) m (whC st)) := by rw [hw1]; exact HOW.out.alloc _
      rw [← hw1] at C1
      go_wp2_with fail
      rw [← hw1]
      clear hw1 y0 y1 y2 y3 HOW HW
      refine C1.mono ?_
      rintro e w2 ⟨B2, L, ta, tn, tc, na, fl, nc, ok, rfl, hfl, hok, HF⟩
      clear C1
      have HW2 : Hid (Below w.heap.size w w2) := HW1.out.trans (B2.mono HW1.out.size)
      have HOW2 : Hid (w2.ownsRow w.heap.size 100 2 (.slice va m vc) m (whC st)) := own_kp HOW1.out (below_kp B2) (by decide)
      clear B2 HW1 HOW1
      cases hff : fo k with
      | none =>
        rw [hff] at hok
        have hok2 : ok = false := hok
        subst hok2
        have HPN : Hid (plF fo lim n = none) := pl_none (rn_no HST.out.2.2 hff) (by omega)
        clear hff HF hok
        have a1 : IntKind.i64.wrap ((m : Int) - (fl : Int)) = (m : Int) - (fl : Int) := by rw [IntKind.wrap_i64]; omega
        go_wp2
        go_ret2
        exact ⟨by rw [HPN.out]; rfl, HW2.out.alloc HW2.out.size _⟩
      | some f =>
        rw [hff] at hok
        have hok2 : ok = true := hok
        subst hok2
        obtain ⟨nb, tb, eq, HFM, hl1, hl2, _, _⟩ := HF f hff
        unfold fmV at eq
        simp only [Value.agg.injEq, Array.mk.injEq, List.cons.injEq, Value.int.injEq, Value.slice.injEq, true_and, and_true] at eq
        obtain ⟨rfl, rfl, rfl⟩ := eq
        have HFK := HSZ.out k f hlt hff
        have HFA : Hid (FmA w2 f na ta nb tb) := HFM
        by_cases hfew : m < f.needs.length
        · have HPN : Hid (plF fo lim n = none) := pl_none (rn_few HST.out.2.2 hff (by have := HST.out.1; omega)) (by omega)
          have a1 : IntKind.i64.wrap ((m : Int) - (f.needs.length : Int)) = (m : Int) - (f.needs.length : Int) := by rw [IntKind.wrap_i64]; omega
          have a2 : (m : Int) - (f.needs.length : Int) < 0 := by omega
          clear hff HF hok HFK HFM
          go_wp2
          go_ret2
          exact ⟨by rw [HPN.out]; rfl, HW2.out.alloc HW2.out.size _⟩
        · obtain ⟨j, hj⟩ : ∃ j, m = j + f.needs.length := ⟨m - f.needs.length, by omega⟩
          have a1 : IntKind.i64.wrap ((m : Int) - (f.needs.length : Int)) = (j : Int) := by rw [IntKind.wrap_i64]; omega
          have a2 : ¬ (j : Int) < 0 := by omega
          have a3 : (0 : Int) ≤ (j : Int) := by omega
          have a4 : (j : Int) ≤ (m : Int) := by omega
          have HJ : Hid (m = j + f.needs.length) := hj
          have HFF : Hid (fo k = some f ∧ FOk f ∧ ltF f.texts + 2 * f.needs.length ≤ 10000000) := ⟨hff, HFK⟩
          obtain ⟨A1, hA1⟩ : ∃ A1, A1 = (if vc = j then va else va.map (·.add (j * 2))) := ⟨_, rfl⟩
          have hs1 : ∀ W, (Instr.slice 95 (.slice va m vc) (some (.int .i64 (j : Int))) none none).run Tryd.prog W = .ok (.slice A1 f.needs.length (vc - j)) W := fun W => by
            have e := slice_top va m vc j (by omega) W
            rw [← hA1, show m - j = f.needs.length by omega] at e
            exact e
          have hvc : m ≤ vc := by
            rcases HOW2.out.2 with ⟨h1, h0⟩ | ⟨_, _, _, h1, _, _, h3, _⟩
            · omega
            · cases h1; exact h3
          have hs2 : ∀ W, (Instr.slice 95 (.slice va m vc) none (some (.int .i64 (j : Int))) none).run Tryd.prog W = .ok (.slice va j vc) W := slice_bot va m vc j (by omega)
          obtain ⟨W3, hW3⟩ : ∃ W3, W3 = w2.alloc (.cells #[.int .i64 (f.lev : Int), .slice na f.needs.length nc, .slice ta f.texts.length tc] 97) := ⟨_, rfl⟩
          have HBX : Hid (W3.rowIs w2.heap.size 97 3 (v3 (.int .i64 (f.lev : Int)) (.slice na f.needs.length nc) (.slice ta f.texts.length tc))) := by rw [hW3]; exact row3 w2 _ _ _ _
          have HW3 : Hid (Below w.heap.size w W3) := by rw [hW3]; exact HW2.out.alloc HW2.out.size _
          have HOW3 : Hid (W3.ownsRow w.heap.size 100 2 (.slice va m vc) m (whC st)) := by rw [hW3]; exact HOW2.out.alloc _
          have HFA3 : Hid (FmA W3 f na ta nb tb) := by rw [hW3]; exact HFA.out.below (bel1 _ _)
          obtain ⟨R, hR⟩ : ∃ R, R = newW f st := ⟨_, rfl⟩
          have hps : (st.drop j).length = f.needs.length := by rw [List.length_drop]; have := HST.out.1; omega
          have hdr : st.drop j = st.drop (st.length - f.needs.length) := by congr 1; have := HST.out.1; omega
          have hRs : R.1.size ≤ 11000000 := by
            have h1 := (arnd_ge f.needs f.texts (st.drop j) HFF.out.2.1.texts hps).2
            have h2 := szW_take st j
            have h3 := HST.out.2.1
            have h4 := HFF.out.2.2
            rw [hR]
            show (arnd f.needs f.texts (st.drop (st.length - f.needs.length))).size ≤ _
            rw [← hdr]
            omega
          obtain ⟨z, hz⟩ : ∃ z, z = szW (st.drop j) := ⟨_, rfl⟩
          obtain ⟨s2, hs2z⟩ : ∃ s2, s2 = szW (newS f st) := ⟨_, rfl⟩
          have hzs : s2 + z = sz + R.1.size ∧ z ≤ sz := by
            have h1 := newS_sz f st
            have h2 := szW_take st j
            have h3 := HST.out.2.1
            rw [hs2z, hz, hR, h3]
            rw [hdr] at h2 ⊢
            omega
          have CA : Hid (∀ W, Below W3.heap.size W3 W → Calls Tryd.prog 59 #[.agg #[.int .i64 (f.lev : Int), .slice na f.needs.length nc, .slice ta f.texts.length tc], .slice A1 f.needs.length (vc - j)] W fun e w' => e = .returned (.agg #[.string R.1, .int .i64 (R.2 : Int)]) ∧ Hid (Below W.heap.size W w')) := fun W hb => by
            obtain ⟨g1, o1, hT⟩ := own_top' HOW3.out HST.out.1 (show j ≤ m by have := HJ.out; omega)
            rw [← hA1] at hT
            have C := p_around W (HFA3.out.below hb) (c := vc - j) (hT.below hb) hps HFF.out.2.1.texts (by omega) hl1 hl2 (by omega) (by
              have : (arnd f.needs f.texts (st.drop j)).size = R.1.size := by rw [hR, hdr]; rfl
              omega)
            rw [hps] at C
            refine C.mono ?_
            rintro e w' ⟨rfl, B⟩
            exact ⟨by rw [hR, hdr]; rfl, B⟩
          have CS : Hid (∀ W, Below W3.heap.size W3 W → Calls Tryd.prog 60 #[.slice A1 f.needs.length (vc - j)] W fun e w' => e = .returned (.int .i64 (z : Int)) ∧ Hid (Below W.heap.size W w')) := fun W hb => by
            obtain ⟨g1, o1, hT⟩ := own_top' HOW3.out HST.out.1 (show j ≤ m by have := HJ.out; omega)
            rw [← hA1] at hT
            refine (p_sizeOf W (hT.below hb) (by omega) (by omega) hps.symm (by omega)).mono ?_
            rintro e w' ⟨rfl, B⟩
            exact ⟨by rw [hz], B⟩
          have a5 : IntKind.i64.wrap ((R.1.size : Int) - (z : Int)) = (R.1.size : Int) - (z : Int) := by rw [IntKind.wrap_i64]; omega
          have a6 : IntKind.i64.wrap ((sz : Int) + ((R.1.size : Int) - (z : Int))) = (s2 : Int) := by rw [IntKind.wrap_i64]; omega
          have HRS : Hid (R = newW f st ∧ s2 = szW (newS f st)) := ⟨hR, hs2z⟩
          have hs2b : s2 ≤ 12000000 := by omega
          have HJT : Hid (newS f st = st.take j ++ [R]) := by
            show _ = _
            unfold newS
            rw [← hR]
            congr 2
            have := HST.out.1
            omega
          clear hff HF hok HFK HFM hj hA1 hR hz hs2z hzs hps hdr HFA HOW2
          go_upto_region 10 with fail
          rw [← hW3]
          clear hW3
          have HBD : Hid (Below W3.heap.size W3 W3.drew) := (Below.refl _ _).drew
          have HBE : Hid (Below W3.heap.size W3 (W3.alloc (.cells #[.string ⟨#[]⟩, .int .i64 0] 100)).drew) := (bel1 _ _).drew
          go_cut [15] (fun s15 wc => ∃ X, s15 = .pointer (some ⟨X, 0, none⟩) ∧ W3.heap.size ≤ X ∧ Hid (wc.rowIs X 100 2 (v2 (.string R.1) (.int .i64 (R.2 : Int)))) ∧ Hid (Below W3.heap.size W3 wc))
          case first =>
            have x0 : W3.cell? ⟨w2.heap.size, 0, none⟩ = some (.int .i64 (f.lev : Int)) := HBX.out.cell (i := 0) (by omega)
            have x1 : W3.cell? ⟨w2.heap.size, 1, none⟩ = some (.slice na f.needs.length nc) := HBX.out.cell (i := 1) (by omega)
            have x2 : W3.cell? ⟨w2.heap.size, 2, none⟩ = some (.slice ta f.texts.length tc) := HBX.out.cell (i := 2) (by omega)
            have HCX : Hid (∀ u : World, u.rowIs w2.heap.size 97 3 (v3 (.int .i64 (f.lev : Int)) (.slice na f.needs.length nc) (.slice ta f.texts.length tc)) → u.cell? ⟨w2.heap.size, 0, none⟩ = some (.int .i64 (f.lev : Int)) ∧ u.cell? ⟨w2.heap.size, 1, none⟩ = some (.slice na f.needs.length nc) ∧ u.cell? ⟨w2.heap.size, 2, none⟩ = some (.slice ta f.texts.length tc)) := fun u h => ⟨h.cell (i := 0) (by omega), h.cell (i := 1) (by omega), h.cell (i := 2) (by omega)⟩
            have hlw : w2.heap.size < W3.heap.size := HBX.out.lt
            have HKB : Hid (∀ (u : World) (x y : Value), u.rowIs w2.heap.size 97 3 (v3 (.int .i64 (f.lev : Int)) (.slice na f.needs.length nc) (.slice ta f.texts.length tc)) → ((u.setCell ⟨W3.heap.size, 0, none⟩ x).setCell ⟨W3.heap.size, 1, none⟩ y).cell? ⟨w2.heap.size, 0, none⟩ = some (.int .i64 (f.lev : Int)) ∧ ((u.setCell ⟨W3.heap.size, 0, none⟩ x).setCell ⟨W3.heap.size, 1, none⟩ y).cell? ⟨w2.heap.size, 1, none⟩ = some (.slice na f.needs.length nc) ∧ ((u.setCell ⟨W3.heap.size, 0, none⟩ x).setCell ⟨W3.heap.size, 1, none⟩ y).cell? ⟨w2.heap.size, 2, none⟩ = some (.slice ta f.texts.length tc)) := fun u x y h => by
              have r := (h.setOther (a := ⟨W3.heap.size, 0, none⟩) (by show w2.heap.size ≠ W3.heap.size; omega) x).setOther (a := ⟨W3.heap.size, 1, none⟩) (by show w2.heap.size ≠ W3.heap.size; omega) y
              exact HCX.out _ r
            go_region_held3 (fun w' => w'.cell? ⟨w2.heap.size, 0, none⟩ = some (.int .i64 (f.lev : Int)) ∧ w'.cell? ⟨w2.heap.size, 1, none⟩ = some (.slice na f.needs.length nc) ∧ w'.cell? ⟨w2.heap.size, 2, none⟩ = some (.slice ta f.texts.length tc)) (first | (with_reducible exact HKB.out _ _ _ RF1.out) | go_keep) (first
              | (go_at_call 59; (with_reducible refine (CA.out _ HBD.out).mono ?_); rintro e u0 ⟨rfl, V0⟩; obtain ⟨x3, x4, x5⟩ := HCX.out u0 (HBX.out.of_block (V0.out.block w2.heap.size hlw)))
              | (go_at_call 59; (with_reducible refine (CA.out _ HBE.out).mono ?_); rintro e u1 ⟨rfl, V1⟩; have RZ1 := (row2 W3 (.string ⟨#[]⟩) (.int .i64 0) 100).of_block (w' := u1) (V1.out.block W3.heap.size (by show W3.heap.size < (W3.alloc _).heap.size; simp)); have RF1 : Hid (u1.rowIs w2.heap.size 97 3 (v3 (.int .i64 (f.lev : Int)) (.slice na f.needs.length nc) (.slice ta f.texts.length tc))) := ((HBX.out.alloc (.cells #[.string ⟨#[]⟩, .int .i64 0] 100)).of_block (V1.out.block w2.heap.size (by show w2.heap.size < (W3.alloc _).heap.size; simp; omega))); obtain ⟨x3, x4, x5⟩ := HCX.out u1 RF1.out; have z0 := RZ1.cell (i := 0) (by omega); have z1 := RZ1.cell (i := 1) (by omega); have z2 := RZ1.frozen 0; have z3 := RZ1.frozen 1))
            all_goals
              go_wp2
              go_meet
              case rel =>
                first
                  | exact ⟨u0.heap.size, rfl, V0.out.size, row2 _ _ _ _, (HBD.out.trans (V0.out.mono (Nat.le_refl _))).alloc (HBD.out.trans (V0.out.mono (Nat.le_refl _))).size _⟩
                  | exact ⟨W3.heap.size, rfl, Nat.le_refl _, ((RZ1.set 0 _).set 1 _).congr (fun i hi => by
                      match i, hi with
                      | 0, _ => rfl
                      | 1, _ => rfl), ((HBE.out.trans (V1.out.mono (by show W3.heap.size ≤ (W3.alloc _).heap.size; simp))).setCell (p := ⟨W3.heap.size, 0, none⟩) (Nat.le_refl _) _).setCell (p := ⟨W3.heap.size, 1, none⟩) (Nat.le_refl _) _⟩
          case rest =>
            obtain ⟨X, rfl, hX3, HRX, HBC⟩ := hcut
            have q0 : wc.cell? ⟨X, 0, none⟩ = some (.string R.1) := HRX.out.cell (i := 0) (by omega)
            have HBCD : Hid (Below W3.heap.size W3 wc.drew) := HBC.out.drew
            have hXl : X < wc.heap.size := HRX.out.lt
            go_wp2
            go_region_held3 (fun w' => w'.cell? ⟨X, 0, none⟩ = some (.string R.1)) (go_keep) (first
              | (go_at_call 60; (with_reducible refine (CS.out _ HBCD.out).mono ?_); rintro e u2 ⟨rfl, V2⟩; have RX2 := HRX.out.of_block (w' := u2) (V2.out.block X hXl); have q1 : u2.cell? ⟨X, 0, none⟩ = some (.string R.1) := RX2.cell (i := 0) (by omega)))
            have HW5 : Hid (Below w.heap.size w u2) := (HW3.out.trans (HBCD.out.mono HW3.out.size)).trans (V2.out.mono (Nat.le_trans HW3.out.size HBC.out.size))
            have hs5 : w.heap.size ≤ u2.heap.size := HW5.out.size
            by_cases hbig : lim < s2
            · have HPN : Hid (plF fo lim n = none) := pl_none (rn_big HST.out.2.2 HFF.out.1 (by have := HST.out.1; have := HJ.out; omega) (by rw [← HRS.out.2]; exact hbig)) (by omega)
              have b1 : (lim : Int) < (s2 : Int) := by omega
              clear q0 q1 RX2 V2
              go_wp2
              go_ret2
              exact ⟨by rw [HPN.out]; rfl, HW5.out⟩
            · have b1 : ¬ (lim : Int) < (s2 : Int) := by omega
              have q2 : u2.cell? ⟨X, 1, none⟩ = some (.int .i64 (R.2 : Int)) := RX2.cell (i := 1) (by omega)
              have HLX : Hid (X < u2.heap.size) := RX2.lt
              have OW5 : u2.ownsRow w.heap.size 100 2 (.slice va m vc) m (whC st) := own_block HOW3.out (fun b e => by
                have hb := (HOW3.out.lt b e.symm).2
                exact (V2.out.block b (Nat.lt_of_lt_of_le hb HBC.out.size)).trans (HBC.out.block b hb))
              have OWC := own_cut (j := j) OW5 HST.out.1 (by have := HJ.out; omega)
              have n1 : some X ≠ (Value.slice va j vc).ownBlock := fun e => by
                have h1 : (Value.slice va m vc).ownBlock = some X := by
                  rw [e]
                  cases va <;> rfl
                have := (HOW3.out.lt X h1).2
                omega
              have hj6 : j ≤ 1048576 := by have := HJ.out; omega
              have hml : j + 1 ≤ maxLen := by unfold maxLen; omega
              have hby : (j + 1) * 24 ≤ 140737488355328 := by omega
              clear RX2 V2 OW5
              go_wp2
              go_region_held3 (fun w' => w'.cell? ⟨X, 0, none⟩ = some (.string R.1) ∧ w'.cell? ⟨X, 1, none⟩ = some (.int .i64 (R.2 : Int))) (go_keep) ((refine step_append_lies _ (by rfl) _ _ _ (by rfl) w.heap.size 100 i0 _ 2 24 Tryd.underlying95 hi0 hz0 hz1 hz2 rfl (by omega) (.slice va j vc) j (whC (st.take j)) (by rfl) (by first | exact OWC.alloc _ | exact (OWC.alloc _).drew) ⟨u2.heap.size, 0, none⟩ 1 1 [.string R.1, .int .i64 (R.2 : Int)] (by rfl) (by rfl) (World.news_of_block (cs := #[.string R.1, .int .i64 (R.2 : Int)]) (t := 100) (fr := (0, 0)) (heap_alloc_new u2 _)) (by simp [Value.oneCell']) (by omega) hml hby (by simp; omega) (u2.heap.size + 1) (by simp) ?_; intro gg cap5 w9 hown5 hg5 hat5 hlt5; have e0 : w9.cell? ⟨X, 0, none⟩ = some (.string R.1) := (hg5.cell_far ⟨X, 0, none⟩ (by have := HLX.out; simp; omega) n1).trans (((bel1 u2 _).cell (p := ⟨X, 0, none⟩) HLX.out).trans q1); have e1 : w9.cell? ⟨X, 1, none⟩ = some (.int .i64 (R.2 : Int)) := (hg5.cell_far ⟨X, 1, none⟩ (by have := HLX.out; simp; omega) n1).trans (((bel1 u2 _).cell (p := ⟨X, 1, none⟩) HLX.out).trans q2)))
              all_goals
                have HFO : Hid (w9.ownsRow w.heap.size 100 2 (.slice (some ⟨gg, 0, none⟩) (j + 1) cap5) (j + 1) (whC (newS f st))) := by
                  show World.ownsRow _ _ _ _ _ _ _
                  rw [HJT.out, whC_snoc]
                  exact hown5
                have HBF : Hid (Below w.heap.size w w9) := below_grow (o := .cells #[.string R.1, .int .i64 (R.2 : Int)] 100) HW5.out hs5 OWC ⟨hg5.os, hg5.tape, hg5.output, hg5.size, hg5.block⟩
                have HRN : Hid (j + 1 = (newS f st).length ∧ s2 = szW (newS f st) ∧ rn fo lim (k + 1) = some (newS f st)) := by
                  have h1 := HST.out.1
                  have h2 := HJ.out
                  refine ⟨?_, HRS.out.2, rn_yes HST.out.2.2 HFF.out.1 (by omega) (by rw [← HRS.out.2]; omega)⟩
                  rw [HJT.out, List.length_append, List.length_take, List.length_singleton]
                  omega
                clear hown5 hg5 hat5 hlt5 e0 e1 q0 q1 q2 OWC n1 hs1 hs2 CA CS
                go_wp2
                go_roundw
                case rel =>
                  exact ⟨k + 1, j + 1, cap5, s2, some ⟨gg, 0, none⟩, newS f st, by omega, by go_num, rfl, rfl, by have := (rn_sz HRN.out.2.2).2; have := HRN.out.1; omega, by omega, HRN, HFO, HBF⟩
                case measure => simp [intOf]; omega
    · have hkn : k = n := by omega
      subst hkn
      have hkl : ¬ (k : Int) < (k : Int) := by omega
      by_cases h1 : m = 1
      · obtain ⟨x, hx⟩ : ∃ x, st = [x] := by
          have := HST.out.1
          match st, this with
          | [x], _ => exact ⟨x, rfl⟩
          | [], h => simp at h; omega
          | _ :: _ :: _, h => simp at h; omega
        subst hx
        subst h1
        have HPS : Hid (plF fo lim k = some x.1) := by
          show _ = _
          unfold plF
          rw [HST.out.2.2]
        obtain ⟨gg, cc, ev, _, _, _⟩ := own_blk HOW.out (by omega)
        simp only [Value.slice.injEq, true_and] at ev
        obtain ⟨rfl, rfl⟩ := ev
        have y0 : wr.cell? ⟨gg, 0, none⟩ = some (.string x.1) := by
          have := own_at (f := whV) whV_len HOW.out rfl (j := 0) (by show 0 < 1; omega) (r := 0) (by omega) (u := .string x.1) rfl
          exact this
        go_wp2
        go_ret2
        exact ⟨by rw [HPS.out]; rfl, HW.out⟩
      · have HPN : Hid (plF fo lim k = none) := by
          show _ = _
          unfold plF
          rw [HST.out.2.2]
          have := HST.out.1
          match st, this with
          | [x], h => simp at h; omega
          | [], _ => rfl
          | _ :: _ :: _, _ => rfl
        have c1 : ((m : Int) == 1) = false := beq_eq_false_iff_ne.2 (by omega)
        have c2 : ((m : Int) != 1) = true := by rw [bne, c1]; rfl
        go_wp2
        go_ret2
        exact ⟨by rw [HPN.out]; rfl, HW.out⟩

end Go.Proofs.YtcehppndpccldaaDoor
