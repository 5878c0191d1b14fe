/-
  The model prints expressions: records, leaves; all expressions.
-/
import Derived.Test.YtcehppndpccldaaDoorVcF
import Derived.Test.YtcehppndpccldaaDoorVcG
namespace Go.Proofs.YtcehppndpccldaaDoor
open Go.RowKit

set_option maxRecDepth 100000 in
set_option maxHeartbeats 4000000 in
theorem v_printE_rec {xs : List (EI × EPl)} {l : List EI} {a : Option Addr} {c e : Nat} (H : PEH xs l e) (he : e < xs.length) (hf : fE xs[e].1 = some (brc xs[e].1.ns xEs 4)) (hop : xs[e].1.op = 4) (IH : ∀ q, q < e → PEC xs l a c q) : PEC xs l a c e := by
  intro w z h hz
  subst hz
  have hp := pw_atE (l := l) (e := e) (t := xs[e].1) (by rw [← H.is, List.getElem?_map, List.getElem?_eq_getElem he]; rfl) hf H.vk
  have hnn : (FE l e).needs.length = xs[e].1.ns.length := by
    obtain ⟨f, h1, h2⟩ := H.item he (Nat.le_refl _)
    rw [hf] at h1
    cases h1
    rw [h2]; exact (brc_ok _ _ _).2.1
  have hvn := H.vk e (Nat.lt_succ_self _)
  dsimp only at hvn
  rw [hnn] at hvn
  have HT : Hid (∀ W, Below w.heap.size w W → EsA W (.slice a xs.length c) xs) := fun W hb => h.below hb
  obtain ⟨pl, hpl⟩ : ∃ pl, pl = pts (fun i => (FE l i).needs.length) xs[e].1.ns.length e := ⟨_, rfl⟩
  have hplen : pl.length = xs[e].1.ns.length := by rw [hpl]; exact pts_len _ _ _
  have CP : Hid (∀ (W : World) (z : Int), Below w.heap.size w W → z = ((e + 1 : Nat) : Int) → Calls Tryd.prog 36 #[.slice a xs.length c, .int .i64 z] W fun r w' => ∃ va cp, r = .returned (.slice va xs[e].1.ns.length cp) ∧ Hid (w'.ownsRow W.heap.size 3 1 (.slice va xs[e].1.ns.length cp) xs[e].1.ns.length (inC pl)) ∧ Hid (Below W.heap.size W w')) := fun W z hb hz => by
    have := v_eparts W (HT.out W hb) H.is he H.ar hz
    rw [hnn, ← hpl] at this
    exact this.mono fun r w' ⟨va, cp, h1, h2, h3⟩ => ⟨va, cp, h1, h2, h3⟩
  have CQ : Hid (∀ (W : World) (z : Int) (k : Nat) (hk : k < pl.length), Below w.heap.size w W → z = (pl[k] : Int) → Calls Tryd.prog 23 #[.slice a xs.length c, .int .i64 z] W fun r w' => r = .returned (.string (pw (FE l) pl[k]).1) ∧ Hid (Below W.heap.size W w')) := fun W z k hk hb hz => by
    have hm := pts_mem (H.vk.mono (Nat.le_succ _)) hvn (p := pl[k]) (by rw [← hpl]; exact List.getElem_mem hk)
    have := IH (pl[k] - 1) (by omega) W z (HT.out W hb) (by omega)
    rw [show pl[k] - 1 + 1 = pl[k] by omega] at this
    exact this
  have HPS : Hid (∀ k (hk : k < pl.length), (pw (FE l) pl[k]).1.size ≤ 100000000 ∧ pl[k] ≤ 1048576) := fun k hk => by
    have hm := pts_mem (H.vk.mono (Nat.le_succ _)) hvn (p := pl[k]) (by rw [← hpl]; exact List.getElem_mem hk)
    exact ⟨H.sz _ (by omega), by have := h.len; omega⟩
  obtain ⟨g, ta, tc, rfl, y0, y1, y2, y3, y4, y5, ti, htv⟩ := h.item he
  have hlen := h.len
  have HNS : Hid (∀ W, Below w.heap.size w W → NsA W xs[e].2.np xs[e].1.ns) := fun W hb => ti.ns.below hb
  have HNZ : Hid (∀ k, k < xs[e].1.ns.length → (xs[e].1.ns.getD k e0).size ≤ 1048576) := ti.sz
  have hnl := ti.len
  have szR := H.sz (e + 1) (Nat.le_refl _)
  obtain ⟨r, hr⟩ : ∃ r, r = (pw (FE l) (e + 1)).1 := ⟨_, rfl⟩
  obtain ⟨X, hX⟩ : ∃ X, X = xs[e] := ⟨_, rfl⟩
  rw [← hX] at y0 y1 y2 y3 y4 y5 hop hplen CP HNS HNZ hnl
  obtain ⟨ns, hns⟩ : ∃ ns, ns = X.1.ns := ⟨_, rfl⟩
  rw [← hns] at y4 hplen CP HNS HNZ hnl
  obtain ⟨P, hP⟩ : ∃ P : Nat → ByteArray, P = fun i => (((pl.map (pw (FE l))).getD i (e0, 0)).1) := ⟨_, rfl⟩
  have HPk : Hid (∀ k (hk : k < pl.length), P k = (pw (FE l) pl[k]).1) := fun k hk => by
    rw [hP]
    show ((pl.map (pw (FE l))).getD k (e0, 0)).1 = _
    rw [List.getD_eq_getElem?_getD, List.getElem?_map, List.getElem?_eq_getElem hk]; rfl
  have harn : (pw (FE l) (e + 1)).1 = arnd (brc ns xEs 4).needs (brc ns xEs 4).texts (pl.map (pw (FE l))) := by
    rw [hp, hpl, ← hX, ← hns]
    show arnd _ _ (List.map (pw (FE l)) (pts _ (brc ns xEs 4).needs.length e)) = _
    rw [(brc_ok _ _ _).2.1]
  have HR : Hid (r = recL xEs ns P ns.length ++ xC) := by
    show _ = _
    rw [hr, harn, rec_all 4 (by rw [List.length_map]; exact hplen), hP]
  have HRS : Hid (∀ i, i ≤ ns.length → (recL xEs ns P i).size ≤ 100000000) := fun i hi => by
    have := rec_size (sign := xEs) (ns := ns) (ps := pl.map (pw (FE l))) 4 (by rw [List.length_map]; exact hplen) hi
    rw [← harn] at this
    rw [hP]
    omega
  rw [← hr]
  rw [hop] at y0
  obtain ⟨n, hn⟩ : ∃ n, n = ns.length := ⟨_, rfl⟩
  have HN : Hid (ns.length = n) := hn.symm
  rw [← hn] at y4 hplen CP HNZ hnl HR HRS
  have we1 : IntKind.i64.wrap ((e : Int) + 1 - 1) = (e : Int) := by rw [IntKind.wrap_i64]; omega
  have we2 : IntKind.i64.wrap (e : Int) = (e : Int) := by rw [IntKind.wrap_i64]; omega
  have hel : (e : Int) < (xs.length : Int) := by omega
  have he0 : (0 : Int) ≤ (e : Int) := by omega
  have HPL : Hid (pl.length = n) := hplen
  clear h H hp hnn hvn hpl IH ti htv hr hX hns hf hop HT harn hP szR hn hplen
  go_enter Tryd.func23, Tryd.ntmps23
  go_wp2_with fail
  refine (CP.out _ _ (bel1 _ _) (by omega)).mono ?_
  rintro e2 w2 ⟨va, cp, rfl, HO, HB⟩
  have HB2 : Hid (Below w.heap.size w w2) := (bel1 _ _).trans (HB.out.mono (by simp))
  have BX := row6 w (.int .i64 4) (.int .i64 X.1.num) (.string X.1.md) (.string X.1.nm) (.slice X.2.np.a n X.2.np.c) (.slice ta X.1.ty.length tc) 69
  have BX2 := BX.of_block (HB.out.block _ BX.lt)
  have t0 : w2.cell? ⟨w.heap.size, 0, none⟩ = some (.int .i64 4) := BX2.cell (i := 0) (by omega)
  have HX2 : Hid (∀ W, Below w2.heap.size w2 W → W.cell? ⟨w.heap.size, 4, none⟩ = some (.slice X.2.np.a n X.2.np.c)) := fun W hb => (BX2.of_block (hb.block _ BX2.lt)).cell (i := 4) (by omega)
  have HO2 : Hid (∀ W, Below w2.heap.size w2 W → ∀ k (hk : k < pl.length), ∃ go, va = some ⟨go, 0, none⟩ ∧ W.cell? ⟨go, k, none⟩ = some (.int .i64 (pl[k] : Int))) := fun W hb k hk => by
    obtain ⟨go, gc, ev, _⟩ := own_blk HO.out (show 0 < n by have := HPL.out; omega)
    simp only [Value.slice.injEq] at ev
    obtain ⟨rfl, -, rfl⟩ := ev
    have c0 : w2.cell? ⟨go, k, none⟩ = some (.int .i64 (pl[k] : Int)) := own_int (es := pl) (by rw [HPL.out]; exact HO.out) rfl hk
    exact ⟨go, rfl, (hb.cell (p := ⟨go, k, none⟩) (World.block_lt_of_cell? _ _ c0)).trans c0⟩
  clear BX BX2 HB HO
  go_wp2
  go_loopw [7, 8] (fun s i wr => ∃ k : Nat, k ≤ n ∧ i = .int .i64 k ∧ s = .string (recL xEs ns P k) ∧ Hid (Below w2.heap.size w2 wr)) (fun _ i _ => n - (intOf i).toNat)
  case atStart => exact ⟨0, Nat.zero_le _, rfl, rfl, Below.refl _ _⟩
  case round =>
    obtain ⟨k, hk, rfl, rfl, HW⟩ := hrel
    have sS := HRS.out k hk
    by_cases hlt : k < n
    · have hkp : k < pl.length := by rw [HPL.out]; exact hlt
      have HWw : Hid (Below w.heap.size w wr) := HB2.out.trans (HW.out.mono HB2.out.size)
      have nsa := HNS.out wr HWw.out
      have ea := nsa.at_ (by rw [HN.out]; omega)
      have ck := nsa.cell k (by rw [HN.out]; exact hlt)
      have zk := HNZ.out k hlt
      obtain ⟨go, ego, pk⟩ := HO2.out wr HW.out k hkp
      obtain ⟨zp, zpl⟩ := HPS.out k hkp
      have bx := HX2.out wr HW.out
      have HC : Hid (∀ (W : World), Below w2.heap.size w2 W → Calls Tryd.prog 23 #[.slice (some ⟨g, 0, none⟩) xs.length c, .int .i64 (pl[k] : Int)] W fun r w' => r = .returned (.string (P k)) ∧ Hid (Below w2.heap.size w2 w')) := fun W hb => by
        rw [HPk.out k hkp]
        exact (CQ.out W _ k hkp (HB2.out.trans (hb.mono HB2.out.size)) rfl).mono fun r w' h => ⟨h.1, hb.trans (h.2.out.mono hb.size)⟩
      rw [← HPk.out k hkp] at zp
      obtain ⟨q, hq⟩ : ∃ q, q = pl[k] := ⟨_, rfl⟩
      rw [← hq] at pk HC zpl
      obtain ⟨x, hx⟩ : ∃ x, x = ns.getD k e0 := ⟨_, rfl⟩
      rw [← hx] at ck zk
      rw [ea] at bx
      subst ego
      obtain ⟨pb, hpb⟩ : ∃ pb, pb = X.2.np.b := ⟨_, rfl⟩
      rw [← hpb] at bx ck
      have HNX : Hid (recL xEs ns P (k + 1) = ((if 0 < k then recL xEs ns P k ++ xCm else recL xEs ns P k) ++ x) ++ xEs ++ P k) := by show _ = _; rw [recL, hx]
      obtain ⟨S, hS⟩ : ∃ S, S = recL xEs ns P k := ⟨_, rfl⟩
      obtain ⟨Q, hQ⟩ : ∃ Q, Q = P k := ⟨_, rfl⟩
      rw [← hS] at sS HNX ⊢
      rw [← hQ] at zp HNX HC
      have HCC : Hid (∀ W : World, Below w2.heap.size w2 W → W.cell? ⟨w.heap.size, 4, none⟩ = some (.slice (some ⟨pb, 0, none⟩) n X.2.np.c) ∧ W.cell? ⟨pb, k, none⟩ = some (.string x) ∧ W.cell? ⟨go, k, none⟩ = some (.int .i64 (q : Int))) := fun W hb => by
        have hbw := HB2.out.trans (hb.mono HB2.out.size)
        refine ⟨?_, ?_, ?_⟩
        · rw [← hpb.symm, ← ea]; exact HX2.out W hb
        · have := (HNS.out W hbw).cell k (by rw [HN.out]; exact hlt); rw [← hpb, ← hx] at this; exact this
        · obtain ⟨go', e', c'⟩ := HO2.out W hb k hkp
          cases e'
          rw [hq]; exact c'
      have s1 : (⟨#[44, 32]⟩ : ByteArray).size = 2 := rfl
      have s2 : (⟨#[32, 61, 32]⟩ : ByteArray).size = 3 := rfl
      clear nsa ea hq hx hpb hS hQ
      by_cases hk0 : 0 < k
      · have lk : (0 : Int) < (k : Int) := by omega
        have a0 := fun W => run_string_add_sum (P := Tryd.prog) (w := W) S (⟨#[44, 32]⟩ : ByteArray) (by rw [s1]; omega)
        obtain ⟨S2, hS2⟩ : ∃ S2, S2 = S ++ (⟨#[44, 32]⟩ : ByteArray) := ⟨_, rfl⟩
        have zS2 : S2.size ≤ 100000002 := by rw [hS2, ByteArray.size_append, s1]; omega
        rw [← hS2] at a0
        have HF : Hid (recL xEs ns P (k + 1) = (S2 ++ x ++ (⟨#[32, 61, 32]⟩ : ByteArray)) ++ Q) := by show _ = _; rw [HNX.out, if_pos hk0, hS2]; rfl
        have a1 := fun W => run_string_add_sum (P := Tryd.prog) (w := W) S2 x (by omega)
        have a2 := fun W => run_string_add_sum (P := Tryd.prog) (w := W) (S2 ++ x) (⟨#[32, 61, 32]⟩ : ByteArray) (by rw [ByteArray.size_append, s2]; omega)
        have a3 := fun W => run_string_add_sum (P := Tryd.prog) (w := W) (S2 ++ x ++ (⟨#[32, 61, 32]⟩ : ByteArray)) Q (by rw [ByteArray.size_append, ByteArray.size_append, s2]; omega)
        have HC' := HC.out wr.drew HW.out.drew
        clear hS2 HNX
        go_wp2
        go_region_held3 (fun w' => w'.cell? ⟨w.heap.size, 4, none⟩ = some (.slice (some ⟨pb, 0, none⟩) n X.2.np.c) ∧ w'.cell? ⟨pb, k, none⟩ = some (.string x) ∧ w'.cell? ⟨go, k, none⟩ = some (.int .i64 (q : Int))) (go_keep) ((go_at_call 23; (with_reducible refine HC'.mono ?_); rintro e5 w5 ⟨rfl, HW5⟩; obtain ⟨u0, u1, u2⟩ := HCC.out w5 HW5.out))
        all_goals
          go_wp2
          go_roundw
          case rel => exact ⟨k + 1, by omega, by go_num, by rw [HF.out], HW5⟩
          case measure => simp [intOf]; omega
      · have lk : ¬ (0 : Int) < (k : Int) := by omega
        have HF : Hid (recL xEs ns P (k + 1) = (S ++ x ++ (⟨#[32, 61, 32]⟩ : ByteArray)) ++ Q) := by show _ = _; rw [HNX.out, if_neg hk0]; rfl
        have a1 := fun W => run_string_add_sum (P := Tryd.prog) (w := W) S x (by omega)
        have a2 := fun W => run_string_add_sum (P := Tryd.prog) (w := W) (S ++ x) (⟨#[32, 61, 32]⟩ : ByteArray) (by rw [ByteArray.size_append, s2]; omega)
        have a3 := fun W => run_string_add_sum (P := Tryd.prog) (w := W) (S ++ x ++ (⟨#[32, 61, 32]⟩ : ByteArray)) Q (by rw [ByteArray.size_append, ByteArray.size_append, s2]; omega)
        have HC' := HC.out wr.drew HW.out.drew
        clear HNX
        go_wp2
        go_region_held3 (fun w' => w'.cell? ⟨w.heap.size, 4, none⟩ = some (.slice (some ⟨pb, 0, none⟩) n X.2.np.c) ∧ w'.cell? ⟨pb, k, none⟩ = some (.string x) ∧ w'.cell? ⟨go, k, none⟩ = some (.int .i64 (q : Int))) (go_keep) ((go_at_call 23; (with_reducible refine HC'.mono ?_); rintro e5 w5 ⟨rfl, HW5⟩; obtain ⟨u0, u1, u2⟩ := HCC.out w5 HW5.out))
        all_goals
          go_wp2
          go_roundw
          case rel => exact ⟨k + 1, by omega, by go_num, by rw [HF.out], HW5⟩
          case measure => simp [intOf]; omega
    · have hkn : k = n := by omega
      subst hkn
      have s1 : (⟨#[125]⟩ : ByteArray).size = 1 := rfl
      have HF : Hid (r = recL xEs ns P k ++ (⟨#[125]⟩ : ByteArray)) := by show _ = _; rw [HR.out]; rfl
      have a1 := fun W => run_string_add_sum (P := Tryd.prog) (w := W) (recL xEs ns P k) (⟨#[125]⟩ : ByteArray) (by rw [s1]; omega)
      have HWw : Hid (Below w.heap.size w wr) := HB2.out.trans (HW.out.mono HB2.out.size)
      go_wp2
      go_ret
      exact ⟨by rw [HF.out]; rfl, HWw.out⟩

set_option maxRecDepth 100000 in
set_option maxHeartbeats 4000000 in
theorem v_printE_leaf {xs : List (EI × EPl)} {l : List EI} {a : Option Addr} {c e : Nat} (H : PEH xs l e) (he : e < xs.length) {f : Fm} (hf : fE xs[e].1 = some f) (h4 : (xs[e].1.op = 1 ∧ 0 ≤ xs[e].1.num ∧ xs[e].1.num ≤ 999999999 ∧ f = ⟨4, [], [shN xs[e].1.num.toNat]⟩) ∨ (xs[e].1.op = 2 ∧ xs[e].1.num = 0 ∧ f = ⟨4, [], [xFalse]⟩) ∨ (xs[e].1.op = 2 ∧ xs[e].1.num = 1 ∧ f = ⟨4, [], [xTrue]⟩) ∨ (xs[e].1.op = 3 ∧ f = ⟨4, [], [pth xs[e].1.md xs[e].1.nm]⟩)) : PEC xs l a c e := by
  intro w z h hz
  subst hz
  have hp := pw_atE (l := l) (e := e) (t := xs[e].1) (by rw [← H.is, List.getElem?_map, List.getElem?_eq_getElem he]; rfl) hf H.vk
  obtain ⟨g, ta, tc, rfl, y0, y1, y2, y3, y4, y5, ti, htv⟩ := h.item he
  have hlen := h.len
  obtain ⟨r, hr⟩ : ∃ r, r = (pw (FE l) (e + 1)).1 := ⟨_, rfl⟩
  obtain ⟨X, hX⟩ : ∃ X, X = xs[e] := ⟨_, rfl⟩
  rw [← hX] at y0 y1 y2 y3 y4 y5 ti h4
  have HR : Hid (r = arnd f.needs f.texts ((pts (fun i => (FE l i).needs.length) f.needs.length e).map (pw (FE l)))) := by show _ = _; rw [hr, hp]
  rw [← hr]
  obtain ⟨op, hop⟩ : ∃ op, op = X.1.op := ⟨_, rfl⟩
  obtain ⟨nu, hnu⟩ : ∃ nu, nu = X.1.num := ⟨_, rfl⟩
  rw [← hop] at y0 h4
  rw [← hnu] at y1 h4
  have we1 : IntKind.i64.wrap ((e : Int) + 1 - 1) = (e : Int) := by rw [IntKind.wrap_i64]; omega
  have we2 : IntKind.i64.wrap (e : Int) = (e : Int) := by rw [IntKind.wrap_i64]; omega
  have hel : (e : Int) < (xs.length : Int) := by omega
  have he0 : (0 : Int) ≤ (e : Int) := by omega
  have zm := ti.md
  have zn := ti.nm
  obtain ⟨md, hmd⟩ : ∃ md, md = X.1.md := ⟨_, rfl⟩
  obtain ⟨nm, hnm⟩ : ∃ nm, nm = X.1.nm := ⟨_, rfl⟩
  rw [← hmd] at y2 zm h4
  rw [← hnm] at y3 zn h4
  clear h H hp hr hX hop hnu hf ti htv hmd hnm
  rcases h4 with ⟨h1, h2, h3, rfl⟩ | ⟨h1, h2, rfl⟩ | ⟨h1, h2, rfl⟩ | ⟨h1, rfl⟩
  · subst h1
    obtain ⟨k, rfl⟩ : ∃ k : Nat, nu = k := ⟨nu.toNat, by omega⟩
    have HF : Hid (r = shN k) := HR
    have CS : Hid (∀ W, Calls Tryd.prog 35 #[.int .i64 (k : Int)] W fun e w' => e = .returned (.string (shN k)) ∧ ∃ j, w' = W.drewN j) := fun W => v_show k W (by omega)
    clear HR
    go_enter Tryd.func23, Tryd.ntmps23
    go_wp2_with fail
    refine (CS.out _).mono ?_
    rintro r2 w2 ⟨rfl, j, rfl⟩
    go_wp2
    go_ret
    exact ⟨by rw [HF.out]; rfl, below_drewN (bel1 _ _) _⟩
  · subst h1 h2
    have HF : Hid (r = ⟨#[102, 97, 108, 115, 101]⟩) := HR
    clear HR
    go_enter Tryd.func23, Tryd.ntmps23
    go_wp2
    go_ret
    exact ⟨by rw [HF.out]; rfl, bel1 _ _⟩
  · subst h1 h2
    have HF : Hid (r = ⟨#[116, 114, 117, 101]⟩) := HR
    clear HR
    go_enter Tryd.func23, Tryd.ntmps23
    go_wp2
    go_ret
    exact ⟨by rw [HF.out]; rfl, bel1 _ _⟩
  · subst h1
    have HP : Hid (r = if md.size = 0 then nm else md ++ xColon ++ nm) := HR
    clear HR
    go_enter Tryd.func23, Tryd.ntmps23
    by_cases hz : md.size = 0
    · have HF : Hid (r = nm) := by show _ = _; rw [HP.out, if_pos hz]
      have me : md = ByteArray.empty := em_zero hz
      subst me
      clear HP hz
      go_wp2
      go_ret
      exact ⟨by rw [HF.out]; rfl, bel1 _ _⟩
    · have HF : Hid (r = md ++ (⟨#[58]⟩ : ByteArray) ++ nm) := by show _ = _; rw [HP.out, if_neg hz]; rfl
      have me : ¬ md = ByteArray.empty := em_pos hz
      have lz : (0 : Int) < (md.size : Int) := by omega
      have lz2 : 0 < md.size := by omega
      have s1 : (⟨#[58]⟩ : ByteArray).size = 1 := rfl
      have a1 := fun W => run_string_add_sum (P := Tryd.prog) (w := W) md (⟨#[58]⟩ : ByteArray) (by rw [s1]; omega)
      have a2 := fun W => run_string_add_sum (P := Tryd.prog) (w := W) (md ++ (⟨#[58]⟩ : ByteArray)) nm (by rw [ByteArray.size_append, s1]; omega)
      clear HP hz
      go_wp2
      go_ret
      exact ⟨by rw [HF.out]; rfl, bel1 _ _⟩

/-- All expressions. -/
theorem v_printE {xs : List (EI × EPl)} {l : List EI} {a : Option Addr} {c : Nat} : ∀ e, PEH xs l e → e < xs.length → PEC xs l a c e := by
  intro e
  induction e using Nat.strongRecOn with
  | _ e ih =>
    intro H he
    have IHP : ∀ q, q < e → PEH xs l q := fun q hq => ⟨H.is, fun j hj => H.ar j (by omega), H.vk.mono (by omega), fun k hk => H.sz k (by omega), H.tsz⟩
    have IH : ∀ q, q < e → PEC xs l a c q := fun q hq => ih q hq (IHP q hq) (by omega)
    obtain ⟨f, hf, _⟩ := H.item he (Nat.le_refl _)
    rcases fE_cases hf with z | z | z | z | z | z | z | z | z | z | z
    · exact v_printE_leaf H he hf (Or.inl z)
    · exact v_printE_leaf H he hf (Or.inr (Or.inl z))
    · exact v_printE_leaf H he hf (Or.inr (Or.inr (Or.inl z)))
    · exact v_printE_leaf H he hf (Or.inr (Or.inr (Or.inr z)))
    · exact v_printE_rec H he (by rw [hf, z.2]) z.1 IH
    · exact v_printE_get H he (by rw [hf, z.2]) z.1 IHP IH
    · exact v_printE_fun H he (by rw [hf, z.2.2]) z.1 z.2.1 IHP IH
    · exact v_printE_call H he (by rw [hf, z.2]) z.1 IHP IH
    · exact v_printE_if H he (by rw [hf, z.2]) z.1 IHP IH
    · exact v_printE_add H he (by rw [hf, z.2]) z.1 IHP IH
    · exact v_printE_less H he (by rw [hf, z.2]) z.1 IHP IH

end Go.Proofs.YtcehppndpccldaaDoor
