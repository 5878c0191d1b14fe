/-
  The law's marks on a module; the law.
-/
import Derived.Test.YtcehppndpccldaaGreatDoorMF
import Derived.Test.YtcehppndpccldaaGreatDoorPgZ
namespace Go.Proofs.YtcehppndpccldaaGreatDoor
open Go.RowKit

set_option maxRecDepth 100000 in
set_option maxHeartbeats 1000000 in
theorem t_markModule (a : Option Addr) (c b : Nat) (xs : List (DC × DPl)) (w : World) (ha : 0 < xs.length → a = some ⟨b, 0, none⟩) (hat : ∀ y, y ∈ xs → AtD y) (hh : HH w (hDs b 0 xs)) (hs : Sp (hDs b 0 xs) (lDs b 0 xs)) (hl : Lv w (lDs b 0 xs)) (hn : Nd (lDs b 0 xs)) (hx2 : (lDs b 0 xs).length ≤ 1000000000000000) (hlen : xs.length ≤ 1000000) :
    Calls Tryz.prog 10 #[.agg #[.slice a xs.length c], .int .i64 1] w fun e w' => e = .returned (.int .i64 ((1 + (lDs b 0 xs).length : Nat) : Int)) ∧ Mkd w w' (lDs b 0 xs) 1 := by
  have M0 := mkd_of_below (bel1 w (.cells #[.slice a xs.length c] 24)) 1
  have HM0 : Hid (Mkd w (w.alloc (.cells #[.slice a xs.length c] 24)) [] 1) := M0
  have C : Hid (Calls Tryz.prog 29 #[.slice a xs.length c, .int .i64 1] (w.alloc (.cells #[.slice a xs.length c] 24)) fun e w' => e = .returned (.int .i64 ((1 + (lDs b 0 xs).length : Nat) : Int)) ∧ Mkd (w.alloc (.cells #[.slice a xs.length c] 24)) w' (lDs b 0 xs) 1) :=
    t_markDs 1 a c b xs 1 _ rfl ha hat (hh.below (bel1 _ _)) hs (M0.lv hl (fun a ha => by cases ha)) hn (Nat.le_refl _) (by omega) hlen
  clear ha hat hh hs hl hn M0
  go_enter Tryz.func10, Tryz.ntmps10
  go_wp2_with fail
  refine C.out.mono ?_
  rintro e w2 ⟨rfl, M2⟩
  have HM2 : Hid (Mkd w w2 (lDs b 0 xs) 1) := HM0.out.app M2 rfl (fun a ha => by cases ha)
  obtain ⟨y, hy⟩ : ∃ y, y = 1 + (lDs b 0 xs).length := ⟨_, rfl⟩
  have HY : Hid (y = 1 + (lDs b 0 xs).length) := hy
  rw [← hy]
  clear M2 hy
  go_wp2
  go_ret
  exact ⟨by rw [← HY.out]; rfl, HM2.out⟩

set_option maxRecDepth 100000 in
set_option maxHeartbeats 1000000 in
theorem t_heldModule (a : Option Addr) (c b : Nat) (xs : List (DC × DPl)) (w : World) (ha : 0 < xs.length → a = some ⟨b, 0, none⟩) (hat : ∀ y, y ∈ xs → AtD y) (hh : HH w (hDs b 0 xs)) (hm : Hm w (lDs b 0 xs) 1) (hx2 : (lDs b 0 xs).length ≤ 1000000000000000) (hlen : xs.length ≤ 1000000) :
    Calls Tryz.prog 11 #[.agg #[.slice a xs.length c], .int .i64 1] w fun e w' => e = .returned (.int .i64 ((1 + (lDs b 0 xs).length : Nat) : Int)) ∧ Below w.heap.size w w' := by
  have C : Hid (Calls Tryz.prog 30 #[.slice a xs.length c, .int .i64 1] (w.alloc (.cells #[.slice a xs.length c] 24)) fun e w' => e = .returned (.int .i64 ((1 + (lDs b 0 xs).length : Nat) : Int)) ∧ Below (w.alloc (.cells #[.slice a xs.length c] 24)).heap.size (w.alloc (.cells #[.slice a xs.length c] 24)) w') :=
    t_heldDs 1 a c b xs 1 _ rfl ha hat (hh.below (bel1 _ _)) (hm.below (bel1 _ _)) (Nat.le_refl _) (by omega) hlen
  clear ha hat hh hm
  go_enter Tryz.func11, Tryz.ntmps11
  go_wp2_with fail
  refine C.out.mono ?_
  rintro e w2 ⟨rfl, b2⟩
  have HB2 : Hid (Below w.heap.size w w2) := (bel1 _ _).trans (b2.mono (by simp))
  obtain ⟨y, hy⟩ : ∃ y, y = 1 + (lDs b 0 xs).length := ⟨_, rfl⟩
  have ny : ¬ (y : Int) < 0 := by omega
  have HY : Hid (y = 1 + (lDs b 0 xs).length) := hy
  rw [← hy]
  clear b2 hy
  go_wp2
  go_ret
  exact ⟨by rw [← HY.out]; rfl, HB2.out⟩

set_option maxRecDepth 100000 in
set_option maxHeartbeats 4000000 in
theorem l_Parse (s : ByteArray) (m : Int) (w : World) (hs : s.size ≤ 9223372036854775807) (hm : w.cell? ⟨1, 0, none⟩ = some (.int .i64 m)) {eT : TypeId} {eV : Value} (hev : w.cell? ⟨0, 0, none⟩ = some (.iface eT eV)) :
    Calls Tryz.prog 3 #[.string s] w fun e w' => e = .returned (.bool true) ∧ Below w.heap.size w w' := by
  have CS : Hid (Calls Tryz.prog 7 #[.string s] w (SModR w (decs false ((toks s).length + 1) (toks s)))) := s_parse s w hs
  have h0 := World.block_lt_of_cell? _ _ hev
  have h1 := World.block_lt_of_cell? _ _ hm
  have CP : Hid (∀ W, Below w.heap.size w W → Calls Tryz.prog 8 #[.string s] W (ModR W (decs true ((toks s).length + 1) (toks s)))) := fun W hb => p_parse s m W hs ((hb.cell (p := ⟨1, 0, none⟩) h1).trans hm) (eT := eT) (eV := eV) ((hb.cell (p := ⟨0, 0, none⟩) h0).trans hev)
  have HSM : Hid (∀ d, d ∈ decs true ((toks s).length + 1) (toks s) → SmD 1000 d) := fun d hd => ((decs_sm true _ _).2 d hd).mono (toks_len s)
  have HFW : Hid ((decs true ((toks s).length + 1) (toks s)).length ≤ 1000) := Nat.le_trans (decs_sm true _ _).1 (toks_len s)
  have HSE : Hid (decs true ((toks s).length + 1) (toks s) = decs false ((toks s).length + 1) (toks s)) := decs_same _ _
  clear hm hev h0 h1
  go_enter Tryz.func3, Tryz.ntmps3
  by_cases hbig : 1048576 < s.size
  · go_wp2
    go_ret
    exact ⟨rfl, Below.refl _ _⟩
  go_wp2_with fail
  refine CS.out.mono ?_
  rintro e w1 ⟨b1, v0, x0, rfl, r0, e0'⟩
  obtain ⟨ds, hds⟩ : ∃ ds, ds = decs true ((toks s).length + 1) (toks s) := ⟨_, rfl⟩
  have HE0 : Hid (x0.map Prod.fst = ds) := by show _ = _; rw [e0', hds]; exact HSE.out.symm
  rw [← hds] at CP HSM HFW
  clear HSE CS hds e0'
  obtain ⟨a0, c0, rfl⟩ := own_form r0.own
  obtain ⟨W1, hW1⟩ : ∃ W1, W1 = w1.alloc (.cells #[.slice a0 x0.length c0] 24) := ⟨_, rfl⟩
  have HB1 : Hid (Below w.heap.size w W1) := by rw [hW1]; exact b1.alloc b1.size _
  have HR0 : Hid (RD w.heap.size W1 (.slice a0 x0.length c0) x0) := by rw [hW1]; exact r0.below (bel1 _ _)
  have HX0 : Hid (W1.rowIs w1.heap.size 24 1 (fun _ => .slice a0 x0.length c0)) := by rw [hW1]; exact row1 _ _ _
  have CP1 : Hid (Calls Tryz.prog 8 #[.string s] W1 (ModR W1 ds)) := CP.out W1 HB1.out
  clear b1 r0
  go_upto_region 4 with fail
  rw [← hW1]
  clear hW1
  go_wp2_with fail
  refine CP1.out.mono ?_
  rintro e w2 ⟨b2, v1, x1, rfl, o1, e1⟩
  obtain ⟨a1, c1, hv1, at1⟩ := own_at_ o1.own
  subst hv1
  obtain ⟨W2, hW2⟩ : ∃ W2, W2 = w2.alloc (.cells #[.slice a1 x1.length c1] 24) := ⟨_, rfl⟩
  have B2 : Below w2.heap.size w2 W2 := by rw [hW2]; exact bel1 _ _
  have HK2 : Hid (Below W1.heap.size W1 W2) := b2.trans (B2.mono b2.size)
  have HX1 : Hid (W2.rowIs w2.heap.size 24 1 (fun _ => .slice a1 x1.length c1)) := by rw [hW2]; exact row1 _ _ _
  have HO1 : Hid (OD W1.heap.size w2 (.slice a1 x1.length c1) x1) := o1
  have HE1 : Hid (x1.map Prod.fst = ds) := e1
  have HAT1 : Hid (0 < x1.length → a1 = some ⟨vb (.slice a1 x1.length c1), 0, none⟩) := at1
  have HS1 : Hid (∀ x, x ∈ x1 → SmD 1000 x.1) := fun x hx => HSM.out _ (by rw [← HE1.out]; exact List.mem_map_of_mem hx)
  have HL1 : Hid (x1.length ≤ 1000) := by show _ ≤ _; rw [len_map HE1.out]; exact HFW.out
  have CE : Hid (Calls Tryz.prog 9 #[.agg #[.slice a1 x1.length c1], .agg #[.slice a0 x0.length c0]] W2 fun e w' => e = .returned (.bool true) ∧ Below W2.heap.size W2 w') :=
    e_module W2 (HO1.out.rd.below B2) (HR0.out.below HK2.out) (by rw [HE1.out, HE0.out]) (fun x hx => (HS1.out x hx).mono (by omega)) (by have := HL1.out; omega)
  have t0 : W2.cell? ⟨w1.heap.size, 0, none⟩ = some (.slice a0 x0.length c0) := (HX0.out.of_block (HK2.out.block _ HX0.out.lt)).cell (i := 0) (by omega)
  have t1 : W2.cell? ⟨w2.heap.size, 0, none⟩ = some (.slice a1 x1.length c1) := HX1.out.cell (i := 0) (by omega)
  have HB2 : Hid (Below w2.heap.size w2 W2) := B2
  clear b2 o1 e1 at1 B2
  go_upto_region 5 with fail
  rw [← hW2]
  clear hW2
  go_wp2_with fail
  refine CE.out.mono ?_
  rintro e w3 ⟨rfl, b3⟩
  have HB3 : Hid (Below w2.heap.size w2 w3) := HB2.out.trans (b3.mono HB2.out.size)
  have HK3 : Hid (Below W1.heap.size W1 w3) := HK2.out.trans (b3.mono HK2.out.size)
  have X3 := HX1.out.of_block (b3.block _ HX1.out.lt)
  have HX3 : Hid (w3.rowIs w2.heap.size 24 1 (fun _ => .slice a1 x1.length c1)) := X3
  have t1' : w3.cell? ⟨w2.heap.size, 0, none⟩ = some (.slice a1 x1.length c1) := X3.cell (i := 0) (by omega)
  obtain ⟨b, hb⟩ : ∃ b, b = vb (.slice a1 x1.length c1) := ⟨_, rfl⟩
  have HND : Hid (Nd (lDs b 0 x1) ∧ Sp (hDs b 0 x1) (lDs b 0 x1)) := by rw [hb]; exact od_nd HO1.out
  have HHH : Hid (HH w3 (hDs b 0 x1)) := by rw [hb]; exact (od_hh HO1.out).below HB3.out
  have HLV0 : Hid (Lv w2 (lDs b 0 x1)) := by rw [hb]; exact od_lv HO1.out
  have HLV : Hid (Lv w3 (lDs b 0 x1)) := (mkd_of_below HB3.out 0).lv HLV0.out (fun a ha => by cases ha)
  have HNEW : Hid (∀ a, a ∈ lDs b 0 x1 → W1.heap.size ≤ a.1) := fun a ha => by rw [hb] at ha; exact od_new HO1.out ha
  have HAD : Hid (∀ x, x ∈ x1 → AtD x) := od_at HO1.out (fun x hx => (HS1.out x hx).mono (by omega))
  have HFE : Hid ((lDs b 0 x1).length ≤ 1000000000000000) := by rw [hb]; exact od_few HO1.out HS1.out HL1.out
  have HA1 : Hid (0 < x1.length → a1 = some ⟨b, 0, none⟩) := by rw [hb]; exact HAT1.out
  clear hb HAT1 b3 X3 CE
  go_wp2_with fail
  refine (t_markModule a1 c1 b x1 w3 HA1.out HAD.out HHH.out HND.out.2 HLV.out HND.out.1 HFE.out (by have := HL1.out; omega)).mono ?_
  rintro e w4 ⟨rfl, M4⟩
  obtain ⟨y, hy⟩ : ∃ y, y = 1 + (lDs b 0 x1).length := ⟨_, rfl⟩
  have hy2 : y ≤ 1000000000000001 := by have := HFE.out; omega
  have HY : Hid (y = 1 + (lDs b 0 x1).length) := hy
  rw [← hy]
  have HM4 : Hid (Mkd w3 w4 (lDs b 0 x1) 1) := M4
  have HK4 : Hid (Below W1.heap.size W1 w4) := by
    have k3 := HK3.out
    exact ⟨M4.os.trans k3.os, M4.tape.trans k3.tape, M4.output.trans k3.output, Nat.le_trans k3.size M4.size, fun k hk => (M4.block k (Nat.lt_of_lt_of_le hk k3.size) (fun a ha e => by have := HNEW.out a ha; omega)).trans (k3.block k hk)⟩
  have X4 := HX3.out.of_block (M4.block _ HX3.out.lt (fun a ha e => by have := (HLV0.out a ha).1.lt; omega))
  have HX4 : Hid (w4.rowIs w2.heap.size 24 1 (fun _ => .slice a1 x1.length c1)) := X4
  have t1'' : w4.cell? ⟨w2.heap.size, 0, none⟩ = some (.slice a1 x1.length c1) := X4.cell (i := 0) (by omega)
  clear M4 X4 hy
  go_wp2_with fail
  refine (t_heldModule a1 c1 b x1 w4 HA1.out HAD.out (HM4.out.hh HHH.out HND.out.2) HM4.out.at_ HFE.out (by have := HL1.out; omega)).mono ?_
  rintro e w5 ⟨rfl, b5⟩
  rw [← HY.out]
  have ny : ¬ (y : Int) < 0 := by omega
  have HK5 : Hid (Below W1.heap.size W1 w5) := HK4.out.trans (b5.mono HK4.out.size)
  have HB5 : Hid (Below w.heap.size w w5) := HB1.out.trans (HK5.out.mono HB1.out.size)
  have CP5 : Hid (Calls Tryz.prog 8 #[.string s] w5 (ModR w5 ds)) := CP.out w5 HB5.out
  clear b5
  go_wp2_with fail
  refine CP5.out.mono ?_
  rintro e w6 ⟨b6, v2, x2, rfl, o2, e2⟩
  obtain ⟨a2, c2, hv2⟩ := own_form o2.own
  subst hv2
  obtain ⟨W6, hW6⟩ : ∃ W6, W6 = w6.alloc (.cells #[.slice a2 x2.length c2] 24) := ⟨_, rfl⟩
  have B6 : Below w6.heap.size w6 W6 := by rw [hW6]; exact bel1 _ _
  have K6 : Below W1.heap.size W1 W6 := (HK5.out.trans (b6.mono HK5.out.size)).trans (B6.mono (Nat.le_trans HK5.out.size b6.size))
  have E2 : x2.map Prod.fst = ds := e2
  have HB6 : Hid (Below w.heap.size w W6) := HB1.out.trans (K6.mono HB1.out.size)
  have CE6 : Hid (Calls Tryz.prog 9 #[.agg #[.slice a2 x2.length c2], .agg #[.slice a0 x0.length c0]] W6 fun e w' => e = .returned (.bool true) ∧ Below W6.heap.size W6 w') :=
    e_module W6 (o2.rd.below B6) (HR0.out.below K6) (by rw [E2, HE0.out]) (fun x hx => (HSM.out _ (by rw [← E2]; exact List.mem_map_of_mem hx)).mono (by omega)) (by rw [len_map E2]; have := HFW.out; omega)
  have t0' : W6.cell? ⟨w1.heap.size, 0, none⟩ = some (.slice a0 x0.length c0) := (HX0.out.of_block (K6.block _ HX0.out.lt)).cell (i := 0) (by omega)
  have t2 : W6.cell? ⟨w6.heap.size, 0, none⟩ = some (.slice a2 x2.length c2) := by rw [hW6]; exact (row1 w6 _ _).cell (i := 0) (by omega)
  clear b6 o2 e2 B6 K6 E2 t0 t1 t1' t1''
  go_upto_region 16 with fail
  rw [← hW6]
  clear hW6
  go_wp2_with fail
  refine CE6.out.mono ?_
  rintro e w7 ⟨rfl, b7⟩
  have HB7 : Hid (Below w.heap.size w w7) := HB6.out.trans (b7.mono HB6.out.size)
  clear b7
  go_wp2
  go_ret
  exact ⟨rfl, HB7.out⟩

end Go.Proofs.YtcehppndpccldaaGreatDoor
