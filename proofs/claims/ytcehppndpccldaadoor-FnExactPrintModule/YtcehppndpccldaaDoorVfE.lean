/-
  The laws of ValidModule and PrintModule.
-/
import Derived.Test.YtcehppndpccldaaDoorM8
import Derived.Test.YtcehppndpccldaaDoorVfD
import Derived.Test.YtcehppndpccldaaDoorVdD
import Derived.Test.YtcehppndpccldaaDoorVeO
namespace Go.Proofs.YtcehppndpccldaaDoor
open Go.RowKit

theorem szT_of {t : TI} (h : cT t ≤ 1048576) : SzT t ∧ SmT 1048576 t := by
  have hc : cT t = t.md.size + t.nm.size + (t.ns.length + szs t.ns) := rfl
  refine ⟨⟨by omega, fun k hk => ?_, by omega, by omega⟩, by show t.ns.length ≤ _; omega⟩
  have h1 : (t.ns.getD k e0).size ≤ szs t.ns := by
    rw [List.getD_eq_getElem?_getD, List.getElem?_eq_getElem hk]
    exact mem_sum ByteArray.size (List.getElem_mem hk)
  omega
theorem mem_cT {ts : List TI} {t : TI} (h : cTs ts ≤ 1048576) (ht : t ∈ ts) : cT t ≤ 1048576 := by
  have h1 := mem_sum cT ht
  have h2 : cTs ts = ts.length + (ts.map cT).sum := rfl
  omega
theorem szE_of {t : EI} (h : cE t ≤ 1048576) : SzE t ∧ SmE 1048576 t ∧ (∀ u, u ∈ t.ty → SzT u) ∧ t.ty.length ≤ 1048576 := by
  have hc : cE t = t.md.size + t.nm.size + (t.ns.length + szs t.ns) + cTs t.ty := rfl
  have hT : cTs t.ty ≤ 1048576 := by omega
  have h2 : cTs t.ty = t.ty.length + (t.ty.map cT).sum := rfl
  refine ⟨⟨by omega, fun k hk => ?_, by omega, by omega⟩, ⟨by omega, by omega, fun u hu => (szT_of (mem_cT hT hu)).2⟩, fun u hu => (szT_of (mem_cT hT hu)).1, by omega⟩
  have h1 : (t.ns.getD k e0).size ≤ szs t.ns := by
    rw [List.getD_eq_getElem?_getD, List.getElem?_eq_getElem hk]
    exact mem_sum ByteArray.size (List.getElem_mem hk)
  omega
theorem mem_cE {ts : List EI} {t : EI} (h : cEs ts ≤ 1048576) (ht : t ∈ ts) : cE t ≤ 1048576 := by
  have h1 := mem_sum cE ht
  have h2 : cEs ts = ts.length + (ts.map cE).sum := rfl
  omega
theorem smD_of {d : DC} (h : cD d ≤ 1048576) : SmD 1048576 d := by
  have hc : cD d = d.nm.size + cTs d.ty + cEs d.ex := rfl
  have h1 : cTs d.ty = d.ty.length + (d.ty.map cT).sum := rfl
  have h2 : cEs d.ex = d.ex.length + (d.ex.map cE).sum := rfl
  exact ⟨by omega, fun t ht => (szT_of (mem_cT (by omega) ht)).2, by omega, fun t ht => (szE_of (mem_cE (by omega) ht)).2.1⟩
theorem mem_cD {ds : List DC} {d : DC} (h : cDs ds ≤ 1048576) (hd : d ∈ ds) : cD d ≤ 1048576 := by
  have h1 := mem_sum cD hd
  have h2 : cDs ds = ds.length + (ds.map cD).sum := rfl
  omega
/-- A module of one's own. -/
structure MdO (B : Nat) (w : World) (a : Option Addr) (n c : Nat) (ds : List DC) (ys : List (DC × DPl)) : Prop where
  is : ys.map Prod.fst = ds
  len : ys.length = n
  rd : RD B w (.slice a n c) ys
  ds : DsA w (.slice a n c) ys
theorem MdO.below {B : Nat} {w w' : World} {a : Option Addr} {n c : Nat} {ds : List DC} {ys : List (DC × DPl)} (h : MdO B w a n c ds ys) (hb : Below w.heap.size w w') : MdO B w' a n c ds ys := ⟨h.is, h.len, h.rd.below hb, h.ds.below hb⟩
theorem t_module (w : World) {p : AP} {xs : List (DC × DQ)} {ds : List DC} (h : DL w p xs) (hx : xs.map Prod.fst = ds) (hcost : cDs ds ≤ 1048576) :
    Calls Tryd.prog 7 #[.agg #[.slice p.a ds.length p.c]] w fun e w' => (∃ (a : Option Addr) (c : Nat), e = .returned (.agg #[.slice a ds.length c]) ∧ Hid (∃ ys, MdO w.heap.size w' a ds.length c ds ys)) ∧ Below w.heap.size w w' := by
  have hl : ds.length ≤ 1048576 := by
    have h2 : cDs ds = ds.length + (ds.map cD).sum := rfl
    omega
  refine (t_module0 w h hx hl (fun t ht => smD_of (mem_cD hcost ht))).mono ?_
  rintro e w' ⟨v, ys, rfl, OW, hys, hiv, B⟩
  have ly : ys.length = ds.length := by rw [← hys, List.length_map]
  obtain ⟨a, c, rfl⟩ := own_form OW
  have OW2 : w'.ownsRow w.heap.size 38 4 (.slice a ds.length c) ys.length (dcsC ys) := by rw [ly]; exact OW
  refine ⟨⟨a, c, rfl, ys, hys, ly, ⟨OW2, fun y hy => (hiv y hy).ok⟩, ⟨⟨_, OW2⟩, fun y hy => ?_, by rw [hys]; exact hcost⟩⟩, B⟩
  have V := hiv y hy
  have hm : y.1 ∈ ds := by rw [← hys]; exact List.mem_map_of_mem hy
  have hcd := mem_cD hcost hm
  have hc : cD y.1 = y.1.nm.size + cTs y.1.ty + cEs y.1.ex := rfl
  have hct : cTs y.1.ty ≤ 1048576 := by omega
  have hce : cEs y.1.ex ≤ 1048576 := by omega
  have h1 : cTs y.1.ty = y.1.ty.length + (y.1.ty.map cT).sum := rfl
  have h2 : cEs y.1.ex = y.1.ex.length + (y.1.ex.map cE).sum := rfl
  have lz : y.2.zs.length = y.1.ty.length := by rw [← V.ok.isT, List.length_map]
  have le : y.2.es.length = y.1.ex.length := by rw [← V.ok.isE, List.length_map]
  refine ⟨⟨⟨_, V.ok.ty⟩, V.capT, fun z hz => (szT_of (mem_cT hct (by rw [← V.ok.isT]; exact List.mem_map_of_mem hz))).1, by omega⟩, V.ok.isT, ⟨⟨_, V.ok.ex⟩, fun z hz => (V.capE z hz).1, fun z hz => (szE_of (mem_cE hce (by rw [← V.ok.isE]; exact List.mem_map_of_mem hz))).1, by omega, fun z hz => ?_⟩, V.ok.isE, hcd⟩
  have hze := szE_of (mem_cE hce (show z.1 ∈ y.1.ex by rw [← V.ok.isE]; exact List.mem_map_of_mem hz))
  have hzo := V.ok.ex.ok z hz
  have lzz : z.2.zs.length = z.1.ty.length := by rw [← hzo.is, List.length_map]
  exact ⟨fun u hu => ⟨(V.capE z hz).2 u hu, hze.2.2.1 _ (by rw [← hzo.is]; exact List.mem_map_of_mem hu)⟩, by rw [lzz]; exact hze.2.2.2⟩
theorem DL.nums {w : World} {p : AP} {xs : List (DC × DQ)} {ds : List DC} (h : DL w p xs) (hx : xs.map Prod.fst = ds) : ∀ d, d ∈ ds → ∀ e, e ∈ d.ex → i64R e.num := fun d hd e he => by
  rw [← hx] at hd
  obtain ⟨x, hm, rfl⟩ := List.mem_map.1 hd
  obtain ⟨k, hk, rfl⟩ := List.getElem_of_mem hm
  rw [← h.isE k hk] at he
  obtain ⟨y, hn, rfl⟩ := List.mem_map.1 he
  obtain ⟨j, hj, rfl⟩ := List.getElem_of_mem hn
  exact (h.el k hk).num j hj

set_option maxRecDepth 100000 in
set_option maxHeartbeats 4000000 in
theorem l_Valid (w : World) {p : AP} {xs : List (DC × DQ)} {ds : List DC} (h : DL w p xs) (hx : xs.map Prod.fst = ds) (hten : Ten w) :
    Calls Tryd.prog 3 #[.agg #[.slice p.a ds.length p.c]] w fun e w' => e = .returned (.bool true) ∧ Below w.heap.size w w' := by
  have CZ : Hid (∀ W, Below w.heap.size w W → Calls Tryd.prog 5 #[.agg #[.slice p.a ds.length p.c], .int .i64 1048576] W fun e w' => e = .returned (.int .i64 (szR (cDs ds) 1048576)) ∧ Below W.heap.size W w') := fun W hb => z_module W (h.below hb) hx 1048576 (by omega)
  obtain ⟨b, hb⟩ : ∃ b, b = okM ds := ⟨_, rfl⟩
  obtain ⟨n, hn⟩ : ∃ n, n = ds.length := ⟨_, rfl⟩
  by_cases hcost : cDs ds ≤ 1048576
  · have CT : Hid (∀ W, Below w.heap.size w W → Calls Tryd.prog 7 #[.agg #[.slice p.a n p.c]] W fun e w' => (∃ (a : Option Addr) (c : Nat), e = .returned (.agg #[.slice a n c]) ∧ Hid (∃ ys, MdO W.heap.size w' a n c ds ys)) ∧ Below W.heap.size W w') := fun W hb => by rw [hn]; exact t_module W (h.below hb) hx hcost
    have CV : Hid (∀ (W : World) (B : Nat) (a : Option Addr) (c : Nat), (∃ ys, MdO B W a n c ds ys) → Calls Tryd.prog 6 #[.agg #[.slice a n c]] W fun e w' => e = .returned (.bool b) ∧ Below W.heap.size W w') := fun W B a c hm => by
      obtain ⟨ys, m⟩ := hm
      rw [hb]
      exact v_valid W m.ds m.is
    have CP : Hid (∀ (W : World) (B : Nat) (a : Option Addr) (c : Nat), Below w.heap.size w W → (∃ ys, MdO B W a n c ds ys) → Calls Tryd.prog 8 #[.agg #[.slice a n c]] W fun e w' => e = .returned (.bool b) ∧ Below W.heap.size W w') := fun W B a c hbw hm => by
      obtain ⟨ys, m⟩ := hm
      rw [hb, ← m.len]
      exact p_valid W (by have := m.ds; rw [← m.len] at this; exact this) m.is (h.nums hx) (hten.below hbw)
    have CE : Hid (∀ (W : World) (B1 B2 : Nat) (a1 a2 : Option Addr) (c1 c2 : Nat), (∃ ys, MdO B1 W a1 n c1 ds ys) → (∃ ys, MdO B2 W a2 n c2 ds ys) → Calls Tryd.prog 9 #[.agg #[.slice a1 n c1], .agg #[.slice a2 n c2]] W fun e w' => e = .returned (.bool true) ∧ Below W.heap.size W w') := fun W B1 B2 a1 a2 c1 c2 h1 h2 => by
      obtain ⟨ys, m1⟩ := h1
      obtain ⟨zs, m2⟩ := h2
      exact e_module W m1.rd m2.rd (by rw [m1.is, m2.is]) (fun x hxx => smD_of (mem_cD hcost (by rw [← m1.is]; exact List.mem_map_of_mem hxx))) m1.ds.len
    obtain ⟨left, hleft⟩ : ∃ l : Nat, 1048576 = l + cDs ds := ⟨1048576 - cDs ds, by omega⟩
    have hz := szR_le hleft
    have l0 : ¬ (left : Int) < 0 := by omega
    rw [← hn] at CZ ⊢
    rw [hz] at CZ
    clear h hx hten hb hn hcost hleft hz
    obtain ⟨W1, hW1⟩ : ∃ W1, W1 = w.alloc (.cells #[.slice p.a n p.c] 24) := ⟨_, rfl⟩
    have HB1 : Hid (Below w.heap.size w W1) := by rw [hW1]; exact bel1 _ _
    have HX1 : Hid (W1.rowIs w.heap.size 24 1 (fun _ => .slice p.a n p.c)) := by rw [hW1]; exact row1 _ _ _
    have HCL : Hid (∀ W, Below W1.heap.size W1 W → W.cell? ⟨w.heap.size, 0, none⟩ = some (.slice p.a n p.c)) := fun W hb => (HX1.out.of_block (hb.block _ HX1.out.lt)).cell (i := 0) (by omega)
    have C0 := CZ.out W1 HB1.out
    go_enter Tryd.func3, Tryd.ntmps3
    go_wp2_with fail
    rw [← hW1]
    clear hW1
    refine C0.mono ?_
    rintro e w1 ⟨rfl, B1⟩
    have HK1 : Hid (Below W1.heap.size W1 w1) := B1
    have q1 := HCL.out w1 B1
    have C1 := CT.out w1 (HB1.out.trans (HK1.out.mono HB1.out.size))
    clear C0 B1
    go_wp2_with fail
    refine C1.mono ?_
    rintro e w2 ⟨⟨a0, c0, rfl, M0⟩, B2⟩
    have HK2 : Hid (Below W1.heap.size W1 w2) := HK1.out.trans (B2.mono HK1.out.size)
    have C2 := CV.out w2 _ a0 c0 M0.out
    clear C1 B2 q1
    go_wp2_with fail
    refine C2.mono ?_
    rintro e w3 ⟨rfl, B3⟩
    have HK3 : Hid (Below W1.heap.size W1 w3) := HK2.out.trans (B3.mono HK2.out.size)
    have q3 := HCL.out w3 HK3.out
    have C3 := CT.out w3 (HB1.out.trans (HK3.out.mono HB1.out.size))
    clear C2 B3 M0
    go_wp2_with fail
    refine C3.mono ?_
    rintro e w4 ⟨⟨a1, c1, rfl, M1⟩, B4⟩
    have HK4 : Hid (Below W1.heap.size W1 w4) := HK3.out.trans (B4.mono HK3.out.size)
    clear C3 B4 q3
    obtain ⟨W5, hW5⟩ : ∃ W5, W5 = w4.alloc (.cells #[.slice a1 n c1] 29) := ⟨_, rfl⟩
    have HK5 : Hid (Below W1.heap.size W1 W5) := by rw [hW5]; exact HK4.out.alloc HK4.out.size _
    have HX5 : Hid (W5.rowIs w4.heap.size 29 1 (fun _ => .slice a1 n c1)) := by rw [hW5]; exact row1 _ _ _
    have HM5 : Hid (∃ ys, MdO w3.heap.size W5 a1 n c1 ds ys) := by
      obtain ⟨ys, m⟩ := M1.out
      rw [hW5]
      exact ⟨ys, m.below (bel1 _ _)⟩
    have HCM : Hid (∀ W, Below W5.heap.size W5 W → W.cell? ⟨w4.heap.size, 0, none⟩ = some (.slice a1 n c1) ∧ W.cell? ⟨w.heap.size, 0, none⟩ = some (.slice p.a n p.c)) := fun W hb => ⟨(HX5.out.of_block (hb.block _ HX5.out.lt)).cell (i := 0) (by omega), HCL.out W (HK5.out.trans (hb.mono HK5.out.size))⟩
    have C5 := CP.out W5 _ a1 c1 (HB1.out.trans (HK5.out.mono HB1.out.size)) HM5.out
    go_wp2_with fail
    rw [← hW5]
    clear hW5
    refine C5.mono ?_
    rintro e w6 ⟨rfl, B6⟩
    have HK6 : Hid (Below W5.heap.size W5 w6) := B6
    have HK6d : Hid (Below w.heap.size w w6.drew) := (HB1.out.trans ((HK5.out.trans (B6.mono HK5.out.size)).mono HB1.out.size)).drew
    obtain ⟨q6, q7⟩ := HCM.out w6 B6
    have C6 : Hid (Calls Tryd.prog 7 #[.agg #[.slice p.a n p.c]] w6.drew fun e w' => (∃ (a : Option Addr) (c : Nat), e = .returned (.agg #[.slice a n c]) ∧ Hid (∃ ys, MdO w6.drew.heap.size w' a n c ds ys)) ∧ Below w6.drew.heap.size w6.drew w') := CT.out w6.drew HK6d.out
    have hbb : (b != b) = false := by cases b <;> rfl
    clear C5 B6
    go_wp2
    go_region_held3 (fun w' => w'.cell? ⟨w4.heap.size, 0, none⟩ = some (.slice a1 n c1) ∧ w'.cell? ⟨w.heap.size, 0, none⟩ = some (.slice p.a n p.c)) (go_keep) (first
      | (go_at_call 7; (with_reducible refine C6.out.mono ?_); rintro e u0 ⟨⟨a2, c2, rfl, M2⟩, V0⟩; have K0 : Below W5.heap.size W5 u0 := (HK6.out.drew).trans (V0.mono HK6.out.size); obtain ⟨r0, r1⟩ := HCM.out u0 K0; have C7 := CE.out u0 w3.heap.size w6.drew.heap.size a1 a2 c1 c2 (by obtain ⟨ys, m⟩ := HM5.out; exact ⟨ys, m.below K0⟩) M2.out)
      | (go_at_call 9; (with_reducible refine C7.mono ?_); rintro e u1 ⟨rfl, V1⟩; obtain ⟨s0, s1⟩ := HCM.out u1 (K0.trans (V1.mono K0.size))))
    all_goals
      have HEND : Hid (Below w.heap.size w u1) := HB1.out.trans ((HK5.out.trans ((K0.trans (V1.mono K0.size)).mono HK5.out.size)).mono HB1.out.size)
      clear C7 V1 V0 K0 r0 r1 s0 s1 M2
      go_wp2
      go_ret
      exact ⟨rfl, HEND.out⟩
  · have C0 := CZ.out (w.alloc (.cells #[.slice p.a ds.length p.c] 24)) (bel1 _ _)
    rw [szR_gt (by omega)] at C0
    rw [← hn] at C0 ⊢
    clear h hx hten hb hn hcost CZ
    go_enter Tryd.func3, Tryd.ntmps3
    go_wp2_with fail
    refine C0.mono ?_
    rintro e w1 ⟨rfl, B1⟩
    have HB : Hid (Below w.heap.size w w1) := (bel1 w _).trans (B1.mono (by simp))
    clear C0 B1
    go_wp2
    go_ret
    exact ⟨rfl, HB.out⟩

set_option maxRecDepth 100000 in
set_option maxHeartbeats 4000000 in
theorem l_Print (w : World) {p : AP} {xs : List (DC × DQ)} {ds : List DC} (h : DL w p xs) (hx : xs.map Prod.fst = ds) (hten : Ten w) :
    Calls Tryd.prog 4 #[.agg #[.slice p.a ds.length p.c]] w fun e w' => e = .returned (.bool true) ∧ Below w.heap.size w w' := by
  have CZ : Hid (∀ W, Below w.heap.size w W → Calls Tryd.prog 5 #[.agg #[.slice p.a ds.length p.c], .int .i64 1048576] W fun e w' => e = .returned (.int .i64 (szR (cDs ds) 1048576)) ∧ Below W.heap.size W w') := fun W hb => z_module W (h.below hb) hx 1048576 (by omega)
  obtain ⟨b, hb⟩ : ∃ b, b = prM ds := ⟨_, rfl⟩
  obtain ⟨n, hn⟩ : ∃ n, n = ds.length := ⟨_, rfl⟩
  by_cases hcost : cDs ds ≤ 1048576
  · have CT : Hid (∀ W, Below w.heap.size w W → Calls Tryd.prog 7 #[.agg #[.slice p.a n p.c]] W fun e w' => (∃ (a : Option Addr) (c : Nat), e = .returned (.agg #[.slice a n c]) ∧ Hid (∃ ys, MdO W.heap.size w' a n c ds ys)) ∧ Below W.heap.size W w') := fun W hb => by rw [hn]; exact t_module W (h.below hb) hx hcost
    have CV : Hid (∀ (W : World) (B : Nat) (a : Option Addr) (c : Nat), (∃ ys, MdO B W a n c ds ys) → Calls Tryd.prog 10 #[.agg #[.slice a n c]] W fun e w' => e = .returned (.string b) ∧ Below W.heap.size W w') := fun W B a c hm => by
      obtain ⟨ys, m⟩ := hm
      rw [hb]
      exact v_print W m.ds m.is
    have CP : Hid (∀ (W : World) (B : Nat) (a : Option Addr) (c : Nat), Below w.heap.size w W → (∃ ys, MdO B W a n c ds ys) → Calls Tryd.prog 11 #[.agg #[.slice a n c]] W fun e w' => e = .returned (.string b) ∧ Below W.heap.size W w') := fun W B a c hbw hm => by
      obtain ⟨ys, m⟩ := hm
      rw [hb, ← m.len]
      exact p_print W (by have := m.ds; rw [← m.len] at this; exact this) m.is (h.nums hx) (hten.below hbw)
    have CE : Hid (∀ (W : World) (B1 B2 : Nat) (a1 a2 : Option Addr) (c1 c2 : Nat), (∃ ys, MdO B1 W a1 n c1 ds ys) → (∃ ys, MdO B2 W a2 n c2 ds ys) → Calls Tryd.prog 9 #[.agg #[.slice a1 n c1], .agg #[.slice a2 n c2]] W fun e w' => e = .returned (.bool true) ∧ Below W.heap.size W w') := fun W B1 B2 a1 a2 c1 c2 h1 h2 => by
      obtain ⟨ys, m1⟩ := h1
      obtain ⟨zs, m2⟩ := h2
      exact e_module W m1.rd m2.rd (by rw [m1.is, m2.is]) (fun x hxx => smD_of (mem_cD hcost (by rw [← m1.is]; exact List.mem_map_of_mem hxx))) m1.ds.len
    obtain ⟨left, hleft⟩ : ∃ l : Nat, 1048576 = l + cDs ds := ⟨1048576 - cDs ds, by omega⟩
    have hz := szR_le hleft
    have l0 : ¬ (left : Int) < 0 := by omega
    rw [← hn] at CZ ⊢
    rw [hz] at CZ
    clear h hx hten hb hn hcost hleft hz
    obtain ⟨W1, hW1⟩ : ∃ W1, W1 = w.alloc (.cells #[.slice p.a n p.c] 24) := ⟨_, rfl⟩
    have HB1 : Hid (Below w.heap.size w W1) := by rw [hW1]; exact bel1 _ _
    have HX1 : Hid (W1.rowIs w.heap.size 24 1 (fun _ => .slice p.a n p.c)) := by rw [hW1]; exact row1 _ _ _
    have HCL : Hid (∀ W, Below W1.heap.size W1 W → W.cell? ⟨w.heap.size, 0, none⟩ = some (.slice p.a n p.c)) := fun W hb => (HX1.out.of_block (hb.block _ HX1.out.lt)).cell (i := 0) (by omega)
    have C0 := CZ.out W1 HB1.out
    go_enter Tryd.func4, Tryd.ntmps4
    go_wp2_with fail
    rw [← hW1]
    clear hW1
    refine C0.mono ?_
    rintro e w1 ⟨rfl, B1⟩
    have HK1 : Hid (Below W1.heap.size W1 w1) := B1
    have q1 := HCL.out w1 B1
    have C1 := CT.out w1 (HB1.out.trans (HK1.out.mono HB1.out.size))
    clear C0 B1
    go_wp2_with fail
    refine C1.mono ?_
    rintro e w2 ⟨⟨a0, c0, rfl, M0⟩, B2⟩
    have HK2 : Hid (Below W1.heap.size W1 w2) := HK1.out.trans (B2.mono HK1.out.size)
    have C2 := CV.out w2 _ a0 c0 M0.out
    clear C1 B2 q1
    go_wp2_with fail
    refine C2.mono ?_
    rintro e w3 ⟨rfl, B3⟩
    have HK3 : Hid (Below W1.heap.size W1 w3) := HK2.out.trans (B3.mono HK2.out.size)
    have q3 := HCL.out w3 HK3.out
    have C3 := CT.out w3 (HB1.out.trans (HK3.out.mono HB1.out.size))
    clear C2 B3 M0
    go_wp2_with fail
    refine C3.mono ?_
    rintro e w4 ⟨⟨a1, c1, rfl, M1⟩, B4⟩
    have HK4 : Hid (Below W1.heap.size W1 w4) := HK3.out.trans (B4.mono HK3.out.size)
    clear C3 B4 q3
    obtain ⟨W5, hW5⟩ : ∃ W5, W5 = w4.alloc (.cells #[.slice a1 n c1] 29) := ⟨_, rfl⟩
    have HK5 : Hid (Below W1.heap.size W1 W5) := by rw [hW5]; exact HK4.out.alloc HK4.out.size _
    have HX5 : Hid (W5.rowIs w4.heap.size 29 1 (fun _ => .slice a1 n c1)) := by rw [hW5]; exact row1 _ _ _
    have HM5 : Hid (∃ ys, MdO w3.heap.size W5 a1 n c1 ds ys) := by
      obtain ⟨ys, m⟩ := M1.out
      rw [hW5]
      exact ⟨ys, m.below (bel1 _ _)⟩
    have HCM : Hid (∀ W, Below W5.heap.size W5 W → W.cell? ⟨w4.heap.size, 0, none⟩ = some (.slice a1 n c1) ∧ W.cell? ⟨w.heap.size, 0, none⟩ = some (.slice p.a n p.c)) := fun W hb => ⟨(HX5.out.of_block (hb.block _ HX5.out.lt)).cell (i := 0) (by omega), HCL.out W (HK5.out.trans (hb.mono HK5.out.size))⟩
    have C5 := CP.out W5 _ a1 c1 (HB1.out.trans (HK5.out.mono HB1.out.size)) HM5.out
    go_wp2_with fail
    rw [← hW5]
    clear hW5
    refine C5.mono ?_
    rintro e w6 ⟨rfl, B6⟩
    have HK6 : Hid (Below W5.heap.size W5 w6) := B6
    have HK6d : Hid (Below w.heap.size w w6.drew) := (HB1.out.trans ((HK5.out.trans (B6.mono HK5.out.size)).mono HB1.out.size)).drew
    obtain ⟨q6, q7⟩ := HCM.out w6 B6
    have C6 : Hid (Calls Tryd.prog 7 #[.agg #[.slice p.a n p.c]] w6.drew fun e w' => (∃ (a : Option Addr) (c : Nat), e = .returned (.agg #[.slice a n c]) ∧ Hid (∃ ys, MdO w6.drew.heap.size w' a n c ds ys)) ∧ Below w6.drew.heap.size w6.drew w') := CT.out w6.drew HK6d.out
    have hbb : True := trivial
    clear C5 B6
    go_wp2
    go_region_held3 (fun w' => w'.cell? ⟨w4.heap.size, 0, none⟩ = some (.slice a1 n c1) ∧ w'.cell? ⟨w.heap.size, 0, none⟩ = some (.slice p.a n p.c)) (go_keep) (first
      | (go_at_call 7; (with_reducible refine C6.out.mono ?_); rintro e u0 ⟨⟨a2, c2, rfl, M2⟩, V0⟩; have K0 : Below W5.heap.size W5 u0 := (HK6.out.drew).trans (V0.mono HK6.out.size); obtain ⟨r0, r1⟩ := HCM.out u0 K0; have C7 := CE.out u0 w3.heap.size w6.drew.heap.size a1 a2 c1 c2 (by obtain ⟨ys, m⟩ := HM5.out; exact ⟨ys, m.below K0⟩) M2.out)
      | (go_at_call 9; (with_reducible refine C7.mono ?_); rintro e u1 ⟨rfl, V1⟩; obtain ⟨s0, s1⟩ := HCM.out u1 (K0.trans (V1.mono K0.size))))
    all_goals
      have HEND : Hid (Below w.heap.size w u1) := HB1.out.trans ((HK5.out.trans ((K0.trans (V1.mono K0.size)).mono HK5.out.size)).mono HB1.out.size)
      clear C7 V1 V0 K0 r0 r1 s0 s1 M2
      go_wp2
      go_ret
      exact ⟨rfl, HEND.out⟩
  · have C0 := CZ.out (w.alloc (.cells #[.slice p.a ds.length p.c] 24)) (bel1 _ _)
    rw [szR_gt (by omega)] at C0
    rw [← hn] at C0 ⊢
    clear h hx hten hb hn hcost CZ
    go_enter Tryd.func4, Tryd.ntmps4
    go_wp2_with fail
    refine C0.mono ?_
    rintro e w1 ⟨rfl, B1⟩
    have HB : Hid (Below w.heap.size w w1) := (bel1 w _).trans (B1.mono (by simp))
    clear C0 B1
    go_wp2
    go_ret
    exact ⟨rfl, HB.out⟩

end Go.Proofs.YtcehppndpccldaaDoor
