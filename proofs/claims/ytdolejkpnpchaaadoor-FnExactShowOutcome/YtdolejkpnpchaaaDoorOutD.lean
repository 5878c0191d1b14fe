/-
  Outcomes as text: the model's ShowOutcome.
-/
import Derived.Test.YtdolejkpnpchaaaDoorOutC
import Derived.Deep.RegionWith
import Derived.Deep.RegionHeld3
import Derived.Deep.DeepCutAuto
import Derived.Laws.BytesArg
import Derived.Laws.IdiomStrings
namespace Go.Proofs.YtdolejkpnpchaaaDoor
open Go.RowKit

/-- The answers in memory. -/
structure AnsAt (W : World) (oa : Option Addr) (ga n : Nat) (A : Nat → AD) (P : Nat → Option Addr × Nat × Nat) : Prop where
  here : 0 < n → oa = some ⟨ga, 0, none⟩
  c0 : ∀ i, i < n → W.cell? ⟨ga, i * 5, none⟩ = some (.int .i64 (A i).call)
  c1 : ∀ i, i < n → W.cell? ⟨ga, i * 5 + 1, none⟩ = some (.string (A i).name)
  c2 : ∀ i, i < n → W.cell? ⟨ga, i * 5 + 2, none⟩ = some (.int .i64 (A i).rev)
  c3 : ∀ i, i < n → W.cell? ⟨ga, i * 5 + 3, none⟩ = some (.bool (A i).full)
  c4 : ∀ i, i < n → W.cell? ⟨ga, i * 5 + 4, none⟩ = some (.slice (P i).1 (A i).nd (P i).2.2)
  dh : ∀ i, i < n → 0 < (A i).nd → (P i).1 = some ⟨(P i).2.1, 0, none⟩
  d0 : ∀ i, i < n → ∀ j, j < (A i).nd → W.cell? ⟨(P i).2.1, j * 2, none⟩ = some (.int .i64 ((A i).dg j).1)
  d1 : ∀ i, i < n → ∀ j, j < (A i).nd → W.cell? ⟨(P i).2.1, j * 2 + 1, none⟩ = some (.int .i64 ((A i).dg j).2)

/-- The keys that ran, in memory. -/
structure RanAt (W : World) (oa : Option Addr) (ga n : Nat) (R : Nat → RD) : Prop where
  here : 0 < n → oa = some ⟨ga, 0, none⟩
  c0 : ∀ i, i < n → W.cell? ⟨ga, i * 4, none⟩ = some (.int .i64 (R i).kind)
  c1 : ∀ i, i < n → W.cell? ⟨ga, i * 4 + 1, none⟩ = some (.string (R i).mod)
  c2 : ∀ i, i < n → W.cell? ⟨ga, i * 4 + 2, none⟩ = some (.int .i64 (R i).rev)
  c3 : ∀ i, i < n → W.cell? ⟨ga, i * 4 + 3, none⟩ = some (.int .i64 (R i).wk)

theorem cell_lt {w : World} {p : Addr} {v : Value} (h : w.cell? p = some v) : p.block < w.heap.size := by
  rcases Nat.lt_or_ge p.block w.heap.size with h1 | h1
  · exact h1
  · rw [World.cell?, Array.getElem?_eq_none h1] at h; simp at h
theorem cell_kept {w w' : World} {p : Addr} {v : Value} (h : w.cell? p = some v) (hb : Below w.heap.size w w') : w'.cell? p = some v := (hb.cell (cell_lt h)).trans h
theorem AnsAt.below {W W' : World} {oa : Option Addr} {ga n : Nat} {A : Nat → AD} {P : Nat → Option Addr × Nat × Nat} (h : AnsAt W oa ga n A P) (hb : Below W.heap.size W W') : AnsAt W' oa ga n A P :=
  ⟨h.here, fun i hi => cell_kept (h.c0 i hi) hb, fun i hi => cell_kept (h.c1 i hi) hb, fun i hi => cell_kept (h.c2 i hi) hb, fun i hi => cell_kept (h.c3 i hi) hb, fun i hi => cell_kept (h.c4 i hi) hb, h.dh, fun i hi j hj => cell_kept (h.d0 i hi j hj) hb, fun i hi j hj => cell_kept (h.d1 i hi j hj) hb⟩

theorem RanAt.below {W W' : World} {oa : Option Addr} {ga n : Nat} {R : Nat → RD} (h : RanAt W oa ga n R) (hb : Below W.heap.size W W') : RanAt W' oa ga n R :=
  ⟨h.here, fun i hi => cell_kept (h.c0 i hi) hb, fun i hi => cell_kept (h.c1 i hi) hb, fun i hi => cell_kept (h.c2 i hi) hb, fun i hi => cell_kept (h.c3 i hi) hb⟩

def t5 (a b c d e : Value) : Nat → Value
  | 0 => a
  | 1 => b
  | 2 => c
  | 3 => d
  | _ => e
theorem rowt5 (w : World) (a b c d e : Value) (t : TypeId) : (w.alloc (.cells #[a, b, c, d, e] t)).rowIs w.heap.size t 5 (t5 a b c d e) :=
  World.rowIs_alloc w #[a, b, c, d, e] t _ (fun i hi => by
    match i, hi with
    | 0, _ => rfl
    | 1, _ => rfl
    | 2, _ => rfl
    | 3, _ => rfl
    | 4, _ => rfl)
/-- The box of an answer. -/
def Box5 (W : World) (b : Nat) (call : Int) (nm : ByteArray) (rv : Int) (fl : Bool) (ds : Value) : Prop :=
  W.cell? ⟨b, 0, none⟩ = some (.int .i64 call) ∧ W.cell? ⟨b, 1, none⟩ = some (.string nm) ∧ W.cell? ⟨b, 2, none⟩ = some (.int .i64 rv) ∧ W.cell? ⟨b, 3, none⟩ = some (.bool fl) ∧ W.cell? ⟨b, 4, none⟩ = some ds
theorem box5 (w : World) (t : TypeId) (call : Int) (nm : ByteArray) (rv : Int) (fl : Bool) (ds : Value) : Box5 (w.alloc (.cells #[.int .i64 call, .string nm, .int .i64 rv, .bool fl, ds] t)) w.heap.size call nm rv fl ds := by
  have r := rowt5 w (.int .i64 call) (.string nm) (.int .i64 rv) (.bool fl) ds t
  exact ⟨r.cell (i := 0) (by omega), r.cell (i := 1) (by omega), r.cell (i := 2) (by omega), r.cell (i := 3) (by omega), r.cell (i := 4) (by omega)⟩
theorem Box5.of_block {W W' : World} {b : Nat} {call : Int} {nm : ByteArray} {rv : Int} {fl : Bool} {ds : Value} (h : Box5 W b call nm rv fl ds) (hb : W'.heap[b]? = W.heap[b]?) : Box5 W' b call nm rv fl ds :=
  ⟨(World.cell?_of_block hb).trans h.1, (World.cell?_of_block hb).trans h.2.1, (World.cell?_of_block hb).trans h.2.2.1, (World.cell?_of_block hb).trans h.2.2.2.1, (World.cell?_of_block hb).trans h.2.2.2.2⟩

theorem app_nil (x : ByteArray) : x ++ (⟨#[]⟩ : ByteArray) = x := by show x ++ ByteArray.empty = x; simp

/-- string(b), of bytes in memory of one's own. -/
theorem own_str {w : World} {base : Nat} {v : Value} {x : ByteArray} (h : Own5 w base v x) : (convert 44 9 v).run Tryd.prog w = .ok (.string x) w := by
  rcases h.2 with ⟨rfl, h0⟩ | ⟨g, cap, cur, rfl, h1, h2, h3, h4, h5, h6⟩
  · rw [run_convert_bytes_nil w 44 5 Tryd.underlying44 Tryd.underlying5 0 0 9 Tryd.underlying9]
    have : x = ByteArray.empty := by
      apply ByteArray.ext
      exact Array.eq_empty_of_size_eq_zero h0
    rw [this]
  · have hl : x.data.toList.length = x.size := rfl
    have hh := run_convert_bytes_back (P := Tryd.prog) w 44 9 5 ⟨g, 0, none⟩ cap x.data.toList Tryd.underlying44 Tryd.underlying5 Tryd.underlying9 (fun j hj => by
      refine World.ownsRow.cells h (g := g) rfl j _ ?_
      unfold bl
      rw [List.getElem?_map, List.getElem?_eq_getElem hj]
      rfl)
    rw [hl] at hh
    rw [hh]

theorem hid_of {p : Prop} (h : p) : Hid p := h
/-- Where the text stands, with the answer's box. -/
structure St (w1 : World) (b0 bA : Nat) (call : Int) (nm : ByteArray) (rv : Int) (fl : Bool) (ds : Value) (W : World) (v : Value) (x : ByteArray) : Prop where
  own : Own5 W (b0 + 1) v x
  below : Below (b0 + 1) w1 W
  box : Box5 W bA call nm rv fl ds
  ne : v.ownBlock ≠ some bA
theorem St.drewN {w1 : World} {b0 bA : Nat} {call : Int} {nm : ByteArray} {rv : Int} {fl : Bool} {ds : Value} {W : World} {v : Value} {x : ByteArray} (h : St w1 b0 bA call nm rv fl ds W v x) (m : Nat) : St w1 b0 bA call nm rv fl ds (W.drewN m) v x :=
  ⟨h.own, ⟨h.below.os, h.below.tape, h.below.output, h.below.size, h.below.block⟩, h.box, h.ne⟩
theorem st_put {w1 : World} {b0 bA : Nat} {call : Int} {nm : ByteArray} {rv : Int} {fl : Bool} {ds : Value} {W : World} {v : Value} {x : ByteArray} (hs1 : w1.heap.size = b0 + 1) (h : St w1 b0 bA call nm rv fl ds W v x) (s : ByteArray) (hs : x.size + s.size ≤ 140000000000000) :
    Calls Tryd.prog 12 #[v, .string s] W fun e w' => ∃ v', e = .returned v' ∧ Hid (St w1 b0 bA call nm rv fl ds w' v' (x ++ s)) := by
  have hb : b0 + 1 ≤ W.heap.size := by rw [← hs1]; exact h.below.size
  have hl : bA < W.heap.size := cell_lt h.box.1
  refine (m_put v x s (b0 + 1) W hb h.own hs).mono ?_
  rintro e w' ⟨v', he, ho, hp⟩
  refine ⟨v', he, ho, h.below.trans (hp.below hb h.own), h.box.of_block (hp.1.block bA hl (fun e => h.ne e.symm)), fun e => ?_⟩
  rcases hp.2 bA e with h' | h'
  · exact h.ne h'
  · omega

def t4 (a b c d : Value) : Nat → Value
  | 0 => a
  | 1 => b
  | 2 => c
  | _ => d
theorem rowt4 (w : World) (a b c d : Value) (t : TypeId) : (w.alloc (.cells #[a, b, c, d] t)).rowIs w.heap.size t 4 (t4 a b c d) :=
  World.rowIs_alloc w #[a, b, c, d] t _ (fun i hi => by
    match i, hi with
    | 0, _ => rfl
    | 1, _ => rfl
    | 2, _ => rfl
    | 3, _ => rfl)
/-- The box of a key that ran. -/
def Box4 (W : World) (b : Nat) (kd : Int) (md : ByteArray) (rv wk : Int) : Prop :=
  W.cell? ⟨b, 0, none⟩ = some (.int .i64 kd) ∧ W.cell? ⟨b, 1, none⟩ = some (.string md) ∧ W.cell? ⟨b, 2, none⟩ = some (.int .i64 rv) ∧ W.cell? ⟨b, 3, none⟩ = some (.int .i64 wk)
theorem box4 (w : World) (t : TypeId) (kd : Int) (md : ByteArray) (rv wk : Int) : Box4 (w.alloc (.cells #[.int .i64 kd, .string md, .int .i64 rv, .int .i64 wk] t)) w.heap.size kd md rv wk := by
  have r := rowt4 w (.int .i64 kd) (.string md) (.int .i64 rv) (.int .i64 wk) t
  exact ⟨r.cell (i := 0) (by omega), r.cell (i := 1) (by omega), r.cell (i := 2) (by omega), r.cell (i := 3) (by omega)⟩
theorem Box4.of_block {W W' : World} {b : Nat} {kd : Int} {md : ByteArray} {rv wk : Int} (h : Box4 W b kd md rv wk) (hb : W'.heap[b]? = W.heap[b]?) : Box4 W' b kd md rv wk :=
  ⟨(World.cell?_of_block hb).trans h.1, (World.cell?_of_block hb).trans h.2.1, (World.cell?_of_block hb).trans h.2.2.1, (World.cell?_of_block hb).trans h.2.2.2⟩
/-- Where the text stands, with the box of a key that ran. -/
structure Sr (w1 : World) (b0 bA : Nat) (kd : Int) (md : ByteArray) (rv wk : Int) (W : World) (v : Value) (x : ByteArray) : Prop where
  own : Own5 W (b0 + 1) v x
  below : Below (b0 + 1) w1 W
  box : Box4 W bA kd md rv wk
  ne : v.ownBlock ≠ some bA
theorem Sr.drewN {w1 : World} {b0 bA : Nat} {kd : Int} {md : ByteArray} {rv wk : Int} {W : World} {v : Value} {x : ByteArray} (h : Sr w1 b0 bA kd md rv wk W v x) (m : Nat) : Sr w1 b0 bA kd md rv wk (W.drewN m) v x :=
  ⟨h.own, ⟨h.below.os, h.below.tape, h.below.output, h.below.size, h.below.block⟩, h.box, h.ne⟩
theorem sr_put {w1 : World} {b0 bA : Nat} {kd : Int} {md : ByteArray} {rv wk : Int} {W : World} {v : Value} {x : ByteArray} (hs1 : w1.heap.size = b0 + 1) (h : Sr w1 b0 bA kd md rv wk W v x) (s : ByteArray) (hs : x.size + s.size ≤ 140000000000000) :
    Calls Tryd.prog 12 #[v, .string s] W fun e w' => ∃ v', e = .returned v' ∧ Hid (Sr w1 b0 bA kd md rv wk w' v' (x ++ s)) := by
  have hb : b0 + 1 ≤ W.heap.size := by rw [← hs1]; exact h.below.size
  have hl : bA < W.heap.size := cell_lt h.box.1
  refine (m_put v x s (b0 + 1) W hb h.own hs).mono ?_
  rintro e w' ⟨v', he, ho, hp⟩
  refine ⟨v', he, ho, h.below.trans (hp.below hb h.own), h.box.of_block (hp.1.block bA hl (fun e => h.ne e.symm)), fun e => ?_⟩
  rcases hp.2 bA e with h' | h'
  · exact h.ne h'
  · omega

set_option maxRecDepth 100000 in
set_option maxHeartbeats 4000000 in
theorem m_out (code drops rev slots : Int) (oa : Option Addr) (ga n ca : Nat) (A : Nat → AD) (P : Nat → Option Addr × Nat × Nat) (orr : Option Addr) (gr m cr : Nat) (R : Nat → RD) (st : Value) (w : World) (hn : n ≤ 1048576) (hm : m ≤ 1048576) (HA : Hid (AnsAt w oa ga n A P)) (HK : Hid (∀ i, i < n → AOk (A i))) (HR : Hid (RanAt w orr gr m R)) (HKR : Hid (∀ i, i < m → ROk (R i))) (HI : Hid (i64R code ∧ i64R rev ∧ i64R drops ∧ i64R slots)) :
    Calls Tryd.prog 5 #[.agg #[.int .i64 code, .slice oa n ca, .slice orr m cr, .int .i64 drops, .int .i64 rev, .int .i64 slots, st]] w fun e w' => e = .returned (.string (outT A n R m code rev drops slots)) ∧ Below w.heap.size w w' := by
  obtain ⟨b0, hb0⟩ : ∃ b0, b0 = w.heap.size := ⟨_, rfl⟩
  obtain ⟨w1, hw1⟩ : ∃ w1, w1 = w.alloc (.cells #[.int .i64 code, .slice oa n ca, .slice orr m cr, .int .i64 drops, .int .i64 rev, .int .i64 slots, st] 37) := ⟨_, rfl⟩
  have hs1 : w1.heap.size = b0 + 1 := by rw [hw1, hb0]; simp
  have O0 : Hid (Own5 (w1.alloc (.cells #[] 5)) (b0 + 1) (.slice (some ⟨b0 + 1, 0, none⟩) 0 0) (ansT A 0)) := by
    rw [← hs1]; exact World.ownsRow_lit w1 #[] 0 (Nat.le_refl _) (by unfold maxLen; omega) rfl
  have B0 : Hid (Below (b0 + 1) w1 (w1.alloc (.cells #[] 5))) := (Below.refl _ _).alloc (by omega) _
  have HB0 : Hid (1 < 7) := by show 1 < 7; omega
  have HR1 : Hid (RanAt w1 orr gr m R) := by rw [hw1]; exact HR.out.below ((Below.refl _ _).alloc (Nat.le_refl _) _)
  have HA1 : Hid (AnsAt w1 oa ga n A P) := by rw [hw1]; exact HA.out.below ((Below.refl _ _).alloc (Nat.le_refl _) _)
  go_enter Tryd.func5, Tryd.ntmps5
  go_wp2_with fail
  rw [← hb0, ← hw1]
  have HB1 : Hid (w1 = w.alloc (.cells #[.int .i64 code, .slice oa n ca, .slice orr m cr, .int .i64 drops, .int .i64 rev, .int .i64 slots, st] 37)) := hw1
  have HBW : Hid (b0 = w.heap.size) := hb0
  clear hw1 hb0
  go_loopw [3, 4] (fun v i wr => ∃ k : Nat, k ≤ n ∧ i = .int .i64 (k : Int) ∧ Hid (Own5 wr (b0 + 1) v (ansT A k)) ∧ Hid (Below (b0 + 1) w1 wr)) (fun _ i _ => n - (intOf i).toNat)
  case atStart => exact ⟨0, Nat.zero_le _, rfl, O0, B0⟩
  case round =>
    obtain ⟨k, hk, rfl, HO, HB⟩ := hrel
    clear O0 B0
    have HBXC : Hid (∀ W, Below (b0 + 1) w1 W → W.cell? ⟨b0, 0, none⟩ = some (.int .i64 code) ∧ W.cell? ⟨b0, 2, none⟩ = some (.slice orr m cr) ∧ W.cell? ⟨b0, 3, none⟩ = some (.int .i64 drops) ∧ W.cell? ⟨b0, 4, none⟩ = some (.int .i64 rev) ∧ W.cell? ⟨b0, 5, none⟩ = some (.int .i64 slots)) := fun W hW => by
      have r : w1.rowIs b0 37 7 (fun i => (#[.int .i64 code, .slice oa n ca, .slice orr m cr, .int .i64 drops, .int .i64 rev, .int .i64 slots, st] : Array Value)[i]?.getD undef) := by
        rw [HB1.out, HBW.out]
        exact World.rowIs_alloc w #[.int .i64 code, .slice oa n ca, .slice orr m cr, .int .i64 drops, .int .i64 rev, .int .i64 slots, st] 37 _ (fun i hi => by rw [Array.getElem?_eq_getElem hi]; rfl)
      have r2 := r.of_block (hW.block b0 (Nat.lt_succ_self b0))
      exact ⟨r2.cell (i := 0) (by omega), r2.cell (i := 2) (by omega), r2.cell (i := 3) (by omega), r2.cell (i := 4) (by omega), r2.cell (i := 5) (by omega)⟩
    have bx : wr.cell? ⟨b0, 1, none⟩ = some (.slice oa n ca) := by
      rw [HB.out.cell (Nat.lt_succ_self b0), HB1.out, HBW.out]
      exact (World.rowIs_alloc w #[.int .i64 code, .slice oa n ca, .slice orr m cr, .int .i64 drops, .int .i64 rev, .int .i64 slots, st] 37 (fun i => (#[.int .i64 code, .slice oa n ca, .slice orr m cr, .int .i64 drops, .int .i64 rev, .int .i64 slots, st] : Array Value)[i]?.getD undef) (fun i hi => by rw [Array.getElem?_eq_getElem hi]; rfl)).cell HB0.out
    have HAr : Hid (AnsAt wr oa ga n A P) := HA1.out.below (by rw [hs1]; exact HB.out)
    by_cases hlt : k < n
    · obtain ⟨call, hcall⟩ : ∃ z, z = (A k).call := ⟨_, rfl⟩
      obtain ⟨nm, hnm⟩ : ∃ z, z = (A k).name := ⟨_, rfl⟩
      obtain ⟨rv, hrv⟩ : ∃ z, z = (A k).rev := ⟨_, rfl⟩
      obtain ⟨fl, hfl⟩ : ∃ z, z = (A k).full := ⟨_, rfl⟩
      obtain ⟨nd, hnd⟩ : ∃ z, z = (A k).nd := ⟨_, rfl⟩
      obtain ⟨dg, hdg⟩ : ∃ z, z = (A k).dg := ⟨_, rfl⟩
      obtain ⟨od, hod⟩ : ∃ z, z = (P k).1 := ⟨_, rfl⟩
      obtain ⟨cd, hcd⟩ : ∃ z, z = (P k).2.2 := ⟨_, rfl⟩
      have e0 := HAr.out.here (by omega)
      subst e0
      have k0 := HAr.out.c0 k hlt
      have k1 := HAr.out.c1 k hlt
      have k2 := HAr.out.c2 k hlt
      have k3 := HAr.out.c3 k hlt
      have k4 := HAr.out.c4 k hlt
      rw [← hcall] at k0
      rw [← hnm] at k1
      rw [← hrv] at k2
      rw [← hfl] at k3
      rw [← hnd, ← hod, ← hcd] at k4
      obtain ⟨ds, hds⟩ : ∃ z, z = Value.slice od nd cd := ⟨_, rfl⟩
      obtain ⟨bA, hbA⟩ : ∃ z, z = wr.heap.size := ⟨_, rfl⟩
      obtain ⟨Y, hY⟩ : ∃ Y, Y = wr.alloc (.cells #[.int .i64 call, .string nm, .int .i64 rv, .bool fl, .slice od nd cd] 47) := ⟨_, rfl⟩
      have BX : Hid (Box5 Y bA call nm rv fl (.slice od nd cd)) := by rw [hY, hbA]; exact box5 wr _ _ _ _ _ _
      have OY : Hid (Own5 Y (b0 + 1) u3 (ansT A k)) := by rw [hY]; exact HO.out.alloc _
      have hYs : Y.heap.size = bA + 1 := by rw [hY, hbA]; simp
      have hbb : b0 + 1 ≤ bA := by rw [hbA, ← hs1]; exact HB.out.size
      have BY : Hid (Below (b0 + 1) w1 Y) := by rw [hY]; exact HB.out.alloc (by omega) _
      have NB : Hid (u3.ownBlock ≠ some bA) := fun h => by have := (HO.out.lt bA h).2; omega
      have OK := HK.out k hlt
      have z1 : nm.size ≤ 1048576 := by rw [hnm]; exact OK.name
      obtain ⟨sc, hsc⟩ : ∃ z, z = shw call := ⟨_, rfl⟩
      obtain ⟨sv, hsv⟩ : ∃ z, z = shw rv := ⟨_, rfl⟩
      have z2 : sc.size ≤ 21 := by rw [hsc, hcall]; exact shw_size OK.call
      have z3 : sv.size ≤ 21 := by rw [hsv, hrv]; exact shw_size OK.rev
      have CS1 : Hid (∀ W, Calls Tryd.prog 13 #[.int .i64 call] W fun e w' => e = .returned (.string sc) ∧ ∃ k, w' = W.drewN k) := fun W => by rw [hsc]; exact m_show call W (by rw [hcall]; exact OK.call.1) (by rw [hcall]; exact OK.call.2)
      have CS2 : Hid (∀ W, Calls Tryd.prog 13 #[.int .i64 rv] W fun e w' => e = .returned (.string sv) ∧ ∃ k, w' = W.drewN k) := fun W => by rw [hsv]; exact m_show rv W (by rw [hrv]; exact OK.rev.1) (by rw [hrv]; exact OK.rev.2)
      have HT : Hid (((((((⟨#[97, 110, 115, 119, 101, 114, 32]⟩ : ByteArray) ++ sc) ++ ⟨#[32]⟩) ++ nm) ++ ⟨#[32]⟩) ++ sv) = ahead (A k)) := by rw [hsc, hsv, hcall, hrv, hnm]; rfl
      have z4 : (ansT A k).size ≤ 47200000 * k := ansT_size A k (fun j hj => HK.out j (by omega))
      have ST : Hid (St w1 b0 bA call nm rv fl (.slice od nd cd) Y u3 (ansT A k)) := ⟨OY.out, BY.out, BX.out, NB.out⟩
      have z5 := ahead_size OK.call OK.rev OK.name
      have z6 : nd ≤ 1048576 := by rw [hnd]; exact OK.nd
      have CP : Hid (∀ m, Calls Tryd.prog 12 #[u3, .string (((((((⟨#[97, 110, 115, 119, 101, 114, 32]⟩ : ByteArray) ++ sc) ++ ⟨#[32]⟩) ++ nm) ++ ⟨#[32]⟩) ++ sv))] (Y.drewN m) fun e w' => ∃ v, e = .returned v ∧ Hid (St w1 b0 bA call nm rv fl (.slice od nd cd) w' v (ansT A k ++ ahead (A k)))) := fun m => by
        rw [HT.out]
        exact st_put hs1 (ST.out.drewN m) (ahead (A k)) (by omega)
      have HD : Hid (nd = (A k).nd ∧ dg = (A k).dg ∧ od = (P k).1 ∧ fl = (A k).full) := ⟨hnd, hdg, hod, hfl⟩
      have y0 := BX.out.1
      have y1 := BX.out.2.1
      have y2 := BX.out.2.2.1
      have y3 := BX.out.2.2.2.1
      have y4 := BX.out.2.2.2.2
      have s1 : ¬ 9223372036854775807 < 7 + sc.size := by omega
      have s2 : ¬ 9223372036854775807 < 7 + sc.size + 1 := by omega
      have s3 : ¬ 9223372036854775807 < 7 + sc.size + 1 + nm.size := by omega
      have s4 : ¬ 9223372036854775807 < 7 + sc.size + 1 + nm.size + 1 := by omega
      have s5 : ¬ 9223372036854775807 < 7 + sc.size + 1 + nm.size + 1 + sv.size := by omega
      have s6 : (⟨#[97, 110, 115, 119, 101, 114, 32]⟩ : ByteArray).size = 7 := rfl
      have s7 : (⟨#[32]⟩ : ByteArray).size = 1 := rfl
      clear hcall hnm hrv hfl hnd hdg hod hcd hsc hsv OK hds
      go_upto_region 6 with fail
      rw [← hY, ← hbA]
      clear hY hbA
      go_region_held3 (fun w' => w'.cell? ⟨bA, 0, none⟩ = some (.int .i64 call) ∧ w'.cell? ⟨bA, 1, none⟩ = some (.string nm) ∧ w'.cell? ⟨bA, 2, none⟩ = some (.int .i64 rv) ∧ w'.cell? ⟨bA, 3, none⟩ = some (.bool fl) ∧ w'.cell? ⟨bA, 4, none⟩ = some (.slice od nd cd)) (go_keep) (first
        | (go_at_call 12; (with_reducible refine (CP.out _).mono ?_); rintro e w5 ⟨v5, rfl, ST5⟩; obtain ⟨q0, q1, q2, q3, q4⟩ := ST5.out.box)
        | (go_at_call 13; (first | (with_reducible refine (CS1.out _).mono ?_) | (with_reducible refine (CS2.out _).mono ?_)); rintro e w6 ⟨rfl, kk, rfl⟩))
      all_goals
        clear CS1 CS2 CP s1 s2 s3 s4 s5 s6 s7 y0 y1 y2 y3 y4 BX OY BY NB HT z1 z2 z3 ST
        obtain ⟨T6, hT6⟩ : ∃ T6, T6 = (ansT A k ++ ahead (A k)) ++ fullT (A k) := ⟨_, rfl⟩
        have zT : T6.size ≤ 47200000 * k + 1048705 := by
          have := fullT_size (A k)
          rw [hT6, ByteArray.size_append, ByteArray.size_append]; omega
        have HT6 : Hid (T6 = (ansT A k ++ ahead (A k)) ++ fullT (A k)) := hT6
        clear hT6
        have z7 : ((ansT A k ++ ahead (A k)).size + (⟨#[32, 102, 117, 108, 108]⟩ : ByteArray).size) ≤ 140000000000000 := by
          have : (⟨#[32, 102, 117, 108, 108]⟩ : ByteArray).size = 5 := rfl
          rw [ByteArray.size_append]; omega
        cases fl
        · have ST6 : Hid (St w1 b0 bA call nm rv false (.slice od nd cd) w5 v5 (T6 ++ dgsT dg 0)) := by
            have e : T6 ++ dgsT dg 0 = ansT A k ++ ahead (A k) := by
              rw [HT6.out]; unfold fullT; rw [← HD.out.2.2.2]; simp [dgsT, app_nil]
            rw [e]; exact ST5.out
          clear ST5 z7 q0 q1 q2 q4
          go_wp2_with fail
          go_loopw [3, 6] (fun v j wi => ∃ l : Nat, l ≤ nd ∧ j = .int .i64 (l : Int) ∧ Hid (St w1 b0 bA call nm rv false (.slice od nd cd) wi v (T6 ++ dgsT dg l))) (fun _ j _ => nd - (intOf j).toNat)
          case atStart => exact ⟨0, Nat.zero_le _, rfl, ST6⟩
          case round =>
            obtain ⟨l, hl, rfl, SI⟩ := hrel
            clear ST6
            obtain ⟨p0, p1, p2, p3, p4⟩ := SI.out.box
            by_cases hlt2 : l < nd
            · have AT := HA1.out.below (by rw [hs1]; exact SI.out.below)
              have g0 := AT.d0 k hlt l (by rw [← HD.out.1]; exact hlt2)
              have g1 := AT.d1 k hlt l (by rw [← HD.out.1]; exact hlt2)
              have hoe := AT.dh k hlt (by rw [← HD.out.1]; omega)
              rw [← HD.out.2.2.1] at hoe
              have OKd := (HK.out k hlt).dg l (by rw [← HD.out.1]; exact hlt2)
              rw [← HD.out.2.1] at g0 g1 OKd
              obtain ⟨gd, hgd⟩ : ∃ z, z = (P k).2.1 := ⟨_, rfl⟩
              rw [← hgd] at g0 g1 hoe
              obtain ⟨x0, hx0⟩ : ∃ z, z = (dg l).1 := ⟨_, rfl⟩
              obtain ⟨x1, hx1⟩ : ∃ z, z = (dg l).2 := ⟨_, rfl⟩
              rw [← hx0] at g0 OKd
              rw [← hx1] at g1 OKd
              obtain ⟨s0, hs0⟩ : ∃ z, z = shw x0 := ⟨_, rfl⟩
              obtain ⟨s1, hs1'⟩ : ∃ z, z = shw x1 := ⟨_, rfl⟩
              have r0 : s0.size ≤ 21 := by rw [hs0]; exact shw_size OKd.1
              have r1 : s1.size ≤ 21 := by rw [hs1']; exact shw_size OKd.2
              have CS3 : Hid (∀ W, Calls Tryd.prog 13 #[.int .i64 x0] W fun e w' => e = .returned (.string s0) ∧ ∃ k, w' = W.drewN k) := fun W => by rw [hs0]; exact m_show x0 W OKd.1.1 OKd.1.2
              have CS4 : Hid (∀ W, Calls Tryd.prog 13 #[.int .i64 x1] W fun e w' => e = .returned (.string s1) ∧ ∃ k, w' = W.drewN k) := fun W => by rw [hs1']; exact m_show x1 W OKd.2.1 OKd.2.2
              have r2 : (⟨#[32]⟩ : ByteArray).size = 1 := rfl
              have r3 : (⟨#[58]⟩ : ByteArray).size = 1 := rfl
              have rD : (dgsT dg l).size ≤ 44 * l := dgsT_size dg l (fun i hi => by rw [HD.out.2.1]; exact (HK.out k hlt).dg i (by rw [← HD.out.1]; omega))
              have rZ : (T6 ++ dgsT dg l).size + (((((⟨#[32]⟩ : ByteArray) ++ s0) ++ ⟨#[58]⟩) ++ s1)).size ≤ 140000000000000 := by
                simp only [ByteArray.size_append, r2, r3]; omega
              have HX : Hid ((T6 ++ dgsT dg l) ++ ((((⟨#[32]⟩ : ByteArray) ++ s0) ++ ⟨#[58]⟩) ++ s1) = T6 ++ dgsT dg (l + 1)) := by
                show _ = _
                rw [ByteArray.append_assoc, hs0, hs1', hx0, hx1]; rfl
              have CPd := hid_of (fun m => st_put hs1 (SI.out.drewN m) ((((⟨#[32]⟩ : ByteArray) ++ s0) ++ ⟨#[58]⟩) ++ s1) rZ)
              have n1 : ¬ 9223372036854775807 < 1 + s0.size := by omega
              have n2 : ¬ 9223372036854775807 < 1 + s0.size + 1 := by omega
              have n3 : ¬ 9223372036854775807 < 1 + s0.size + 1 + s1.size := by omega
              have HGC : Hid (∀ W : World, Below (b0 + 1) w1 W → W.cell? ⟨gd, l * 2, none⟩ = some (.int .i64 x0) ∧ W.cell? ⟨gd, l * 2 + 1, none⟩ = some (.int .i64 x1)) := fun W hW => by
                have AW := HA1.out.below (W' := W) (by rw [hs1]; exact hW)
                have h0 := AW.d0 k hlt l (by rw [← HD.out.1]; exact hlt2)
                have h1 := AW.d1 k hlt l (by rw [← HD.out.1]; exact hlt2)
                rw [← hgd, ← HD.out.2.1, ← hx0] at h0
                rw [← hgd, ← HD.out.2.1, ← hx1] at h1
                exact ⟨h0, h1⟩
              subst hoe
              clear AT OKd hgd hx0 hx1 hs0 hs1' SI rD rZ
              go_upto_region 12 with fail
              go_region_held3 (fun w' => w'.cell? ⟨bA, 4, none⟩ = some (.slice (some ⟨gd, 0, none⟩) nd cd) ∧ w'.cell? ⟨gd, l * 2, none⟩ = some (.int .i64 x0) ∧ w'.cell? ⟨gd, l * 2 + 1, none⟩ = some (.int .i64 x1)) (go_keep) (first
                | (go_at_call 12; (with_reducible refine (CPd.out _).mono ?_); rintro e w8 ⟨v8, rfl, ST8⟩; have o4 := ST8.out.box.2.2.2.2; obtain ⟨o5, o6⟩ := HGC.out w8 ST8.out.below)
                | (go_at_call 13; (first | (with_reducible refine (CS3.out _).mono ?_) | (with_reducible refine (CS4.out _).mono ?_)); rintro e w9 ⟨rfl, kk, rfl⟩))
              all_goals
                rw [HX.out] at ST8
                clear HGC CS3 CS4 CPd
                go_wp2
                go_roundw
                case rel => exact ⟨l + 1, by omega, by go_num, ST8⟩
                case measure => simp [intOf]; omega
            · have e1 : l = nd := by omega
              subst e1
              have rD : (dgsT dg l).size ≤ 44 * l := dgsT_size dg l (fun i hi => by rw [HD.out.2.1]; exact (HK.out k hlt).dg i (by rw [← HD.out.1]; omega))
              have rZ : (T6 ++ dgsT dg l).size + (⟨#[10]⟩ : ByteArray).size ≤ 140000000000000 := by
                have : (⟨#[10]⟩ : ByteArray).size = 1 := rfl
                rw [ByteArray.size_append, this]; omega
              have HX : Hid ((T6 ++ dgsT dg l) ++ ⟨#[10]⟩ = ansT A (k + 1)) := by
                show _ = _
                rw [HT6.out, HD.out.2.1, HD.out.1]; rfl
              clear rD
              go_wp2_with fail
              refine (st_put hs1 SI.out _ rZ).mono ?_
              rintro e w8 ⟨v8, rfl, ST8⟩
              rw [HX.out] at ST8
              clear SI rZ p0 p1 p2 p3 p4
              go_wp2
              go_roundw
              case rel => exact ⟨k + 1, by omega, by go_num, ST8.out.own, ST8.out.below⟩
              case measure => simp [intOf]; omega
        · go_wp2_with fail
          refine (st_put hs1 ST5.out _ z7).mono ?_
          rintro e w6 ⟨v6, rfl, ST6'⟩
          have ST6 : Hid (St w1 b0 bA call nm rv true (.slice od nd cd) w6 v6 (T6 ++ dgsT dg 0)) := by
            have e : T6 ++ dgsT dg 0 = (ansT A k ++ ahead (A k)) ++ ⟨#[32, 102, 117, 108, 108]⟩ := by
              rw [HT6.out]; unfold fullT; rw [← HD.out.2.2.2]; simp [dgsT, app_nil]
            rw [e]; exact ST6'.out
          clear ST5 ST6' z7 q0 q1 q2 q3 q4
          go_wp2_with fail
          go_loopw [3, 6] (fun v j wi => ∃ l : Nat, l ≤ nd ∧ j = .int .i64 (l : Int) ∧ Hid (St w1 b0 bA call nm rv true (.slice od nd cd) wi v (T6 ++ dgsT dg l))) (fun _ j _ => nd - (intOf j).toNat)
          case atStart => exact ⟨0, Nat.zero_le _, rfl, ST6⟩
          case round =>
            obtain ⟨l, hl, rfl, SI⟩ := hrel
            clear ST6
            obtain ⟨p0, p1, p2, p3, p4⟩ := SI.out.box
            by_cases hlt2 : l < nd
            · have AT := HA1.out.below (by rw [hs1]; exact SI.out.below)
              have g0 := AT.d0 k hlt l (by rw [← HD.out.1]; exact hlt2)
              have g1 := AT.d1 k hlt l (by rw [← HD.out.1]; exact hlt2)
              have hoe := AT.dh k hlt (by rw [← HD.out.1]; omega)
              rw [← HD.out.2.2.1] at hoe
              have OKd := (HK.out k hlt).dg l (by rw [← HD.out.1]; exact hlt2)
              rw [← HD.out.2.1] at g0 g1 OKd
              obtain ⟨gd, hgd⟩ : ∃ z, z = (P k).2.1 := ⟨_, rfl⟩
              rw [← hgd] at g0 g1 hoe
              obtain ⟨x0, hx0⟩ : ∃ z, z = (dg l).1 := ⟨_, rfl⟩
              obtain ⟨x1, hx1⟩ : ∃ z, z = (dg l).2 := ⟨_, rfl⟩
              rw [← hx0] at g0 OKd
              rw [← hx1] at g1 OKd
              obtain ⟨s0, hs0⟩ : ∃ z, z = shw x0 := ⟨_, rfl⟩
              obtain ⟨s1, hs1'⟩ : ∃ z, z = shw x1 := ⟨_, rfl⟩
              have r0 : s0.size ≤ 21 := by rw [hs0]; exact shw_size OKd.1
              have r1 : s1.size ≤ 21 := by rw [hs1']; exact shw_size OKd.2
              have CS3 : Hid (∀ W, Calls Tryd.prog 13 #[.int .i64 x0] W fun e w' => e = .returned (.string s0) ∧ ∃ k, w' = W.drewN k) := fun W => by rw [hs0]; exact m_show x0 W OKd.1.1 OKd.1.2
              have CS4 : Hid (∀ W, Calls Tryd.prog 13 #[.int .i64 x1] W fun e w' => e = .returned (.string s1) ∧ ∃ k, w' = W.drewN k) := fun W => by rw [hs1']; exact m_show x1 W OKd.2.1 OKd.2.2
              have r2 : (⟨#[32]⟩ : ByteArray).size = 1 := rfl
              have r3 : (⟨#[58]⟩ : ByteArray).size = 1 := rfl
              have rD : (dgsT dg l).size ≤ 44 * l := dgsT_size dg l (fun i hi => by rw [HD.out.2.1]; exact (HK.out k hlt).dg i (by rw [← HD.out.1]; omega))
              have rZ : (T6 ++ dgsT dg l).size + (((((⟨#[32]⟩ : ByteArray) ++ s0) ++ ⟨#[58]⟩) ++ s1)).size ≤ 140000000000000 := by
                simp only [ByteArray.size_append, r2, r3]; omega
              have HX : Hid ((T6 ++ dgsT dg l) ++ ((((⟨#[32]⟩ : ByteArray) ++ s0) ++ ⟨#[58]⟩) ++ s1) = T6 ++ dgsT dg (l + 1)) := by
                show _ = _
                rw [ByteArray.append_assoc, hs0, hs1', hx0, hx1]; rfl
              have CPd := hid_of (fun m => st_put hs1 (SI.out.drewN m) ((((⟨#[32]⟩ : ByteArray) ++ s0) ++ ⟨#[58]⟩) ++ s1) rZ)
              have n1 : ¬ 9223372036854775807 < 1 + s0.size := by omega
              have n2 : ¬ 9223372036854775807 < 1 + s0.size + 1 := by omega
              have n3 : ¬ 9223372036854775807 < 1 + s0.size + 1 + s1.size := by omega
              have HGC : Hid (∀ W : World, Below (b0 + 1) w1 W → W.cell? ⟨gd, l * 2, none⟩ = some (.int .i64 x0) ∧ W.cell? ⟨gd, l * 2 + 1, none⟩ = some (.int .i64 x1)) := fun W hW => by
                have AW := HA1.out.below (W' := W) (by rw [hs1]; exact hW)
                have h0 := AW.d0 k hlt l (by rw [← HD.out.1]; exact hlt2)
                have h1 := AW.d1 k hlt l (by rw [← HD.out.1]; exact hlt2)
                rw [← hgd, ← HD.out.2.1, ← hx0] at h0
                rw [← hgd, ← HD.out.2.1, ← hx1] at h1
                exact ⟨h0, h1⟩
              subst hoe
              clear AT OKd hgd hx0 hx1 hs0 hs1' SI rD rZ
              go_upto_region 12 with fail
              go_region_held3 (fun w' => w'.cell? ⟨bA, 4, none⟩ = some (.slice (some ⟨gd, 0, none⟩) nd cd) ∧ w'.cell? ⟨gd, l * 2, none⟩ = some (.int .i64 x0) ∧ w'.cell? ⟨gd, l * 2 + 1, none⟩ = some (.int .i64 x1)) (go_keep) (first
                | (go_at_call 12; (with_reducible refine (CPd.out _).mono ?_); rintro e w8 ⟨v8, rfl, ST8⟩; have o4 := ST8.out.box.2.2.2.2; obtain ⟨o5, o6⟩ := HGC.out w8 ST8.out.below)
                | (go_at_call 13; (first | (with_reducible refine (CS3.out _).mono ?_) | (with_reducible refine (CS4.out _).mono ?_)); rintro e w9 ⟨rfl, kk, rfl⟩))
              all_goals
                rw [HX.out] at ST8
                clear HGC CS3 CS4 CPd
                go_wp2
                go_roundw
                case rel => exact ⟨l + 1, by omega, by go_num, ST8⟩
                case measure => simp [intOf]; omega
            · have e1 : l = nd := by omega
              subst e1
              have rD : (dgsT dg l).size ≤ 44 * l := dgsT_size dg l (fun i hi => by rw [HD.out.2.1]; exact (HK.out k hlt).dg i (by rw [← HD.out.1]; omega))
              have rZ : (T6 ++ dgsT dg l).size + (⟨#[10]⟩ : ByteArray).size ≤ 140000000000000 := by
                have : (⟨#[10]⟩ : ByteArray).size = 1 := rfl
                rw [ByteArray.size_append, this]; omega
              have HX : Hid ((T6 ++ dgsT dg l) ++ ⟨#[10]⟩ = ansT A (k + 1)) := by
                show _ = _
                rw [HT6.out, HD.out.2.1, HD.out.1]; rfl
              clear rD
              go_wp2_with fail
              refine (st_put hs1 SI.out _ rZ).mono ?_
              rintro e w8 ⟨v8, rfl, ST8⟩
              rw [HX.out] at ST8
              clear SI rZ p0 p1 p2 p3 p4
              go_wp2
              go_roundw
              case rel => exact ⟨k + 1, by omega, by go_num, ST8.out.own, ST8.out.below⟩
              case measure => simp [intOf]; omega
    · have ek : k = n := by omega
      subst ek
      obtain ⟨f0, f2, f3, f4, f5⟩ := HBXC.out wr HB.out
      have z4 : (ansT A k).size ≤ 47200000 * k := ansT_size A k (fun j hj => HK.out j (by omega))
      have OA0 : Hid (Own5 wr (b0 + 1) u3 (ansT A k ++ ransT R 0)) := by
        have e : ansT A k ++ ransT R 0 = ansT A k := app_nil _
        rw [e]; exact HO.out
      clear f0 f3 f4 f5
      go_wp2_with fail
      clear HO bx HAr hlt hk f2
      go_loopw [3, 7] (fun v i wi => ∃ q : Nat, q ≤ m ∧ i = .int .i64 (q : Int) ∧ Hid (Own5 wi (b0 + 1) v (ansT A k ++ ransT R q)) ∧ Hid (Below (b0 + 1) w1 wi)) (fun _ i _ => m - (intOf i).toNat)
      case atStart => exact ⟨0, Nat.zero_le _, rfl, OA0, HB⟩
      case round =>
        clear OA0 HB
        obtain ⟨q, hq, rfl, HO, HB⟩ := hrel
        obtain ⟨f0, f2, f3, f4, f5⟩ := HBXC.out wr HB.out
        have z9 : (ransT R q).size ≤ 1048700 * q := ransT_size R q (fun j hj => HKR.out j (by omega))
        by_cases hlq : q < m
        · clear f0 f3 f4 f5
          obtain ⟨kd, hkd⟩ : ∃ z, z = (R q).kind := ⟨_, rfl⟩
          obtain ⟨md, hmd⟩ : ∃ z, z = (R q).mod := ⟨_, rfl⟩
          obtain ⟨rv, hrv⟩ : ∃ z, z = (R q).rev := ⟨_, rfl⟩
          obtain ⟨wk, hwk⟩ : ∃ z, z = (R q).wk := ⟨_, rfl⟩
          have AR := HR1.out.below (W' := wr) (by rw [hs1]; exact HB.out)
          have e0 := AR.here (by omega)
          subst e0
          have k0 := AR.c0 q hlq
          have k1 := AR.c1 q hlq
          have k2 := AR.c2 q hlq
          have k3 := AR.c3 q hlq
          rw [← hkd] at k0
          rw [← hmd] at k1
          rw [← hrv] at k2
          rw [← hwk] at k3
          obtain ⟨bA, hbA⟩ : ∃ z, z = wr.heap.size := ⟨_, rfl⟩
          obtain ⟨Y, hY⟩ : ∃ Y, Y = wr.alloc (.cells #[.int .i64 kd, .string md, .int .i64 rv, .int .i64 wk] 55) := ⟨_, rfl⟩
          have BX : Hid (Box4 Y bA kd md rv wk) := by rw [hY, hbA]; exact box4 wr _ _ _ _ _
          have hbb : b0 + 1 ≤ bA := by rw [hbA, ← hs1]; exact HB.out.size
          have ST : Hid (Sr w1 b0 bA kd md rv wk Y u3 (ansT A k ++ ransT R q)) := ⟨by rw [hY]; exact HO.out.alloc _, by rw [hY]; exact HB.out.alloc (by omega) _, BX.out, fun h => by have := (HO.out.lt bA h).2; omega⟩
          have OK := HKR.out q hlq
          have z1 : md.size ≤ 1048576 := by rw [hmd]; exact OK.mod
          obtain ⟨sk, hsk⟩ : ∃ z, z = kw kd := ⟨_, rfl⟩
          obtain ⟨sv, hsv⟩ : ∃ z, z = shw rv := ⟨_, rfl⟩
          obtain ⟨sw, hsw⟩ : ∃ z, z = shw wk := ⟨_, rfl⟩
          have z2 : sk.size ≤ 5 := by rw [hsk]; exact kw_size kd
          have z3 : sv.size ≤ 21 := by rw [hsv, hrv]; exact shw_size OK.rev
          have z5 : sw.size ≤ 21 := by rw [hsw, hwk]; exact shw_size OK.wk
          have CS0 : Hid (∀ W, Calls Tryd.prog 14 #[.int .i64 kd] W fun e w' => e = .returned (.string sk) ∧ ∃ k, w' = W.drewN k) := fun W => by rw [hsk]; exact m_kind kd W
          have CS1 : Hid (∀ W, Calls Tryd.prog 13 #[.int .i64 rv] W fun e w' => e = .returned (.string sv) ∧ ∃ k, w' = W.drewN k) := fun W => by rw [hsv]; exact m_show rv W (by rw [hrv]; exact OK.rev.1) (by rw [hrv]; exact OK.rev.2)
          have CS2 : Hid (∀ W, Calls Tryd.prog 13 #[.int .i64 wk] W fun e w' => e = .returned (.string sw) ∧ ∃ k, w' = W.drewN k) := fun W => by rw [hsw]; exact m_show wk W (by rw [hwk]; exact OK.wk.1) (by rw [hwk]; exact OK.wk.2)
          have HT : Hid (((((((((⟨#[114, 97, 110, 32]⟩ : ByteArray) ++ sk) ++ ⟨#[32]⟩) ++ md) ++ ⟨#[32]⟩) ++ sv) ++ ⟨#[32]⟩) ++ sw) ++ ⟨#[10]⟩ = ranT1 (R q)) := by rw [hsk, hsv, hsw, hkd, hrv, hmd, hwk]; rfl
          have z6 := ranT1_size OK
          have CP : Hid (∀ m, Calls Tryd.prog 12 #[u3, .string (((((((((⟨#[114, 97, 110, 32]⟩ : ByteArray) ++ sk) ++ ⟨#[32]⟩) ++ md) ++ ⟨#[32]⟩) ++ sv) ++ ⟨#[32]⟩) ++ sw) ++ ⟨#[10]⟩)] (Y.drewN m) fun e w' => ∃ v, e = .returned v ∧ Hid (Sr w1 b0 bA kd md rv wk w' v (ansT A k ++ ransT R (q + 1)))) := fun m => by
            rw [HT.out]
            have e : ansT A k ++ ransT R (q + 1) = (ansT A k ++ ransT R q) ++ ranT1 (R q) := by rw [ByteArray.append_assoc]; rfl
            rw [e]
            exact sr_put hs1 (ST.out.drewN m) (ranT1 (R q)) (by rw [ByteArray.size_append]; omega)
          have y0 := BX.out.1
          have y1 := BX.out.2.1
          have y2 := BX.out.2.2.1
          have y3 := BX.out.2.2.2
          have s1 : ¬ 9223372036854775807 < 4 + sk.size := by omega
          have s2 : ¬ 9223372036854775807 < 4 + sk.size + 1 := by omega
          have s3 : ¬ 9223372036854775807 < 4 + sk.size + 1 + md.size := by omega
          have s4 : ¬ 9223372036854775807 < 4 + sk.size + 1 + md.size + 1 := by omega
          have s5 : ¬ 9223372036854775807 < 4 + sk.size + 1 + md.size + 1 + sv.size := by omega
          have s8 : ¬ 9223372036854775807 < 4 + sk.size + 1 + md.size + 1 + sv.size + 1 := by omega
          have s9 : ¬ 9223372036854775807 < 4 + sk.size + 1 + md.size + 1 + sv.size + 1 + sw.size := by omega
          have s10 : ¬ 9223372036854775807 < 4 + sk.size + 1 + md.size + 1 + sv.size + 1 + sw.size + 1 := by omega
          have s6 : (⟨#[114, 97, 110, 32]⟩ : ByteArray).size = 4 := rfl
          have s7 : (⟨#[32]⟩ : ByteArray).size = 1 := rfl
          have s11 : (⟨#[10]⟩ : ByteArray).size = 1 := rfl
          clear hkd hmd hrv hwk hsk hsv hsw OK AR
          go_upto_region 18 with fail
          rw [← hY, ← hbA]
          clear hY hbA
          go_region_held3 (fun w' => w'.cell? ⟨bA, 0, none⟩ = some (.int .i64 kd) ∧ w'.cell? ⟨bA, 1, none⟩ = some (.string md) ∧ w'.cell? ⟨bA, 2, none⟩ = some (.int .i64 rv) ∧ w'.cell? ⟨bA, 3, none⟩ = some (.int .i64 wk)) (go_keep) (first
            | (go_at_call 12; (with_reducible refine (CP.out _).mono ?_); rintro e w5 ⟨v5, rfl, ST5⟩; obtain ⟨q0, q1, q2, q3⟩ := ST5.out.box)
            | (go_at_call 14; (with_reducible refine (CS0.out _).mono ?_); rintro e w6 ⟨rfl, kk, rfl⟩)
            | (go_at_call 13; (first | (with_reducible refine (CS1.out _).mono ?_) | (with_reducible refine (CS2.out _).mono ?_)); rintro e w6 ⟨rfl, kk, rfl⟩))
          all_goals
            clear CS0 CS1 CS2 CP s1 s2 s3 s4 s5 s6 s7 s8 s9 s10 s11 y0 y1 y2 y3 BX HT z1 z2 z3 z5 ST
            go_wp2
            go_roundw
            case rel => exact ⟨q + 1, by omega, by go_num, ST5.out.own, ST5.out.below⟩
            case measure => simp [intOf]; omega
        · have eq : q = m := by omega
          subst eq
          obtain ⟨i0, i1, i2, i3⟩ := HI.out
          obtain ⟨sc, hsc⟩ : ∃ z, z = shw code := ⟨_, rfl⟩
          obtain ⟨sr, hsr⟩ : ∃ z, z = shw rev := ⟨_, rfl⟩
          obtain ⟨sd, hsd⟩ : ∃ z, z = shw drops := ⟨_, rfl⟩
          obtain ⟨sl, hsl⟩ : ∃ z, z = shw slots := ⟨_, rfl⟩
          have z1 : sc.size ≤ 21 := by rw [hsc]; exact shw_size i0
          have z2 : sr.size ≤ 21 := by rw [hsr]; exact shw_size i1
          have z3 : sd.size ≤ 21 := by rw [hsd]; exact shw_size i2
          have z5 : sl.size ≤ 21 := by rw [hsl]; exact shw_size i3
          have CS0 : Hid (∀ W, Calls Tryd.prog 13 #[.int .i64 code] W fun e w' => e = .returned (.string sc) ∧ ∃ k, w' = W.drewN k) := fun W => by rw [hsc]; exact m_show code W i0.1 i0.2
          have CS1 : Hid (∀ W, Calls Tryd.prog 13 #[.int .i64 rev] W fun e w' => e = .returned (.string sr) ∧ ∃ k, w' = W.drewN k) := fun W => by rw [hsr]; exact m_show rev W i1.1 i1.2
          have CS2 : Hid (∀ W, Calls Tryd.prog 13 #[.int .i64 drops] W fun e w' => e = .returned (.string sd) ∧ ∃ k, w' = W.drewN k) := fun W => by rw [hsd]; exact m_show drops W i2.1 i2.2
          have CS3 : Hid (∀ W, Calls Tryd.prog 13 #[.int .i64 slots] W fun e w' => e = .returned (.string sl) ∧ ∃ k, w' = W.drewN k) := fun W => by rw [hsl]; exact m_show slots W i3.1 i3.2
          have HT : Hid (((((((((⟨#[101, 110, 100, 32]⟩ : ByteArray) ++ sc) ++ ⟨#[32]⟩) ++ sr) ++ ⟨#[32]⟩) ++ sd) ++ ⟨#[32]⟩) ++ sl) ++ ⟨#[10]⟩ = endT code rev drops slots) := by rw [hsc, hsr, hsd, hsl]; rfl
          have z6 := endT_size i0 i1 i2 i3
          obtain ⟨X, hX⟩ : ∃ X, X = outT A k R q code rev drops slots := ⟨_, rfl⟩
          have CP : Hid (∀ mm, Calls Tryd.prog 12 #[u3, .string (((((((((⟨#[101, 110, 100, 32]⟩ : ByteArray) ++ sc) ++ ⟨#[32]⟩) ++ sr) ++ ⟨#[32]⟩) ++ sd) ++ ⟨#[32]⟩) ++ sl) ++ ⟨#[10]⟩)] (wr.drewN mm) fun e w' => ∃ v, e = .returned v ∧ (convert 44 9 v).run Tryd.prog w' = .ok (.string X) w' ∧ Hid (Below (b0 + 1) w1 w')) := fun mm => by
            rw [HT.out]
            have hb : b0 + 1 ≤ wr.heap.size := by rw [← hs1]; exact HB.out.size
            have O2 : Own5 (wr.drewN mm) (b0 + 1) u3 (ansT A k ++ ransT R q) := HO.out
            have B2 : Below (b0 + 1) w1 (wr.drewN mm) := ⟨HB.out.os, HB.out.tape, HB.out.output, HB.out.size, HB.out.block⟩
            refine (m_put u3 (ansT A k ++ ransT R q) (endT code rev drops slots) (b0 + 1) (wr.drewN mm) hb O2 (by rw [ByteArray.size_append]; omega)).mono ?_
            rintro e w' ⟨v', he, ho, hp⟩
            refine ⟨v', he, ?_, B2.trans (hp.below hb O2)⟩
            rw [hX]
            exact own_str ho
          have s1 : ¬ 9223372036854775807 < 4 + sc.size := by omega
          have s2 : ¬ 9223372036854775807 < 4 + sc.size + 1 := by omega
          have s3 : ¬ 9223372036854775807 < 4 + sc.size + 1 + sr.size := by omega
          have s4 : ¬ 9223372036854775807 < 4 + sc.size + 1 + sr.size + 1 := by omega
          have s5 : ¬ 9223372036854775807 < 4 + sc.size + 1 + sr.size + 1 + sd.size := by omega
          have s8 : ¬ 9223372036854775807 < 4 + sc.size + 1 + sr.size + 1 + sd.size + 1 := by omega
          have s9 : ¬ 9223372036854775807 < 4 + sc.size + 1 + sr.size + 1 + sd.size + 1 + sl.size := by omega
          have s10 : ¬ 9223372036854775807 < 4 + sc.size + 1 + sr.size + 1 + sd.size + 1 + sl.size + 1 := by omega
          have s6 : (⟨#[101, 110, 100, 32]⟩ : ByteArray).size = 4 := rfl
          have s7 : (⟨#[32]⟩ : ByteArray).size = 1 := rfl
          have s11 : (⟨#[10]⟩ : ByteArray).size = 1 := rfl
          have HX : Hid (X = outT A k R q code rev drops slots) := hX
          clear hsc hsr hsd hsl hX i0 i1 i2 i3
          go_upto_region 19 with fail
          go_region_held (fun w' => w'.cell? ⟨b0, 0, none⟩ = some (.int .i64 code) ∧ w'.cell? ⟨b0, 3, none⟩ = some (.int .i64 drops) ∧ w'.cell? ⟨b0, 4, none⟩ = some (.int .i64 rev) ∧ w'.cell? ⟨b0, 5, none⟩ = some (.int .i64 slots)) (go_keep) (first
            | (go_at_call 12; (with_reducible refine (CP.out _).mono ?_); rintro e w5 ⟨v5, rfl, CV, BL⟩; obtain ⟨q0, q2, q3, q4, q5⟩ := HBXC.out w5 BL.out)
            | (go_at_call 13; (first | (with_reducible refine (CS0.out _).mono ?_) | (with_reducible refine (CS1.out _).mono ?_) | (with_reducible refine (CS2.out _).mono ?_) | (with_reducible refine (CS3.out _).mono ?_)); rintro e w6 ⟨rfl, kk, rfl⟩))
          all_goals
            clear CS0 CS1 CS2 CS3 CP s1 s2 s3 s4 s5 s6 s7 s8 s9 s10 s11 HT z1 z2 z3 z5
            go_wp2
            go_ret
            refine ⟨ret_s HX.out, ?_⟩
            have hb := BL.out
            have h1 : Below w.heap.size w w1 := by rw [HB1.out]; exact (Below.refl _ _).alloc (Nat.le_refl _) _
            rw [HBW.out] at hb
            exact h1.trans (hb.mono (Nat.le_succ _))
end Go.Proofs.YtdolejkpnpchaaaDoor
