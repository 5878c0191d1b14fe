/-
  Merged for the claim: PfA PfB PeF PeG PfC.
-/
import Derived.Test.YtdjkgilohhjfoaaGreatDoorM11
import Derived.Defers
import Derived.Recover
import Derived.Laws.Pointers
import Derived.Lib.Atoi
namespace Go.Proofs.YtdjkgilohhjfoaaGreatDoor
open Go.RowKit

theorem own_mono {w : World} {B B' : Nat} {e : TypeId} {size : Nat} {v : Value} {n : Nat} {xs : List Value} (h : w.ownsRow B e size v n xs) (hb : B' ≤ B) : w.ownsRow B' e size v n xs := by
  obtain ⟨h1, h2⟩ := h
  refine ⟨h1, ?_⟩
  rcases h2 with h2 | ⟨g, cap, cur, hv, hb', r⟩
  · exact Or.inl h2
  · exact Or.inr ⟨g, cap, cur, hv, Nat.le_trans hb hb', r⟩
theorem NmOK.mono {B B' : Nat} {w : World} {ns : List ByteArray} {p : NPl} (h : NmOK B w ns p) (hb : B' ≤ B) : NmOK B' w ns p := fun hn => by
  obtain ⟨h0, h1, r⟩ := h hn
  exact ⟨h0, Nat.le_trans hb h1, r⟩
theorem OT.mono {B B' : Nat} {w : World} {v : Value} {xs : List (TI × NPl)} (h : OT B w v xs) (hb : B' ≤ B) : OT B' w v xs :=
  ⟨own_mono h.own hb, fun x hx => (h.nm x hx).mono hb, h.nd⟩

/-- The deferred closure where the piece has a fault: the answer is written anew. -/
theorem catch_bad {X : Nat} {f : Nat → Value} (u : TypeId) (pv : Value) (older : List PanicEntry) (w : World) (R : w.rowIs X 58 4 f) :
    CallsD Tryz.prog 57 #[.pointer (some ⟨X, 0, none⟩)] (.panicking ({ v := .iface u pv, recovered := false } :: older)) w fun e u' w' =>
      e = .returned (.tuple #[]) ∧ u' = .panicking ({ v := .iface u pv, recovered := true } :: older) ∧ w' = (((w.setCell ⟨X, 0, none⟩ (.int .i64 0)).setCell ⟨X, 1, none⟩ (.string ⟨#[]⟩)).setCell ⟨X, 2, none⟩ (.slice none 0 0)).setCell ⟨X, 3, none⟩ (.slice none 0 0) := by
  have c0 := R.cell (i := 0) (by omega)
  have c1 := R.cell (i := 1) (by omega)
  have c2 := R.cell (i := 2) (by omega)
  have c3 := R.cell (i := 3) (by omega)
  have z0 := R.frozen 0
  have z1 := R.frozen 1
  have z2 := R.frozen 2
  have z3 := R.frozen 3
  refine callsD_of_wpS Tryz.func57 rfl fun c₀ cs hu => ?_
  apply wpS_seq
  apply wpS_region
  simp [wpOpsS, go_sem, recoverD, hu, Tryz.ntmps57, Exit.thenS]
  refine wpS_cond (t := true) (by simp [Act.eval, Array.replicate]) ?_
  simp only [if_true]
  refine wpS_of_wp ?_
  go_wp2
  simp [bodyPostS, results, Tryz.results57]

/-- The deferred closure where the piece has none. -/
theorem catch_none (X : Nat) (w : World) :
    CallsD Tryz.prog 57 #[.pointer (some ⟨X, 0, none⟩)] .returning w fun e u' w' => e = .returned (.tuple #[]) ∧ u' = .returning ∧ w' = w := by
  refine callsD_of_wpS Tryz.func57 rfl fun c₀ cs hu => ?_
  apply wpS_seq
  apply wpS_region
  simp [wpOpsS, go_sem, recoverD, hu, Tryz.ntmps57, Exit.thenS]
  refine wpS_cond (t := false) (by simp [Act.eval, Array.replicate]) ?_
  simp only [Bool.false_eq_true, if_false]
  refine wpS_of_wp (wp_skip ?_)
  cases c₀
  simp_all [bodyPostS, results, Tryz.results57]

theorem EiOK.mono {B B' : Nat} {w : World} {x : EI × EPl} (h : EiOK B w x) (hb : B' ≤ B) : EiOK B' w x := ⟨h.nm.mono hb, h.ty.mono hb, h.is⟩
theorem OE.mono {B B' : Nat} {w : World} {v : Value} {xs : List (EI × EPl)} (h : OE B w v xs) (hb : B' ≤ B) : OE B' w v xs :=
  ⟨own_mono h.own hb, fun x hx => (h.ok x hx).mono hb, h.nd⟩
theorem DcOK.mono {B B' : Nat} {w : World} {d : DC} {p : DPl} (h : DcOK B w d p) (hb : B' ≤ B) : DcOK B' w d p :=
  ⟨h.ty.mono hb, h.isT, h.ex.mono hb, h.isE, h.nd⟩
theorem DcOK.lt {B : Nat} {w : World} {d : DC} {p : DPl} (h : DcOK B w d p) {b : Nat} (hb : b ∈ dB p) : B ≤ b ∧ b < w.heap.size := by
  unfold dB at hb
  rcases List.mem_append.1 hb with z | z
  · rcases List.mem_append.1 z with z | z
    · exact h.ty.own.lt b (by simpa using z)
    · exact h.ty.names z
  · rcases List.mem_append.1 z with z | z
    · exact h.ex.own.lt b (by simpa using z)
    · obtain ⟨x, hx, hb⟩ := mem_eisB z
      exact (h.ex.ok x hx).lt hb
theorem DcOK.but {S : List Nat} {B : Nat} {w w' : World} {d : DC} {p : DPl} (h : DcOK B w d p) (hb : But S w w') (hS : ∀ b, b ∈ dB p → b ∉ S) : DcOK B w' d p :=
  ⟨h.ty.but hb (fun b e => hS b (by unfold dB; simp [e])) (fun b e => hS b (by unfold dB; simp [e])), h.isT, h.ex.but hb (fun b e => hS b (by unfold dB; simp [e])) (fun b e => hS b (by unfold dB; simp [e])), h.isE, h.nd⟩

/-- The four cells of the answer are written, and the answer is read of them. -/
theorem pc_ret {W : World} {X : Nat} {f : Nat → Value} (R : W.rowIs X 58 4 f) (a b c d : Value) (tmps : Array Value) (h2 : tmps[2]?.getD undef = .pointer (some ⟨X, 0, none⟩)) :
    (results Tryz.f51 tmps).run Tryz.prog ((((W.setCell ⟨X, 0, none⟩ a).setCell ⟨X, 1, none⟩ b).setCell ⟨X, 2, none⟩ c).setCell ⟨X, 3, none⟩ d) = .ok (.agg #[a, b, c, d]) ((((W.setCell ⟨X, 0, none⟩ a).setCell ⟨X, 1, none⟩ b).setCell ⟨X, 2, none⟩ c).setCell ⟨X, 3, none⟩ d) := by
  have r := (((R.set 0 a).set 1 b).set 2 c).set 3 d
  obtain ⟨V, hV⟩ : ∃ V, V = (((W.setCell ⟨X, 0, none⟩ a).setCell ⟨X, 1, none⟩ b).setCell ⟨X, 2, none⟩ c).setCell ⟨X, 3, none⟩ d := ⟨_, rfl⟩
  rw [← hV] at r ⊢
  clear hV R
  have c0 : V.cell? ⟨X, 0, none⟩ = some a := r.cell (i := 0) (by omega)
  have c1 : V.cell? ⟨X, 1, none⟩ = some b := r.cell (i := 1) (by omega)
  have c2 : V.cell? ⟨X, 2, none⟩ = some c := r.cell (i := 2) (by omega)
  have c3 : V.cell? ⟨X, 3, none⟩ = some d := r.cell (i := 3) (by omega)
  unfold results
  rw [show Tryz.f51.results = #[.cell 2 58] from rfl]
  simp [go_sem, h2, c0, c1, c2, c3]

/-- What comes of a piece. -/
def PcR (w : World) (d : DC) (e : Ending) (w' : World) : Prop := But [] w w' ∧ ∃ p, e = .returned (dV d p) ∧ DcOK w.heap.size w' d p

set_option maxRecDepth 100000 in
set_option maxHeartbeats 2000000 in
theorem p_piece {tb o c : Nat} {ao : Option Addr} {ts : List TK} (HN : NumC ts) {eT : TypeId} {eV : Value} {w : World} (htk : TkAt w tb o ts) (htb : tb < w.heap.size) (ha : 0 < ts.length → ao = some ⟨tb, o, none⟩) (hc : ts.length ≤ c) (hev : w.cell? ⟨0, 0, none⟩ = some (.iface eT eV)) :
    Calls Tryz.prog 51 #[.slice ao ts.length c] w (PcR w (declP true ts)) := by
  have hmf : ∀ (fn : Fn) (first cap : Array Value) (w : World), (Instr.makeFunc fn first cap).run Tryz.prog w = .ok (.func fn first cap) w := fun _ _ _ _ => rfl
  obtain ⟨W2, hW2⟩ : ∃ W2, W2 = (w.alloc (.cells #[.int .i64 0, .string ⟨#[]⟩, .slice none 0 0, .slice none 0 0] 58)).alloc (.cells #[.slice ao ts.length c] 100) := ⟨_, rfl⟩
  have B2 : But [] w W2 := by rw [hW2]; exact ((But.refl _ _).alloc _).alloc _
  have RX : W2.rowIs w.heap.size 58 4 (v4 (.int .i64 0) (.string ⟨#[]⟩) (.slice none 0 0) (.slice none 0 0)) := by rw [hW2]; exact (row4 _ _ _ _ _ _).alloc _
  have RP : W2.rowIs (w.heap.size + 1) 100 1 (fun _ => .slice ao ts.length c) := by
    have := row1 (w.alloc (.cells #[.int .i64 0, .string ⟨#[]⟩, .slice none 0 0, .slice none 0 0] 58)) (.slice ao ts.length c) 100
    simp only [World.size_alloc] at this
    rw [hW2]; exact this
  have s2 : W2.heap.size = w.heap.size + 2 := by rw [hW2]; simp
  have h0 := World.block_lt_of_cell? _ _ hev
  have HPS : Hid (PsAt W2 (w.heap.size + 1) tb o 0 ts eT eV) := ⟨⟨ao, c, by rw [Nat.sub_zero]; exact RP, fun z => by rw [ha z]; simp, by omega⟩, Nat.zero_le _, htk.but B2 (by simp), by omega, by omega, B2.cell hev (by simp)⟩
  have HB2 : Hid (But [] w W2) := B2
  have HNH : Hid (NumC ts) := HN
  have hn := htk.len
  have HD : Hid (∀ r, decR true ts = r → declP true ts = match r with | none => dBad | some (d, j) => if j = ts.length then d else dBad) := by
    show ∀ r, _
    intro r hr; rw [decR_decl, hr]; rfl
  clear HN htk ha B2 RP hev
  go_enter_defers Tryz.func51, Tryz.ntmps51
  go_wp2_with fail
  rw [← hW2]
  clear hW2
  refine (p_decl HNH.out (B := w.heap.size + 2) (by omega) (by omega) HPS.out (by omega)).mono ?_
  rintro e w3 ⟨b3, hr⟩
  have R3 := RX.of_block (b3.block _ RX.lt (by simp))
  have HB3 : Hid (But [w.heap.size + 1] w w3) := (HB2.out.more (S' := [w.heap.size + 1]) (fun _ z => by simp at z)).then_ b3
  have HBN : Hid (But [] w w3) := HB2.out.trans b3 (fun k z hk => by have := List.mem_singleton.1 z; omega)
  clear b3 RX
  cases hd : decR true ts with
  | none =>
    rw [hd] at hr
    have HR : Hid (declP true ts = dBad) := HD.out none hd
    clear hd HD
    simp only at hr
    subst hr
    show bodyPostD _ _ _ _ _ _
    refine leaves_cons (f := 57) (args := #[.pointer (some ⟨w.heap.size, 0, none⟩)]) (by simp) (by simp [go_sem]) ?_
    refine (catch_bad eT eV [] w3 R3).mono ?_
    rintro e u' w'' ⟨rfl, rfl, rfl⟩
    have QB : ∀ {W : World} (n : Nat) (v : Value), But [] w W → But [] w (W.setCell ⟨w.heap.size, n, none⟩ v) := fun n v h => h.set (fun z => absurd z (Nat.lt_irrefl _)) n v
    refine ⟨_, pc_ret R3 _ _ _ _ _ rfl, ?_⟩
    rw [HR.out]
    exact ⟨QB _ _ (QB _ _ (QB _ _ (QB _ _ HBN.out))), dp0, rfl, dc_bare _ _ _ _⟩
  | some z =>
    obtain ⟨d, j⟩ := z
    rw [hd] at hr
    have HR : Hid (declP true ts = if j = ts.length then d else dBad) := HD.out _ hd
    clear hd HD
    obtain ⟨p, rfl, hdc, hps, hlow⟩ := hr
    obtain ⟨ao', c', hrP, -, hcc⟩ := hps.box
    have hlj := hps.le
    have ev := hps.ev
    obtain ⟨m, hm⟩ : ∃ m, m = ts.length - j := ⟨_, rfl⟩
    rw [← hm] at hrP hcc
    have HM : Hid (m = ts.length - j) := hm
    have HD2 : Hid (DcOK (w.heap.size + 2) w3 d p) := hdc
    obtain ⟨ta, tc, htv⟩ := own_form hdc.ty.own
    obtain ⟨ea, ec, hev⟩ := own_form hdc.ex.own
    have HV : Hid (dV d p = .agg #[.int .i64 d.kind, .string d.nm, .slice ta p.zs.length tc, .slice ea p.es.length ec]) := by show _ = _; unfold dV; rw [htv, hev]
    rw [HV.out]
    obtain ⟨dk, hdk⟩ : ∃ k, k = d.kind := ⟨_, rfl⟩
    obtain ⟨dn, hdn⟩ : ∃ k, k = d.nm := ⟨_, rfl⟩
    obtain ⟨dt, hdt⟩ : ∃ k, k = p.zs.length := ⟨_, rfl⟩
    obtain ⟨de, hde⟩ : ∃ k, k = p.es.length := ⟨_, rfl⟩
    rw [← hdk, ← hdn, ← hdt, ← hde]
    have HV2 : Hid (dV d p = .agg #[.int .i64 dk, .string dn, .slice ta dt tc, .slice ea de ec]) := by show _ = _; rw [HV.out, hdk, hdn, hdt, hde]
    have c0 := R3.cell (i := 0) (by omega)
    have c1 := R3.cell (i := 1) (by omega)
    have c2 := R3.cell (i := 2) (by omega)
    have c3 := R3.cell (i := 3) (by omega)
    have z0 := R3.frozen 0
    have z1 := R3.frozen 1
    have z2 := R3.frozen 2
    have z3 := R3.frozen 3
    have cp := hrP.cell (i := 0) (by omega)
    have ne1 : w.heap.size ≠ w.heap.size + 1 := by omega
    have ne0 : w.heap.size ≠ 0 := by omega
    clear hm hdc htv hev hps hrP hdk hdn hdt hde HV hlow
    by_cases hm0 : m = 0
    · subst hm0
      go_wp2
      refine leaves_cons (f := 57) (args := #[.pointer (some ⟨w.heap.size, 0, none⟩)]) (by simp) (by simp [go_sem]) ?_
      refine (catch_none w.heap.size _).mono ?_
      rintro e u' w'' ⟨rfl, rfl, rfl⟩
      have QB : ∀ {W : World} (n : Nat) (v : Value), But [w.heap.size] w3 W → But [w.heap.size] w3 (W.setCell ⟨w.heap.size, n, none⟩ v) := fun n v h => h.set (fun z => by simp) n v
      refine ⟨_, pc_ret ((((R3.set 0 _).set 1 _).set 2 _).set 3 _) _ _ _ _ _ rfl, ?_⟩
      rw [HR.out, if_pos (by have := HM.out; omega)]
      have hb := QB 3 (.slice ea de ec) (QB 2 (.slice ta dt tc) (QB 1 (.string dn) (QB 0 (.int .i64 dk) (QB 3 (.slice ea de ec) (QB 2 (.slice ta dt tc) (QB 1 (.string dn) (QB 0 (.int .i64 dk) (But.refl _ _))))))))
      exact ⟨HBN.out.trans hb (fun k z hk => by have := List.mem_singleton.1 z; omega), p, by rw [HV2.out], (HD2.out.but hb (fun b z y => by have := (HD2.out.lt z).1; have := List.mem_singleton.1 y; omega)).mono (by omega)⟩
    · go_wp2
      refine leaves_cons (f := 57) (args := #[.pointer (some ⟨w.heap.size, 0, none⟩)]) (by simp) (by simp [go_sem]) ?_
      refine (catch_bad eT eV [] _ ((((R3.set 0 _).set 1 _).set 2 _).set 3 _)).mono ?_
      rintro e u' w'' ⟨rfl, rfl, rfl⟩
      have QB : ∀ {W : World} (n : Nat) (v : Value), But [] w W → But [] w (W.setCell ⟨w.heap.size, n, none⟩ v) := fun n v h => h.set (fun z => absurd z (Nat.lt_irrefl _)) n v
      refine ⟨_, pc_ret ((((R3.set 0 _).set 1 _).set 2 _).set 3 _) _ _ _ _ _ rfl, ?_⟩
      rw [HR.out, if_neg (by have := HM.out; omega)]
      exact ⟨QB _ _ (QB _ _ (QB _ _ (QB _ _ (QB _ _ (QB _ _ (QB _ _ (QB _ _ HBN.out))))))), dp0, rfl, dc_bare _ _ _ _⟩

end Go.Proofs.YtdjkgilohhjfoaaGreatDoor

namespace Go.Proofs.YtdjkgilohhjfoaaGreatDoor
open Go.RowKit

theorem tkA_get {ts : List TK} {j : Nat} (hj : j < ts.length) : tkA ts j = ts[j] := by
  unfold tkA
  rw [List.getD_eq_getElem?_getD, List.getElem?_eq_getElem hj]
  rfl
theorem semi_none {ts : List TK} (h : ∀ j, j < ts.length → ((tkA ts j).txt.toList == [59]) = false) : semi ts = none := by
  unfold semi
  rw [List.findIdx?_eq_none_iff]
  intro t ht
  obtain ⟨j, hj, rfl⟩ := List.mem_iff_getElem.1 ht
  have := h j hj
  rw [tkA_get hj, ByteArray.toList_eq] at this
  exact this
theorem semi_some {ts : List TK} {k : Nat} (hk : k < ts.length) (h1 : ((tkA ts k).txt.toList == [59]) = true) (h : ∀ j, j < k → ((tkA ts j).txt.toList == [59]) = false) : semi ts = some k := by
  unfold semi
  rw [List.findIdx?_eq_some_iff_getElem]
  refine ⟨hk, ?_, fun j hj => ?_⟩
  · rw [tkA_get hk, ByteArray.toList_eq] at h1
    exact h1
  · have := h j hj
    rw [tkA_get (by omega), ByteArray.toList_eq] at this
    simpa [sSemi] using this

theorem p_ends (k0 : Int) (k1 : ByteArray) (k2 : Int) (w : World) :
    Calls Tryz.prog 50 #[.agg #[.int .i64 k0, .string k1, .int .i64 k2]] w fun e w' => e = .returned (.bool (k1.toList == [59])) ∧ Hid (Below w.heap.size w w') := by
  go_enter Tryz.func50, Tryz.ntmps50
  go_wp2
  go_ret
  exact ⟨rfl, bel1 _ _⟩

set_option maxRecDepth 100000 in
set_option maxHeartbeats 4000000 in
theorem p_index {tb o c : Nat} {ao : Option Addr} {ts : List TK} {w : World} (htk : TkAt w tb o ts) (ha : 0 < ts.length → ao = some ⟨tb, o, none⟩) :
    Calls Tryz.prog 49 #[.slice ao ts.length c, .func (.func 50) #[] #[]] w fun e w' => Below w.heap.size w w' ∧ ((e = .returned (.int .i64 (-1)) ∧ semi ts = none) ∨ ∃ i : Nat, e = .returned (.int .i64 (i : Int)) ∧ i < ts.length ∧ semi ts = some i) := by
  have HT : Hid (∀ w', Below w.heap.size w w' → TkAt w' tb o ts) := fun w' hb => htk.but (S := []) ⟨hb.os, hb.tape, hb.output, hb.size, fun k hk _ => hb.block k hk⟩ (by simp)
  have HA : Hid (0 < ts.length → ao = some ⟨tb, o, none⟩) := ha
  have hn := htk.len
  obtain ⟨n, hn'⟩ : ∃ n, n = ts.length := ⟨_, rfl⟩
  have HN : Hid (n = ts.length) := hn'
  rw [← hn'] at hn ⊢
  clear htk ha hn'
  go_enter Tryz.func49, Tryz.ntmps49
  go_wp2
  go_loopw [8] (fun i wr => ∃ k : Nat, k ≤ n ∧ i = .int .i64 k ∧ Hid (Below w.heap.size w wr) ∧ Hid (∀ j, j < k → ((tkA ts j).txt.toList == [59]) = false)) (fun i _ => n - (intOf i).toNat)
  case atStart => exact ⟨0, Nat.zero_le _, rfl, Below.refl _ _, fun j hj => absurd hj (Nat.not_lt_zero _)⟩
  case round =>
    obtain ⟨k, hk, rfl, HW, HF⟩ := hrel
    by_cases hlt : k < n
    · have q1 := HT.out wr HW.out
      have e := HA.out (by have := HN.out; omega)
      subst e
      have a0 := q1.c0 k (by have := HN.out; omega)
      have a1 := q1.c1 k (by have := HN.out; omega)
      have a2 := q1.c2 k (by have := HN.out; omega)
      obtain ⟨k0, hk0⟩ : ∃ z, z = (tkA ts k).cls := ⟨_, rfl⟩
      obtain ⟨k1, hk1⟩ : ∃ z, z = (tkA ts k).txt := ⟨_, rfl⟩
      obtain ⟨k2, hk2⟩ : ∃ z, z = ((tkA ts k).loc : Int) := ⟨_, rfl⟩
      rw [← hk0] at a0
      rw [← hk1] at a1
      rw [← hk2] at a2
      obtain ⟨r, hr⟩ : ∃ r, r = (k1.toList == [59]) := ⟨_, rfl⟩
      have HR : Hid (((tkA ts k).txt.toList == [59]) = r) := by show _ = _; rw [hr, hk1]
      have CG : Hid (Calls Tryz.prog 50 #[.agg #[.int .i64 k0, .string k1, .int .i64 k2]] wr fun e w' => e = .returned (.bool r) ∧ Hid (Below wr.heap.size wr w')) := by
        rw [hr]; exact p_ends k0 k1 k2 wr
      clear hr hk0 hk1 hk2 q1
      go_wp2_with fail
      refine CG.out.mono ?_
      rintro e w2 ⟨rfl, H2⟩
      have HW2 : Hid (Below w.heap.size w w2) := HW.out.trans (H2.out.mono HW.out.size)
      clear a0 a1 a2 CG H2
      cases r
      · go_wp2
        go_roundw
        case rel => exact ⟨k + 1, by omega, by go_num, HW2, fun j hj => by
          by_cases e : j = k
          · subst e; exact HR.out
          · exact HF.out j (by omega)⟩
        case measure => simp [intOf]; omega
      · have HI : Hid (k < ts.length) := by show _ < _; rw [← HN.out]; exact hlt
        go_wp2
        go_ret
        exact ⟨HW2.out, Or.inr ⟨k, rfl, by rw [HN.out]; exact HI.out, semi_some HI.out HR.out HF.out⟩⟩
    · have hkn : k = n := by omega
      subst hkn
      go_wp2
      go_ret
      exact ⟨HW.out, Or.inl ⟨rfl, semi_none (fun j hj => HF.out j (by rw [HN.out]; exact hj))⟩⟩

end Go.Proofs.YtdjkgilohhjfoaaGreatDoor

namespace Go.Proofs.YtdjkgilohhjfoaaGreatDoor
open Go

theorem from_dig : ∀ (l : List UInt8) (a : Nat), (∀ c, c ∈ l → dg (c.toNat : Int) = true) → ∃ n : Nat, Lib.decFrom a l = some n ∧ l.foldl (fun n c => n * 10 + ((c.toNat : Int) - 48)) (a : Int) = (n : Int)
  | [], a, _ => ⟨a, rfl, rfl⟩
  | c :: l, a, h => by
    have hc := h c (by simp)
    unfold dg at hc
    have hc' := of_decide_eq_true hc
    obtain ⟨n, h1, h2⟩ := from_dig l (a * 10 + (c.toNat - 48)) (fun x hx => h x (by simp [hx]))
    have e : Lib.digitVal c = some (c.toNat - 48) := by unfold Lib.digitVal; rw [if_pos (by omega)]
    refine ⟨n, ?_, ?_⟩
    · have := h1
      simp only [Lib.decFrom, e]
      exact this
    · rw [← h2]
      show l.foldl _ ((a : Int) * 10 + ((c.toNat : Int) - 48)) = _
      congr 1
      omega

theorem atoi_dig {l : List UInt8} (h0 : l ≠ []) (hd : ∀ c, c ∈ l → dg (c.toNat : Int) = true) : Lib.atoi l = some (valN l) := by
  obtain ⟨n, h1, h2⟩ := from_dig l 0 hd
  cases l with
  | nil => exact absurd rfl h0
  | cons b r =>
    have hb := hd b (by simp)
    unfold dg at hb
    have hb' := of_decide_eq_true hb
    show (if (b == 45) = true then (Lib.decNat r).map fun (m : Nat) => -(m : Int) else if (b == 43) = true then (Lib.decNat r).map fun (m : Nat) => (m : Int) else (Lib.decNat (b :: r)).map fun (m : Nat) => (m : Int)) = _
    have n1 : ¬ (b == 45) = true := fun h => by have := beq_iff_eq.1 h; subst this; have : (45 : UInt8).toNat = 45 := rfl; omega
    have n2 : ¬ (b == 43) = true := fun h => by have := beq_iff_eq.1 h; subst this; have : (43 : UInt8).toNat = 43 := rfl; omega
    rw [if_neg n1, if_neg n2]
    unfold Lib.decNat
    rw [if_neg (by simp), h1]
    show some (n : Int) = some (valN (b :: r))
    rw [← h2]; rfl

end Go.Proofs.YtdjkgilohhjfoaaGreatDoor

namespace Go.Proofs.YtdjkgilohhjfoaaGreatDoor

theorem run_all {p : Int → Bool} {s : ByteArray} : ∀ (n i j : Nat), s.size - i ≤ n → j < Go.Proofs.YtdjkgilohhjfoaaGreatDoor.run p s i → p (bt s (i + j)) = true
  | 0, i, j, hn, hj => by rw [run_end (by omega)] at hj; omega
  | n + 1, i, j, hn, hj => by
    by_cases hi : i < s.size
    · cases hp : p (bt s i) with
      | false => rw [run_stop hi hp] at hj; omega
      | true =>
        rw [run_step hi hp] at hj
        cases j with
        | zero => exact hp
        | succ j =>
          have := run_all (p := p) (s := s) n (i + 1) j (by omega) (by omega)
          rwa [show i + 1 + j = i + (j + 1) by omega] at this
    · rw [run_end hi] at hj; omega

theorem tks_mem {s : ByteArray} : ∀ (n i : Nat) (t : TK), s.size - i ≤ n → t ∈ tks s i → ∃ k, k < s.size ∧ t = ⟨cls (ptx s k).toList, ptx s k, k⟩
  | 0, i, t, hn, ht => by rw [tks_end (by omega)] at ht; cases ht
  | n + 1, i, t, hn, ht => by
    by_cases hi : i < s.size
    · have hp := plen_pos s i
      cases hb : blk s i with
      | true =>
        rw [tks_blk hi hb] at ht
        exact tks_mem n _ t (by omega) ht
      | false =>
        rw [tks_tok hi hb] at ht
        rcases List.mem_cons.1 ht with e | e
        · exact ⟨i, hi, e⟩
        · exact tks_mem n _ t (by omega) e
    · rw [tks_end hi] at ht; cases ht

/-- A piece that begins with a digit is all digits. -/
theorem ptx_dig {s : ByteArray} {k : Nat} (hk : k < s.size) (hd : dg (bt s k) = true) : ∀ c, c ∈ (ptx s k).data.toList → dg (c.toNat : Int) = true := fun c hc => by
  have hd' := hd
  unfold dg at hd'
  simp only [decide_eq_true_eq] at hd'
  have hl : plen s k = 1 + Go.Proofs.YtdjkgilohhjfoaaGreatDoor.run dg s (k + 1) := by
    unfold plen
    rw [if_neg (by omega), if_neg (by omega), if_neg (by unfold sl; simp only [decide_eq_true_eq]; omega), if_pos hd]
  have hs := ptx_size hk
  have hle := plen_le hk
  obtain ⟨j, hj, e⟩ := List.mem_iff_getElem.1 hc
  have hj' : j < plen s k := by rw [← hs]; simpa using hj
  have e2 : c = s[k + j]'(by omega) := by
    rw [← e]
    show (ptx s k)[j]'(by omega) = _
    unfold ptx
    rw [ByteArray.getElem_extract]
  rw [e2, ← bt_in]
  cases j with
  | zero => exact hd
  | succ j =>
    have := run_all (p := dg) (s := s) s.size (k + 1) j (by omega) (by omega)
    rwa [show k + 1 + j = k + (j + 1) by omega] at this

/-- What the tokens of a text keep. -/
structure TkOK (ts : List TK) : Prop where
  sz : ∀ t, t ∈ ts → t.txt.size ≤ 1000
  gd : ∀ t, t ∈ ts → t.cls = cls t.txt.toList
  dig : ∀ t, t ∈ ts → num t.txt.toList = true → ∀ c, c ∈ t.txt.data.toList → dg (c.toNat : Int) = true
  pos : ∀ t, t ∈ ts → 0 < t.txt.size

theorem TkOK.sub {ts us : List TK} (h : TkOK ts) (hs : ∀ t, t ∈ us → t ∈ ts) : TkOK us :=
  ⟨fun t ht => h.sz t (hs t ht), fun t ht => h.gd t (hs t ht), fun t ht => h.dig t (hs t ht), fun t ht => h.pos t (hs t ht)⟩

theorem toks_ok (s : ByteArray) : TkOK (toks s) := by
  unfold toks
  split
  · rename_i h1
    refine ⟨fun t ht => ?_, fun t ht => ?_, fun t ht hn => ?_, fun t ht => ?_⟩
    · obtain ⟨k, hk, rfl⟩ := tks_mem s.size 0 t (by omega) ht
      show (ptx s k).size ≤ 1000
      have := plen_le hk
      rw [ptx_size hk]; omega
    · obtain ⟨k, hk, rfl⟩ := tks_mem s.size 0 t (by omega) ht
      rfl
    · obtain ⟨k, hk, rfl⟩ := tks_mem s.size 0 t (by omega) ht
      refine ptx_dig hk ?_
      rw [← ptx_head hk]
      have hn' : num (ptx s k).toList = true := hn
      unfold num at hn'
      simp only [Bool.and_eq_true] at hn'
      exact hn'.1
    · obtain ⟨k, hk, rfl⟩ := tks_mem s.size 0 t (by omega) ht
      show 0 < (ptx s k).size
      rw [ptx_size hk]; exact plen_pos s k
  · exact ⟨(fun t ht => by cases ht), (fun t ht => by cases ht), (fun t ht => by cases ht), (fun t ht => by cases ht)⟩

theorem toks_len (s : ByteArray) : (toks s).length ≤ 1000 := by
  unfold toks
  split
  · have := tks_len (s := s) (i := 0)
    omega
  · exact Nat.zero_le _

theorem tx_mem {ts : List TK} {i : Nat} (hi : i < ts.length) : ∃ t, t ∈ ts ∧ t.txt = tx ts i := by
  refine ⟨ts[i], List.getElem_mem hi, ?_⟩
  unfold tx
  rw [List.getElem?_eq_getElem hi]
  rfl

/-- A number's text is one to nine digits. -/
theorem TkOK.number {ts : List TK} (h : TkOK ts) {i : Nat} (hi : i < ts.length) (hn : num (tx ts i).toList = true) :
    (tx ts i).data.toList ≠ [] ∧ (tx ts i).data.toList.length ≤ 9 ∧ ∀ c, c ∈ (tx ts i).data.toList → dg (c.toNat : Int) = true := by
  obtain ⟨t, ht, e⟩ := tx_mem hi
  rw [← e] at hn ⊢
  refine ⟨fun e0 => ?_, ?_, h.dig t ht hn⟩
  · have := h.pos t ht
    have h2 : t.txt.size = t.txt.data.toList.length := (Array.length_toList).symm
    rw [h2, e0] at this
    exact absurd this (by decide)
  · unfold num at hn
    simp only [Bool.and_eq_true, Bool.not_eq_true', decide_eq_false_iff_not] at hn
    have := hn.2
    rw [ByteArray.toList_eq] at this
    omega

end Go.Proofs.YtdjkgilohhjfoaaGreatDoor

namespace Go.Proofs.YtdjkgilohhjfoaaGreatDoor
open Go.RowKit

theorem decs_fuel (st : Bool) : ∀ (f g : Nat) (ts : List TK), ts.length < f → ts.length < g → decs st f ts = decs st g ts
  | 0, _, _, h, _ => absurd h (Nat.not_lt_zero _)
  | _ + 1, 0, _, _, h => absurd h (Nat.not_lt_zero _)
  | f + 1, g + 1, ts, h1, h2 => by
    rw [decs, decs]
    cases ts with
    | nil => rfl
    | cons t l =>
      simp only [List.isEmpty_cons, Bool.false_eq_true, if_false]
      cases semi (t :: l) with
      | none => rfl
      | some k =>
        show _ :: decs st f _ = _ :: decs st g _
        rw [decs_fuel st f g _ (by simp at h1 ⊢; omega) (by simp at h2 ⊢; omega)]
theorem decs_nil (st : Bool) (f : Nat) : decs st f [] = [] := by cases f <;> rfl
theorem decs_none {st : Bool} {ts : List TK} (h : ts ≠ []) (hs : semi ts = none) : decs st (ts.length + 1) ts = [dBad] := by
  rw [decs]
  cases ts with
  | nil => exact absurd rfl h
  | cons t l => simp only [List.isEmpty_cons, Bool.false_eq_true, if_false, hs]
theorem decs_some {st : Bool} {ts : List TK} {k : Nat} (hk : k < ts.length) (hs : semi ts = some k) : decs st (ts.length + 1) ts = declP st (ts.take k) :: decs st ((ts.drop (k + 1)).length + 1) (ts.drop (k + 1)) := by
  rw [decs]
  cases ts with
  | nil => exact absurd hk (Nat.not_lt_zero _)
  | cons t l =>
    simp only [List.isEmpty_cons, Bool.false_eq_true, if_false, hs]
    rw [decs_fuel st _ (((t :: l).drop (k + 1)).length + 1) _ (by simp; omega) (by omega)]

def dcC (x : DC × DPl) : List Value := [.int .i64 x.1.kind, .string x.1.nm, x.2.tv, x.2.ev]
def dcsC (xs : List (DC × DPl)) : List Value := xs.flatMap dcC
theorem dcsC_snoc (xs : List (DC × DPl)) (x : DC × DPl) : dcsC (xs ++ [x]) = dcsC xs ++ dcC x := by simp [dcsC]
def dcsB (xs : List (DC × DPl)) : List Nat := xs.flatMap fun x => dB x.2
theorem dcsB_snoc (xs : List (DC × DPl)) (x : DC × DPl) : dcsB (xs ++ [x]) = dcsB xs ++ dB x.2 := by simp [dcsB]
theorem mem_dcsB {xs : List (DC × DPl)} {b : Nat} (h : b ∈ dcsB xs) : ∃ x, x ∈ xs ∧ b ∈ dB x.2 := List.mem_flatMap.1 h
theorem dcsB_mem {xs : List (DC × DPl)} {x : DC × DPl} {b : Nat} (hx : x ∈ xs) (hb : b ∈ dB x.2) : b ∈ dcsB xs := List.mem_flatMap.2 ⟨x, hx, hb⟩

/-- Declarations in memory of one's own. -/
structure OD (B : Nat) (w : World) (v : Value) (xs : List (DC × DPl)) : Prop where
  own : w.ownsRow B 58 4 v xs.length (dcsC xs)
  ok : ∀ x, x ∈ xs → DcOK B w x.1 x.2
  nd : (dcsB xs).Nodup
  sep : ∀ b, b ∈ dcsB xs → v.ownBlock ≠ some b

theorem OD.nil (B : Nat) (w : World) : OD B w (.slice none 0 0) [] := ⟨World.ownsRow_nil _ _ _ _, (fun x hx => by cases hx), List.nodup_nil, (fun b hb => by cases hb)⟩
theorem OD.lt {B : Nat} {w : World} {v : Value} {xs : List (DC × DPl)} (h : OD B w v xs) {b : Nat} (hb : b ∈ dcsB xs) : B ≤ b ∧ b < w.heap.size := by
  obtain ⟨x, hx, hb⟩ := mem_dcsB hb
  exact (h.ok x hx).lt hb
theorem OD.but {S : List Nat} {B : Nat} {w w' : World} {v : Value} {xs : List (DC × DPl)} (h : OD B w v xs) (hb : But S w w') (h1 : ∀ b, v.ownBlock = some b → b ∉ S) (h2 : ∀ b, b ∈ dcsB xs → b ∉ S) : OD B w' v xs :=
  ⟨own_block h.own (fun k e => hb.block k (h.own.lt k e.symm).2 (h1 k e.symm)), fun x hx => (h.ok x hx).but hb (fun b z => h2 b (dcsB_mem hx z)), h.nd, h.sep⟩
theorem OD.low {S : List Nat} {B : Nat} {w w' : World} {v : Value} {xs : List (DC × DPl)} (h : OD B w v xs) (hb : But S w w') (hS : ∀ b, b ∈ S → b < B ∨ w.heap.size ≤ b) : OD B w' v xs :=
  h.but hb (fun b e z => by have := h.own.lt b e; have := hS b z; omega) (fun b e z => by have := h.lt e; have := hS b z; omega)
theorem OD.mono {B B' : Nat} {w : World} {v : Value} {xs : List (DC × DPl)} (h : OD B w v xs) (hb : B' ≤ B) : OD B' w v xs :=
  ⟨own_mono h.own hb, fun x hx => (h.ok x hx).mono hb, h.nd, h.sep⟩

/-- One more declaration, whose blocks are new since w0. -/
theorem OD.push {B : Nat} {w w3 : World} {v : Value} {xs : List (DC × DPl)} {x : DC × DPl} {o : Obj} {gg cap3 M : Nat} (h : OD B w v xs)
    (hown : w3.ownsRow B 58 4 (.slice (some ⟨gg, 0, none⟩) (xs.length + 1) cap3) (xs.length + 1) (dcsC xs ++ dcC x)) (hg : (w.alloc o).grownBy w3 v.ownBlock) (hat : v.ownBlock = some gg ∨ gg = w.heap.size + 1)
    (hx : DcOK B w x.1 x.2) (hM : ∀ b, b ∈ dB x.2 → M ≤ b) (hv : ∀ b, v.ownBlock = some b → b < M) (hxs : ∀ b, b ∈ dcsB xs → b < M) :
    OD B w3 (.slice (some ⟨gg, 0, none⟩) (xs.length + 1) cap3) (xs ++ [x]) := by
  have hb := grown_but hg
  refine ⟨by rw [dcsC_snoc, List.length_append]; exact hown, fun y hy => ?_, ?_, fun b hb' => ?_⟩
  · rcases List.mem_append.1 hy with z | z
    · exact (h.ok y z).but hb (fun b hb => by simp only [Option.mem_toList]; exact h.sep b (dcsB_mem z hb))
    · rw [List.mem_singleton.1 z]
      exact hx.but hb (fun b hb => by simp only [Option.mem_toList]; intro e; have := hv b e; have := hM b hb; omega)
  · rw [dcsB_snoc]
    refine List.nodup_append.2 ⟨h.nd, hx.nd, fun a ha b hb e => ?_⟩
    have := hxs a ha
    have := hM b hb
    omega
  · rw [dcsB_snoc] at hb'
    intro e
    have e2 : gg = b := by simpa [Value.ownBlock] using e
    subst e2
    rcases List.mem_append.1 hb' with z | z
    · rcases hat with q | q
      · exact h.sep _ z q
      · have := (h.lt z).2; omega
    · rcases hat with q | q
      · have := hv _ q; have := hM _ z; omega
      · have := (hx.lt z).2; omega

/-- A piece's answer, its four cells seen. -/
def PcV (w : World) (d : DC) (e : Ending) (w' : World) : Prop := ∃ p dk dn ta tn tc ea en ec, e = .returned (.agg #[.int .i64 dk, .string dn, .slice ta tn tc, .slice ea en ec]) ∧ Hid (dcC (d, p) = [.int .i64 dk, .string dn, .slice ta tn tc, .slice ea en ec]) ∧ Hid (DcOK w.heap.size w' d p) ∧ Hid (But [] w w')

theorem p_pieceV {tb o c : Nat} {ao : Option Addr} {ts : List TK} (HN : NumC ts) {eT : TypeId} {eV : Value} {w : World} (htk : TkAt w tb o ts) (htb : tb < w.heap.size) (ha : 0 < ts.length → ao = some ⟨tb, o, none⟩) (hc : ts.length ≤ c) (hev : w.cell? ⟨0, 0, none⟩ = some (.iface eT eV)) :
    Calls Tryz.prog 51 #[.slice ao ts.length c] w (PcV w (declP true ts)) := by
  refine (p_piece HN htk htb ha hc hev).mono ?_
  rintro e w' ⟨hb, p, rfl, hok⟩
  obtain ⟨ta, tc, htv⟩ := own_form hok.ty.own
  obtain ⟨ea, ec, hev⟩ := own_form hok.ex.own
  refine ⟨p, (declP true ts).kind, (declP true ts).nm, ta, p.zs.length, tc, ea, p.es.length, ec, ?_, ?_, hok, hb⟩
  · unfold dV; rw [htv, hev]
  · show dcC _ = _; unfold dcC; rw [htv, hev]

end Go.Proofs.YtdjkgilohhjfoaaGreatDoor

