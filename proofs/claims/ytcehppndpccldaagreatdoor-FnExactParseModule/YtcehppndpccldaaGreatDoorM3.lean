/-
  Merged for the claim: PbA PbB.
-/
import Derived.Test.YtcehppndpccldaaGreatDoorM1
import Derived.Test.YtcehppndpccldaaGreatDoorM2
import Derived.Deep.RegionHeld3
namespace Go.Proofs.YtcehppndpccldaaGreatDoor
open Go.RowKit

def tkA (l : List TK) (i : Nat) : TK := l.getD i ⟨0, ByteArray.empty, 0⟩

/-- Nothing but these blocks has changed. -/
structure But (S : List Nat) (w w' : World) : Prop where
  os : w'.os = w.os
  tape : w'.tape = w.tape
  output : w'.output = w.output
  size : w.heap.size ≤ w'.heap.size
  block : ∀ k, k < w.heap.size → k ∉ S → w'.heap[k]? = w.heap[k]?
theorem But.refl (S : List Nat) (w : World) : But S w w := ⟨rfl, rfl, rfl, Nat.le_refl _, fun _ _ _ => rfl⟩
theorem But.trans {S S' : List Nat} {w w1 w2 : World} (h : But S w w1) (h' : But S' w1 w2) (hs : ∀ k, k ∈ S' → k < w.heap.size → k ∈ S) : But S w w2 :=
  ⟨h'.os.trans h.os, h'.tape.trans h.tape, h'.output.trans h.output, Nat.le_trans h.size h'.size, fun k hk hn => (h'.block k (Nat.lt_of_lt_of_le hk h.size) (fun z => hn (hs k z hk))).trans (h.block k hk hn)⟩
theorem But.then_ {S : List Nat} {w w1 w2 : World} (h : But S w w1) (h' : But S w1 w2) : But S w w2 := h.trans h' (fun _ z _ => z)
theorem But.below {S : List Nat} {w w1 w2 : World} (h : But S w w1) (hb : Below w1.heap.size w1 w2) : But S w w2 :=
  ⟨hb.os.trans h.os, hb.tape.trans h.tape, hb.output.trans h.output, Nat.le_trans h.size hb.size, fun k hk hn => (hb.block k (Nat.lt_of_lt_of_le hk h.size)).trans (h.block k hk hn)⟩
theorem But.set {S : List Nat} {w w1 : World} (h : But S w w1) {b : Nat} (hb : b < w.heap.size → b ∈ S) (o : Nat) (v : Value) : But S w (w1.setCell ⟨b, o, none⟩ v) :=
  ⟨h.os, h.tape, h.output, by rw [World.size_setCell]; exact h.size, fun k hk hn => (Below.heap_setCell _ _ _ _ (by show k ≠ b; rintro rfl; exact hn (hb hk))).trans (h.block k hk hn)⟩
theorem But.alloc {S : List Nat} {w w1 : World} (h : But S w w1) (o : Obj) : But S w (w1.alloc o) := h.below (bel1 _ _)
theorem But.more {S S' : List Nat} {w w1 : World} (h : But S w w1) (hs : ∀ k, k ∈ S → k ∈ S') : But S' w w1 := ⟨h.os, h.tape, h.output, h.size, fun k hk hn => h.block k hk (fun z => hn (hs k z))⟩
theorem But.cell {S : List Nat} {w w1 : World} (h : But S w w1) {b o : Nat} {v : Value} (hc : w.cell? ⟨b, o, none⟩ = some v) (hb : b ∉ S) : w1.cell? ⟨b, o, none⟩ = some v :=
  (World.cell?_of_block (h.block b (World.block_lt_of_cell? _ _ hc) hb)).trans hc

/-- Tokens in memory. -/
structure TkAt (w : World) (tb o : Nat) (ts : List TK) : Prop where
  c0 : ∀ j, j < ts.length → w.cell? ⟨tb, o + j * 3, none⟩ = some (.int .i64 (tkA ts j).cls)
  c1 : ∀ j, j < ts.length → w.cell? ⟨tb, o + j * 3 + 1, none⟩ = some (.string (tkA ts j).txt)
  c2 : ∀ j, j < ts.length → w.cell? ⟨tb, o + j * 3 + 2, none⟩ = some (.int .i64 ((tkA ts j).loc : Int))
  len : ts.length ≤ 1000
  sz : ∀ j, j < ts.length → (tkA ts j).txt.size ≤ 1000
  gd : ∀ j, j < ts.length → (tkA ts j).cls = cls (tkA ts j).txt.toList
theorem TkAt.but {S : List Nat} {w w1 : World} {tb o : Nat} {ts : List TK} (h : TkAt w tb o ts) (hb : But S w w1) (hn : tb ∉ S) : TkAt w1 tb o ts :=
  ⟨fun j hj => hb.cell (h.c0 j hj) hn, fun j hj => hb.cell (h.c1 j hj) hn, fun j hj => hb.cell (h.c2 j hj) hn, h.len, h.sz, h.gd⟩

/-- The parser stands at token i. -/
structure PsAt (w : World) (P tb o i : Nat) (ts : List TK) (eT : TypeId) (eV : Value) : Prop where
  box : ∃ ao c, w.rowIs P 81 1 (fun _ => .slice ao (ts.length - i) c) ∧ (i < ts.length → ao = some ⟨tb, o + i * 3, none⟩) ∧ ts.length - i ≤ c
  le : i ≤ ts.length
  tk : TkAt w tb o ts
  ne : P ≠ tb
  pos : P ≠ 0
  ev : w.cell? ⟨0, 0, none⟩ = some (.iface eT eV)

theorem PsAt.but {S : List Nat} {w w1 : World} {P tb o i : Nat} {ts : List TK} {eT : TypeId} {eV : Value} (h : PsAt w P tb o i ts eT eV) (hb : But S w w1) (hP : P ∉ S) (ht : tb ∉ S) (h0 : 0 ∉ S) : PsAt w1 P tb o i ts eT eV := by
  obtain ⟨ao, c, hr, r⟩ := h.box
  exact ⟨⟨ao, c, hr.of_block (hb.block P hr.lt hP), r⟩, h.le, h.tk.but hb ht, h.ne, h.pos, hb.cell h.ev h0⟩

/-- The parser's box is written, and it stands at another token. -/
theorem PsAt.step {w w1 : World} {P tb o i j : Nat} {ts : List TK} {eT : TypeId} {eV : Value} (h : PsAt w P tb o i ts eT eV) (hb : But [P] w w1) (hP : w1.heap[P]? = w.heap[P]?) {ao : Option Addr} {c : Nat} (hj : j ≤ ts.length) (ha : j < ts.length → ao = some ⟨tb, o + j * 3, none⟩) (hc : ts.length - j ≤ c) :
    PsAt (w1.setCell ⟨P, 0, none⟩ (.slice ao (ts.length - j) c)) P tb o j ts eT eV := by
  obtain ⟨ao', c', hr, _⟩ := h.box
  have hr1 := hr.of_block hP
  have hb2 : But [P] w (w1.setCell ⟨P, 0, none⟩ (.slice ao (ts.length - j) c)) := hb.set (fun _ => by simp) 0 _
  refine ⟨⟨ao, c, (hr1.set 0 _).congr (fun k hk => by
    match k, hk with
    | 0, _ => rfl), ha, hc⟩, hj, h.tk.but hb2 (by simp; exact fun e => h.ne e.symm), h.ne, h.pos, hb2.cell h.ev (by simp; exact fun e => h.pos e.symm)⟩

def tkV (t : TK) : Value := .agg #[.int .i64 t.cls, .string t.txt, .int .i64 (t.loc : Int)]

set_option maxRecDepth 100000 in
set_option maxHeartbeats 1000000 in
theorem p_next {P tb o i : Nat} {ts : List TK} {eT : TypeId} {eV : Value} (w : World) (h : PsAt w P tb o i ts eT eV) (hi : i < ts.length) :
    Calls Tryz.prog 79 #[.pointer (some ⟨P, 0, none⟩)] w fun e w' => e = .returned (tkV (tkA ts i)) ∧ PsAt w' P tb o (i + 1) ts eT eV ∧ But [P] w w' := by
  have HP : Hid (PsAt w P tb o i ts eT eV) := h
  obtain ⟨ao, c, hr, ha, hc⟩ := h.box
  have ea := ha hi
  subst ea
  have t0 := h.tk.c0 i hi
  have t1 := h.tk.c1 i hi
  have t2 := h.tk.c2 i hi
  have hl := h.tk.len
  obtain ⟨m, hm⟩ : ∃ m, m = ts.length - i := ⟨_, rfl⟩
  have HM : Hid (m = ts.length - i) := hm
  rw [← hm] at hr hc
  have hb := hr.cell (i := 0) (by omega)
  have hf := hr.frozen 0
  have hm0 : 0 < m := by omega
  have qm : ((m : Int) == 0) = false := beq_eq_false_iff_ne.2 (by omega)
  have tb1 := World.block_lt_of_cell? _ _ t0
  have lP := hr.lt
  obtain ⟨k0, hk0⟩ : ∃ k, k = (tkA ts i).cls := ⟨_, rfl⟩
  obtain ⟨k1, hk1⟩ : ∃ k, k = (tkA ts i).txt := ⟨_, rfl⟩
  obtain ⟨k2, hk2⟩ : ∃ k, k = ((tkA ts i).loc : Int) := ⟨_, rfl⟩
  have HV : Hid (tkV (tkA ts i) = .agg #[.int .i64 k0, .string k1, .int .i64 k2]) := by show tkV _ = _; rw [hk0, hk1, hk2]; rfl
  rw [← hk0] at t0
  rw [← hk1] at t1
  rw [← hk2] at t2
  have BA := bel1 w (.cells #[.int .i64 0, .string ⟨#[]⟩, .int .i64 0] 38)
  have a0 := (BA.cell (p := ⟨tb, o + i * 3, none⟩) tb1).trans t0
  have a1 := (BA.cell (p := ⟨tb, o + i * 3 + 1, none⟩) tb1).trans t1
  have a2 := (BA.cell (p := ⟨tb, o + i * 3 + 2, none⟩) tb1).trans t2
  have ab := (BA.cell (p := ⟨P, 0, none⟩) lP).trans hb
  have RB : ((w.alloc (.cells #[.int .i64 0, .string ⟨#[]⟩, .int .i64 0] 38)).alloc (.cells #[.int .i64 k0, .string k1, .int .i64 k2] 38)).rowIs P 81 1 (fun _ => .slice (some ⟨tb, o + i * 3, none⟩) m c) := (hr.alloc _).alloc _
  have bb := RB.cell (i := 0) (by omega)
  have bf := RB.frozen 0
  clear h ha hm hk0 hk1 hk2 BA RB hr t0 t1 t2 hb hf
  go_enter Tryz.func79, Tryz.ntmps79
  have EQ : Hid (ts.length - (i + 1) = m - 1) := by show _ = _; rw [HM.out]; omega
  have FIN : Hid (∀ (ao : Option Addr) (c' : Nat) (x y : Obj), (i + 1 < ts.length → ao = some ⟨tb, o + i * 3 + 3, none⟩) → m - 1 ≤ c' → PsAt (((w.setCell ⟨P, 0, none⟩ (.slice ao (m - 1) c')).alloc x).alloc y) P tb o (i + 1) ts eT eV ∧ But [P] w (((w.setCell ⟨P, 0, none⟩ (.slice ao (m - 1) c')).alloc x).alloc y)) := fun ao c' x y h1 h2 => by
    have hs := HP.out.step (But.refl [P] w) rfl (ao := ao) (c := c') (j := i + 1) (by omega) (fun z => by rw [h1 z]; congr 2; omega) (by rw [EQ.out]; exact h2)
    rw [EQ.out] at hs
    have hb1 : But [P] w (w.setCell ⟨P, 0, none⟩ (.slice ao (m - 1) c')) := (But.refl [P] w).set (fun _ => by simp) 0 _
    have hb2 : But ([] : List Nat) (w.setCell ⟨P, 0, none⟩ (.slice ao (m - 1) c')) (((w.setCell ⟨P, 0, none⟩ (.slice ao (m - 1) c')).alloc x).alloc y) := ((But.refl [] _).alloc x).alloc y
    exact ⟨hs.but hb2 (by simp) (by simp) (by simp), hb1.trans hb2 (fun _ z => by simp at z)⟩
  go_wp2
  case inr =>
    exact bodyPost_ret (v := .agg #[.int .i64 k0, .string k1, .int .i64 k2]) (by simp [results, Tryz.results79, go_sem]) rfl ⟨by rw [HV.out], FIN.out _ _ _ _ (fun _ => rfl) (by omega)⟩
  case inl =>
    exact bodyPost_ret (v := .agg #[.int .i64 k0, .string k1, .int .i64 k2]) (by simp [results, Tryz.results79, go_sem]) rfl ⟨by rw [HV.out], FIN.out _ _ _ _ (fun z => by have := HM.out; omega) (by omega)⟩

set_option maxRecDepth 100000 in
set_option maxHeartbeats 1000000 in
theorem p_next_no {P tb o i : Nat} {ts : List TK} {eT : TypeId} {eV : Value} (w : World) (h : PsAt w P tb o i ts eT eV) (hi : ¬ i < ts.length) :
    Calls Tryz.prog 79 #[.pointer (some ⟨P, 0, none⟩)] w fun e w' => e = .panicked [{ v := .iface eT eV, recovered := false }] ∧ But [P] w w' := by
  obtain ⟨ao, c, hr, ha, hc⟩ := h.box
  have he : ts.length - i = 0 := by omega
  rw [he] at hr
  have RB := hr.alloc (.cells #[.int .i64 0, .string ⟨#[]⟩, .int .i64 0] 38)
  have bb := RB.cell (i := 0) (by omega)
  have be := ((bel1 w (.cells #[.int .i64 0, .string ⟨#[]⟩, .int .i64 0] 38)).cell (p := ⟨0, 0, none⟩) (World.block_lt_of_cell? _ _ h.ev)).trans h.ev
  have HB : Hid (But [P] w (w.alloc (.cells #[.int .i64 0, .string ⟨#[]⟩, .int .i64 0] 38))) := (But.refl _ _).alloc _
  clear h ha hc he RB hr
  go_enter Tryz.func79, Tryz.ntmps79
  go_wp2
  exact ⟨rfl, rfl, HB.out⟩

end Go.Proofs.YtcehppndpccldaaGreatDoor

namespace Go.Proofs.YtcehppndpccldaaGreatDoor
open Go.RowKit

theorem isT_at {ts : List TK} {i : Nat} (hi : i < ts.length) (s : List UInt8) : isT ts i s = ((tkA ts i).txt.data.toList == s) := by
  unfold isT tkA
  rw [List.getD, List.getElem?_eq_getElem hi]
  rfl
theorem isT_past {ts : List TK} {i : Nat} (hi : ¬ i < ts.length) (s : List UInt8) : isT ts i s = false := by
  unfold isT
  rw [List.getElem?_eq_none (by omega)]
theorem isC_at {ts : List TK} {i : Nat} (hi : i < ts.length) (c : Int) : isC ts i c = ((tkA ts i).cls == c) := by
  unfold isC tkA
  rw [List.getD, List.getElem?_eq_getElem hi]
  rfl
theorem isC_past {ts : List TK} {i : Nat} (hi : ¬ i < ts.length) (c : Int) : isC ts i c = false := by
  unfold isC
  rw [List.getElem?_eq_none (by omega)]
theorem tx_at {ts : List TK} {i : Nat} (hi : i < ts.length) : tx ts i = (tkA ts i).txt := by
  unfold tx tkA
  rw [List.getD, List.getElem?_eq_getElem hi]
  rfl

set_option maxRecDepth 100000 in
set_option maxHeartbeats 1000000 in
theorem p_comes {P tb o i : Nat} {ts : List TK} {eT : TypeId} {eV : Value} (s : ByteArray) (w : World) (h : PsAt w P tb o i ts eT eV) (hi : isT ts i s.data.toList = true) :
    Calls Tryz.prog 112 #[.pointer (some ⟨P, 0, none⟩), .string s] w fun e w' => e = .returned (.bool true) ∧ PsAt w' P tb o (i + 1) ts eT eV ∧ But [P] w w' := by
  have HP : Hid (PsAt w P tb o i ts eT eV) := h
  have hl' := isT_lt hi
  rw [isT_at hl'] at hi
  obtain ⟨ao, c, hr, ha, hc⟩ := h.box
  have ea := ha hl'
  subst ea
  have t1 := h.tk.c1 i hl'
  have hl := h.tk.len
  obtain ⟨m, hm⟩ : ∃ m, m = ts.length - i := ⟨_, rfl⟩
  have HM : Hid (m = ts.length - i) := hm
  rw [← hm] at hr hc
  have hb := hr.cell (i := 0) (by omega)
  have hf := hr.frozen 0
  have hm0 : 0 < m := by omega
  have qm : ((m : Int) == 0) = false := beq_eq_false_iff_ne.2 (by omega)
  obtain ⟨k1, hk1⟩ : ∃ k, k = (tkA ts i).txt := ⟨_, rfl⟩
  rw [← hk1] at t1 hi
  have qs : (k1.toList == s.toList) = true := by rw [ByteArray.toList_eq, ByteArray.toList_eq]; exact hi
  clear h ha hm hk1 hr hi
  have EQ : Hid (ts.length - (i + 1) = m - 1) := by show _ = _; rw [HM.out]; omega
  have FIN : Hid (∀ (ao : Option Addr) (c' : Nat), (i + 1 < ts.length → ao = some ⟨tb, o + i * 3 + 3, none⟩) → m - 1 ≤ c' → PsAt (w.setCell ⟨P, 0, none⟩ (.slice ao (m - 1) c')) P tb o (i + 1) ts eT eV ∧ But [P] w (w.setCell ⟨P, 0, none⟩ (.slice ao (m - 1) c'))) := fun ao c' h1 h2 => by
    have hs := HP.out.step (But.refl [P] w) rfl (ao := ao) (c := c') (j := i + 1) (by omega) (fun z => by rw [h1 z]; congr 2; omega) (by rw [EQ.out]; exact h2)
    rw [EQ.out] at hs
    exact ⟨hs, (But.refl [P] w).set (fun _ => by simp) 0 _⟩
  go_enter Tryz.func112, Tryz.ntmps112
  go_wp2
  case inr =>
    go_ret
    exact ⟨rfl, FIN.out _ _ (fun _ => rfl) (by omega)⟩
  case inl =>
    go_ret
    exact ⟨rfl, FIN.out _ _ (fun z => by have := HM.out; omega) (by omega)⟩

set_option maxRecDepth 100000 in
set_option maxHeartbeats 1000000 in
theorem p_comes_no {P tb o i : Nat} {ts : List TK} {eT : TypeId} {eV : Value} (s : ByteArray) (w : World) (h : PsAt w P tb o i ts eT eV) (hi : isT ts i s.data.toList = false) :
    Calls Tryz.prog 112 #[.pointer (some ⟨P, 0, none⟩), .string s] w fun e w' => e = .returned (.bool false) ∧ w = w' := by
  obtain ⟨ao, c, hr, ha, hc⟩ := h.box
  by_cases hl' : i < ts.length
  case neg =>
    have he : ts.length - i = 0 := by omega
    rw [he] at hr
    have hb := hr.cell (i := 0) (by omega)
    clear h ha hc he hr hi
    go_enter Tryz.func112, Tryz.ntmps112
    go_wp2
    go_ret
    exact ⟨rfl, rfl⟩
  rw [isT_at hl'] at hi
  have ea := ha hl'
  subst ea
  have t1 := h.tk.c1 i hl'
  have hl := h.tk.len
  obtain ⟨m, hm⟩ : ∃ m, m = ts.length - i := ⟨_, rfl⟩
  rw [← hm] at hr hc
  have hb := hr.cell (i := 0) (by omega)
  have hm0 : 0 < m := by omega
  have qm : ((m : Int) == 0) = false := beq_eq_false_iff_ne.2 (by omega)
  obtain ⟨k1, hk1⟩ : ∃ k, k = (tkA ts i).txt := ⟨_, rfl⟩
  rw [← hk1] at t1 hi
  have qs : (k1.toList == s.toList) = false := by rw [ByteArray.toList_eq, ByteArray.toList_eq]; exact hi
  clear h ha hm hk1 hr hi
  go_enter Tryz.func112, Tryz.ntmps112
  go_wp2
  go_ret
  exact ⟨rfl, rfl⟩

set_option maxRecDepth 100000 in
set_option maxHeartbeats 1000000 in
theorem p_need {P tb o i : Nat} {ts : List TK} {eT : TypeId} {eV : Value} (s : ByteArray) (w : World) (h : PsAt w P tb o i ts eT eV) (hi : isT ts i s.data.toList = true) :
    Calls Tryz.prog 81 #[.pointer (some ⟨P, 0, none⟩), .string s] w fun e w' => e = .returned (.tuple #[]) ∧ PsAt w' P tb o (i + 1) ts eT eV ∧ But [P] w w' := by
  have HP : Hid (PsAt w P tb o i ts eT eV) := h
  clear h
  go_enter Tryz.func81, Tryz.ntmps81
  go_wp2_with fail
  refine (p_comes s w HP.out hi).mono ?_
  rintro e w1 ⟨rfl, h1⟩
  go_wp2
  go_end0
  exact ⟨rfl, h1⟩

set_option maxRecDepth 100000 in
set_option maxHeartbeats 1000000 in
theorem p_need_no {P tb o i : Nat} {ts : List TK} {eT : TypeId} {eV : Value} (s : ByteArray) (w : World) (h : PsAt w P tb o i ts eT eV) (hi : isT ts i s.data.toList = false) :
    Calls Tryz.prog 81 #[.pointer (some ⟨P, 0, none⟩), .string s] w fun e w' => e = .panicked [{ v := .iface eT eV, recovered := false }] ∧ w = w' := by
  have HP : Hid (PsAt w P tb o i ts eT eV) := h
  have he := h.ev
  clear h
  go_enter Tryz.func81, Tryz.ntmps81
  go_wp2_with fail
  refine (p_comes_no s w HP.out hi).mono ?_
  rintro e w1 ⟨rfl, rfl⟩
  go_wp2
  exact ⟨rfl, rfl, rfl⟩

set_option maxRecDepth 100000 in
set_option maxHeartbeats 1000000 in
theorem p_name {P tb o i : Nat} {ts : List TK} {eT : TypeId} {eV : Value} (w : World) (h : PsAt w P tb o i ts eT eV) (hi : isC ts i 1 = true) :
    Calls Tryz.prog 80 #[.pointer (some ⟨P, 0, none⟩)] w fun e w' => e = .returned (.string (tx ts i)) ∧ PsAt w' P tb o (i + 1) ts eT eV ∧ But [P] w w' := by
  have HP : Hid (PsAt w P tb o i ts eT eV) := h
  have hl' := isC_lt hi
  rw [isC_at hl'] at hi
  have HTX : Hid (tx ts i = (tkA ts i).txt) := tx_at hl'
  clear h
  go_enter Tryz.func80, Tryz.ntmps80
  go_wp2_with fail
  refine (p_next w HP.out hl').mono ?_
  rintro e w1 ⟨rfl, h1, h2⟩
  unfold tkV
  obtain ⟨k0, hk0⟩ : ∃ k, k = (tkA ts i).cls := ⟨_, rfl⟩
  obtain ⟨k1, hk1⟩ : ∃ k, k = (tkA ts i).txt := ⟨_, rfl⟩
  obtain ⟨k2, hk2⟩ : ∃ k, k = ((tkA ts i).loc : Int) := ⟨_, rfl⟩
  have HT2 : Hid (tx ts i = k1) := by show _ = _; rw [HTX.out, hk1]
  rw [← hk0] at hi
  rw [← hk0, ← hk1, ← hk2]
  have F1 : Hid (PsAt (w1.alloc (.cells #[.int .i64 k0, .string k1, .int .i64 k2] 38)) P tb o (i + 1) ts eT eV) := h1.but ((But.refl ([] : List Nat) w1).alloc _) (by simp) (by simp) (by simp)
  have F2 : Hid (But [P] w (w1.alloc (.cells #[.int .i64 k0, .string k1, .int .i64 k2] 38))) := h2.alloc _
  clear hk0 hk1 hk2 h1 h2
  go_wp2
  go_ret
  exact ⟨by rw [HT2.out]; rfl, F1.out, F2.out⟩

set_option maxRecDepth 100000 in
set_option maxHeartbeats 1000000 in
theorem p_name_no {P tb o i : Nat} {ts : List TK} {eT : TypeId} {eV : Value} (w : World) (h : PsAt w P tb o i ts eT eV) (hi : isC ts i 1 = false) :
    Calls Tryz.prog 80 #[.pointer (some ⟨P, 0, none⟩)] w fun e w' => e = .panicked [{ v := .iface eT eV, recovered := false }] ∧ But [P] w w' := by
  have HP : Hid (PsAt w P tb o i ts eT eV) := h
  clear h
  by_cases hl' : i < ts.length
  case neg =>
    clear hi
    go_enter Tryz.func80, Tryz.ntmps80
    go_wp2_with fail
    refine (p_next_no w HP.out hl').mono ?_
    rintro e w1 ⟨rfl, h2⟩
    go_wp2
    exact ⟨rfl, rfl, h2⟩
  rw [isC_at hl'] at hi
  go_enter Tryz.func80, Tryz.ntmps80
  go_wp2_with fail
  refine (p_next w HP.out hl').mono ?_
  rintro e w1 ⟨rfl, h1, h2⟩
  unfold tkV
  obtain ⟨k0, hk0⟩ : ∃ k, k = (tkA ts i).cls := ⟨_, rfl⟩
  obtain ⟨k1, hk1⟩ : ∃ k, k = (tkA ts i).txt := ⟨_, rfl⟩
  obtain ⟨k2, hk2⟩ : ∃ k, k = ((tkA ts i).loc : Int) := ⟨_, rfl⟩
  rw [← hk0] at hi
  rw [← hk0, ← hk1, ← hk2]
  have F1 := (h1.but ((But.refl ([] : List Nat) w1).alloc (.cells #[.int .i64 k0, .string k1, .int .i64 k2] 38)) (by simp) (by simp) (by simp)).ev
  have F2 : Hid (But [P] w (w1.alloc (.cells #[.int .i64 k0, .string k1, .int .i64 k2] 38))) := h2.alloc _
  clear hk0 hk1 hk2 h1 h2
  go_wp2
  exact ⟨rfl, rfl, F2.out⟩

/-- What comes of the parser: an answer, or the panic. -/
def Out (P tb o : Nat) (ts : List TK) (eT : TypeId) (eV : Value) (S : List Nat) (w : World) (r : Option (Value × Nat)) (e : Ending) (w' : World) : Prop :=
  But S w w' ∧ match r with
  | none => e = .panicked [{ v := .iface eT eV, recovered := false }]
  | some (v, j) => e = .returned v ∧ PsAt w' P tb o j ts eT eV

set_option maxRecDepth 100000 in
set_option maxHeartbeats 1000000 in
/-- Behind a name at i. -/
theorem p_path {P tb o i : Nat} {ts : List TK} {eT : TypeId} {eV : Value} (w : World) (h : PsAt w P tb o (i + 1) ts eT eV) :
    Calls Tryz.prog 137 #[.pointer (some ⟨P, 0, none⟩), .string (tx ts i)] w (Out P tb o ts eT eV [P] w ((pathP true ts i).map fun r => (.tuple #[.string r.1, .string r.2.1], r.2.2))) := by
  have HP : Hid (PsAt w P tb o (i + 1) ts eT eV) := h
  clear h
  obtain ⟨x, hx⟩ : ∃ x, x = tx ts i := ⟨_, rfl⟩
  have HX : Hid (x = tx ts i) := hx
  rw [← hx]
  clear hx
  cases hc : isT ts (i + 1) sColon
  case false =>
    have HR : Hid (pathP true ts i = some (e0, x, i + 1)) := by show _ = _; unfold pathP; rw [hc, HX.out]; rfl
    go_enter Tryz.func137, Tryz.ntmps137
    go_wp2_with fail
    refine (p_comes_no ⟨#[58]⟩ w HP.out hc).mono ?_
    rintro e w1 ⟨rfl, rfl⟩
    clear hc
    go_wp2
    exact bodyPost_ret (v := .tuple #[.string ⟨#[]⟩, .string x]) (by simp [results, Tryz.results137, go_sem]) rfl (by rw [HR.out]; exact ⟨But.refl _ _, rfl, HP.out⟩)
  cases hn : isC ts (i + 2) 1
  case false =>
    have HR : Hid (pathP true ts i = none) := by show _ = _; unfold pathP; rw [hc, hn]; rfl
    go_enter Tryz.func137, Tryz.ntmps137
    go_wp2_with fail
    refine (p_comes ⟨#[58]⟩ w HP.out hc).mono ?_
    rintro e w1 ⟨rfl, h1, b1⟩
    go_wp2_with fail
    refine (p_name_no w1 h1 hn).mono ?_
    rintro e w2 ⟨rfl, b2⟩
    clear hc hn
    go_wp2
    rw [HR.out]
    exact ⟨rfl, b1.then_ b2, rfl⟩
  have HR : Hid (pathP true ts i = some (x, tx ts (i + 2), i + 3)) := by show _ = _; unfold pathP; rw [hc, hn, HX.out]; rfl
  go_enter Tryz.func137, Tryz.ntmps137
  go_wp2_with fail
  refine (p_comes ⟨#[58]⟩ w HP.out hc).mono ?_
  rintro e w1 ⟨rfl, h1, b1⟩
  go_wp2_with fail
  refine (p_name w1 h1 hn).mono ?_
  rintro e w2 ⟨rfl, h2, b2⟩
  clear hc hn
  go_wp2
  exact bodyPost_ret (v := .tuple #[.string x, .string (tx ts (i + 2))]) (by simp [results, Tryz.results137, go_sem]) rfl (by rw [HR.out]; exact ⟨b1.then_ b2, rfl, h2⟩)

end Go.Proofs.YtcehppndpccldaaGreatDoor

