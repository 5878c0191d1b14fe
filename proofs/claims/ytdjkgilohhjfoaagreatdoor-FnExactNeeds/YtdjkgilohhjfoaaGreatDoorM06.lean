/-
  Merged for the claim: PcC PcD.
-/
import Derived.Test.YtdjkgilohhjfoaaGreatDoorPcB
namespace Go.Proofs.YtdjkgilohhjfoaaGreatDoor
open Go.RowKit

/-- The length of a slice in memory. -/
def lenAt (w : World) (b o : Nat) : Nat := match w.cell? ⟨b, o, none⟩ with
  | some (.slice _ n _) => n
  | _ => 0

theorem ps_len {w : World} {P tb o i : Nat} {ts : List TK} {eT : TypeId} {eV : Value} (h : PsAt w P tb o i ts eT eV) : lenAt w P 0 = ts.length - i := by
  obtain ⟨ao, c, hr, _⟩ := h.box
  unfold lenAt
  rw [hr.cell (i := 0) (by omega)]

/-- Two lists of other types lie in other blocks. -/
theorem own_own {B B' : Nat} {w : World} {v v' : Value} {n n' size size' : Nat} {xs xs' : List Value} {t t' : TypeId} (h : w.ownsRow B t size v n xs) (h' : w.ownsRow B' t' size' v' n' xs') (hne : t ≠ t') {b : Nat} (e : v.ownBlock = some b) : v'.ownBlock ≠ some b := fun e' => by
  rcases h.2 with ⟨rfl, rfl⟩ | ⟨g, cap, cur, rfl, _, hh, _⟩
  · cases e
  · rcases h'.2 with ⟨rfl, rfl⟩ | ⟨g', cap', cur', rfl, _, hh', _⟩
    · cases e'
    · have e1 : g = b := by simpa [Value.ownBlock] using e
      have e2 : g' = b := by simpa [Value.ownBlock] using e'
      rw [e1] at hh
      rw [e2, hh] at hh'
      simp only [Option.some.injEq, Obj.cells.injEq] at hh'
      exact hne hh'.2.1

theorem own_map {B : Nat} {w : World} {v : Value} {n size : Nat} {xs : List Value} {t : TypeId} {kb mb : Nat} {ov : Value} {ord : List (List UInt8)} (h : w.ownsRow B t size v n xs) (hk : KnT w kb mb ov ord) (h1 : t ≠ 83) (h2 : t ≠ 9) {b : Nat} (e : v.ownBlock = some b) : b ∉ kb :: mb :: ov.ownBlock.toList := by
  obtain ⟨D, hk⟩ := hk
  simp only [List.mem_cons, Option.mem_toList, not_or]
  refine ⟨fun z => own_box h hk.row h1 (by rw [e, z]), fun z => ?_, own_own h hk.own h2 e⟩
  obtain ⟨es, clock, he, _⟩ := hk.map
  rcases h.2 with ⟨rfl, rfl⟩ | ⟨g, cap, cur, rfl, _, hh, _⟩
  · cases e
  · have e1 : g = b := by simpa [Value.ownBlock] using e
    rw [e1, z, he] at hh
    cases hh

theorem nm_map {B : Nat} {w : World} {ns : List ByteArray} {p : NPl} {kb mb : Nat} {ov : Value} {ord : List (List UInt8)} (h : NmOK B w ns p) (hn : ns ≠ []) (hk : KnT w kb mb ov ord) (ho : ov.ownBlock ≠ some p.b) : p.b ∉ kb :: mb :: ov.ownBlock.toList := by
  obtain ⟨D, hk⟩ := hk
  simp only [List.mem_cons, Option.mem_toList, not_or]
  refine ⟨nm_box h hn hk.row (by decide), fun z => ?_, ho⟩
  obtain ⟨es, clock, he, _⟩ := hk.map
  obtain ⟨_, _, N, f, ⟨c, hc, _⟩, _⟩ := h hn
  rw [z, he] at hc
  cases hc

theorem NmOK.base {B B' : Nat} {w : World} {ns : List ByteArray} {p : NPl} (h : NmOK B w ns p) (hB : B' ≤ B) : NmOK B' w ns p := fun hn => by
  obtain ⟨h0, h1, r⟩ := h hn
  exact ⟨h0, by omega, r⟩

/-- The names in their order, as a list of one's own. -/
theorem kn_names {w : World} {kb mb : Nat} {ov : Value} {ns : List ByteArray} (h : KnT w kb mb ov (ns.map fun s => s.data.toList)) : ∃ p : NPl, ov = .slice p.a ns.length p.c ∧ w.cell? ⟨kb, 1, none⟩ = some ov ∧ NmOK (kb + 1) w ns p ∧ (ns ≠ [] → ov.ownBlock = some p.b) := by
  obtain ⟨D, h⟩ := h
  have hc : w.cell? ⟨kb, 1, none⟩ = some ov := h.row.cell (i := 1) (by omega)
  have ho := h.own
  rw [List.length_map] at ho
  rcases ho.2 with ⟨h1, h2⟩ | ⟨g, cap, cur, h1, hb, hh, hcp, hm, hs, ht⟩
  · exact ⟨⟨none, 0, 0⟩, by rw [h1, h2], hc, fun hn => absurd (List.length_eq_zero_iff.1 h2) hn, fun hn => absurd (List.length_eq_zero_iff.1 h2) hn⟩
  · refine ⟨⟨some ⟨g, 0, none⟩, g, cap⟩, h1, hc, fun hn => ⟨rfl, hb, cur.size, fun i => cur[i]!, ⟨cur, hh, rfl, fun i hi => by simp [hi]⟩, by rw [hs]; simpa using hcp, fun j hj => ?_⟩, fun hn => by rw [h1]; rfl⟩
    have e0 : (scells (ns.map fun s => s.data.toList))[j]? = some (.string (ns.getD j e0)) := by
      unfold scells
      rw [List.map_map, List.getElem?_map, List.getElem?_eq_getElem hj]
      simp [List.getD, List.getElem?_eq_getElem hj]
    rw [← ht, List.getElem?_take, if_pos (by omega), Array.getElem?_toList] at e0
    show cur[j]! = _
    rw [getElem!_def, e0]

theorem has_contains (ns : List ByteArray) (x : ByteArray) : (ns.map fun s => s.data.toList).contains x.data.toList = hasN ns x := by
  unfold hasN
  induction ns with
  | nil => rfl
  | cons a l ih =>
    rw [List.map_cons, List.contains_cons, List.any_cons, ih]
    congr 1
    rw [Bool.eq_iff_iff]
    simp only [beq_iff_eq]
    exact eq_comm
theorem bytes_eta (x : ByteArray) : (⟨x.data.toList.toArray⟩ : ByteArray) = x := by cases x; simp

theorem floop_go {α : Type} {ts : List TK} {T : Nat → Option (List α × Nat)} {sg : List UInt8} {g j : Nat} {ns : List ByteArray} {its : List α} (hg : 0 < g) : floop ts T sg g j ns its =
    if isC ts j 1 then if hasN ns (tx ts j) then none else if isT ts (j + 1) sg then
      (match T (j + 2) with
        | none => none
        | some (l, k) => if isT ts k sShut then some (its ++ l, ns ++ [tx ts j], k + 1) else if isT ts k sComma then floop ts T sg (g - 1) (k + 1) (ns ++ [tx ts j]) (its ++ l) else none)
      else none else none := by
  cases g with
  | zero => omega
  | succ g => rw [floop]; rfl

/-- What comes of a part. -/
def PtR (B P tb o : Nat) (ts : List TK) (eT : TypeId) (eV : Value) (X : Nat) (w : World) (v : Value) (xs : List (TI × NPl)) (r : Option (List TI × Nat)) (e : Ending) (w' : World) : Prop :=
  But (P :: X :: v.ownBlock.toList) w w' ∧ match r with
  | none => e = .panicked [{ v := .iface eT eV, recovered := false }]
  | some (l, j) => ∃ v' ys, e = .returned (.tuple #[]) ∧ w'.rowIs X 55 1 (fun _ => v') ∧ OT B w' v' (xs ++ ys) ∧ ys.map Prod.fst = l ∧ PsAt w' P tb o j ts eT eV ∧ (∀ b, v'.ownBlock = some b → v.ownBlock = some b ∨ w.heap.size ≤ b) ∧ ∀ b, b ∈ tisB ys → w.heap.size ≤ b

set_option maxRecDepth 100000 in
set_option maxHeartbeats 1000000 in
theorem t_part {B P tb o : Nat} {ts : List TK} {eT : TypeId} {eV : Value} {f : Nat} (IH : TyC B P tb o ts eT eV f) {i Q X : Nat} {w : World} {v : Value} {xs : List (TI × NPl)} (hps : PsAt w P tb o i ts eT eV) (hQ : w.rowIs Q 98 1 (fun _ => .pointer (some ⟨P, 0, none⟩))) (hX : w.rowIs X 55 1 (fun _ => v)) (hot : OT B w v xs) (hxi : xs.length ≤ i) (hf : ts.length - i < f) (hB : B ≤ w.heap.size) (hPX : P ≠ X) (htX : tb ≠ X) (hX0 : 0 ≠ X) :
    Calls Tryz.prog 87 #[.pointer (some ⟨Q, 0, none⟩), .pointer (some ⟨X, 0, none⟩)] w (PtR B P tb o ts eT eV X w v xs (tyP true ts f i)) := by
  have cq := hQ.cell (i := 0) (by omega)
  have cx := hX.cell (i := 0) (by omega)
  have nX : v.ownBlock ≠ some X := own_box hot.own hX (by decide)
  have HIH := IH i w v xs hps hot hxi hf hB
  have HOT : Hid (OT B w v xs) := hot
  clear IH hps hot
  go_enter Tryz.func87, Tryz.ntmps87
  go_wp2_with fail
  refine HIH.mono ?_
  clear HIH
  intro e w1 hT
  obtain ⟨b1, hT⟩ := hT
  obtain ⟨r, hr⟩ : ∃ r, r = tyP true ts f i := ⟨_, rfl⟩
  have HR : Hid (tyP true ts f i = r) := hr.symm
  rw [← hr] at hT
  clear hr
  have HB1 : Hid (But (P :: X :: v.ownBlock.toList) w w1) := b1.more (fun k z => by simp only [List.mem_cons] at z ⊢; exact z.imp_right Or.inr)
  have RX1 := hX.of_block (b1.block X hX.lt (fun z => by
    simp only [List.mem_cons, Option.mem_toList] at z
    rcases z with z | z
    · exact hPX z.symm
    · exact nX z))
  cases r with
  | none =>
    have hT : e = .panicked [{ v := .iface eT eV, recovered := false }] := hT
    subst hT
    clear b1
    go_wp2
    exact ⟨rfl, by rw [HR.out]; exact ⟨HB1.out, rfl⟩⟩
  | some r =>
    obtain ⟨l, j⟩ := r
    obtain ⟨v', ys, rfl, O1, hl, P1, gr, nw⟩ := hT
    have HY : Hid (ys.map Prod.fst = l) := hl
    have HGR : Hid (∀ b, v'.ownBlock = some b → v.ownBlock = some b ∨ w.heap.size ≤ b) := gr
    have HNW : Hid (∀ b, b ∈ tisB ys → w.heap.size ≤ b) := nw
    obtain ⟨va', vc', hv'⟩ := own_form O1.own
    obtain ⟨n', hn'⟩ : ∃ n', n' = (xs ++ ys).length := ⟨_, rfl⟩
    rw [← hn'] at hv'
    subst hv'
    clear hn' hl gr nw b1
    have cx1 := RX1.cell (i := 0) (by omega)
    have cf1 := RX1.frozen 0
    have b12 : But [X] w1 (w1.setCell ⟨X, 0, none⟩ (.slice va' n' vc')) := (But.refl _ _).set (fun _ => by simp) 0 _
    have HB2 : Hid (But (P :: X :: v.ownBlock.toList) w (w1.setCell ⟨X, 0, none⟩ (.slice va' n' vc'))) := HB1.out.trans b12 (fun k z _ => by rw [List.mem_singleton.1 z]; simp)
    have HP2 : Hid (PsAt (w1.setCell ⟨X, 0, none⟩ (.slice va' n' vc')) P tb o j ts eT eV) := P1.but b12 (by simpa using hPX) (by simpa using htX) (by simpa using hX0)
    have HO2 : Hid (OT B (w1.setCell ⟨X, 0, none⟩ (.slice va' n' vc')) (.slice va' n' vc') (xs ++ ys)) := O1.box RX1 (by decide) (by decide) _ _
    have HX2 : Hid ((w1.setCell ⟨X, 0, none⟩ (.slice va' n' vc')).rowIs X 55 1 (fun _ => .slice va' n' vc')) := (RX1.set 0 _).congr (fun k hk => by
      match k, hk with
      | 0, _ => rfl)
    clear b12 O1 P1 RX1
    go_wp2
    go_end0
    rw [HR.out]
    exact ⟨HB2.out, _, ys, rfl, HX2.out, HO2.out, HY.out, HP2.out, HGR.out, HNW.out⟩

/-- What comes of the fields. -/
def FdR (B P tb o : Nat) (ts : List TK) (eT : TypeId) (eV : Value) (X : Nat) (w : World) (v : Value) (xs : List (TI × NPl)) (r : Option (List TI × List ByteArray × Nat)) (e : Ending) (w' : World) : Prop :=
  But (P :: X :: v.ownBlock.toList) w w' ∧ match r with
  | none => e = .panicked [{ v := .iface eT eV, recovered := false }]
  | some (l, ns, j) => ∃ v' ys p, e = .returned (.slice p.a ns.length p.c) ∧ w'.rowIs X 55 1 (fun _ => v') ∧ OT B w' v' (xs ++ ys) ∧ ys.map Prod.fst = l ∧ PsAt w' P tb o j ts eT eV ∧ (∀ b, v'.ownBlock = some b → v.ownBlock = some b ∨ w.heap.size ≤ b) ∧ (∀ b, b ∈ tisB ys → w.heap.size ≤ b) ∧ NmOK w.heap.size w' ns p ∧ (ns ≠ [] → p.b ∉ tisB (xs ++ ys))

/-- The loop over the fields. -/
structure FL (B P tb o : Nat) (ts : List TK) (eT : TypeId) (eV : Value) (Q X : Nat) (w : World) (v : Value) (xs : List (TI × NPl)) (T : Nat → Option (List TI × Nat)) (i : Nat) (wr : World) (j g : Nat) (ns : List ByteArray) (v1 : Value) (ys : List (TI × NPl)) (ov : Value) : Prop where
  eq : fldsP ts T sColon i = floop ts T sColon g j ns (ys.map Prod.fst)
  fuel : ts.length < g + j
  ps : PsAt wr P tb o j ts eT eV
  rq : wr.rowIs Q 98 1 (fun _ => .pointer (some ⟨P, 0, none⟩))
  rx : wr.rowIs X 55 1 (fun _ => v1)
  ot : OT B wr v1 (xs ++ ys)
  gr : ∀ b, v1.ownBlock = some b → v.ownBlock = some b ∨ w.heap.size ≤ b
  nw : ∀ b, b ∈ tisB ys → w.heap.size ≤ b
  but : But (P :: X :: v.ownBlock.toList) w wr
  kn : KnT wr (w.heap.size + 1) w.heap.size ov (ns.map fun s => s.data.toList)
  sep : ∀ b, ov.ownBlock = some b → b ∉ tisB (xs ++ ys)
  len : (xs ++ ys).length ≤ j
  nl : ns.length ≤ j
  far : i ≤ j

theorem t_apart {B : Nat} {w : World} {v : Value} {xs : List (TI × NPl)} {kb mb : Nat} {ov : Value} {ord : List (List UInt8)} (h : OT B w v xs) (hk : KnT w kb mb ov ord) (hs : ∀ b, ov.ownBlock = some b → b ∉ tisB xs) : (∀ b, v.ownBlock = some b → b ∉ kb :: mb :: ov.ownBlock.toList) ∧ ∀ b, b ∈ tisB xs → b ∉ kb :: mb :: ov.ownBlock.toList :=
  ⟨fun b e => own_map h.own hk (by decide) (by decide) e, fun b hb => by
    obtain ⟨x, hx, hn, rfl⟩ := mem_tisB hb
    exact nm_map (h.nm x hx) hn hk (fun e => hs _ e hb)⟩


end Go.Proofs.YtdjkgilohhjfoaaGreatDoor

namespace Go.Proofs.YtdjkgilohhjfoaaGreatDoor
open Go.RowKit

/-- A name is new: the reader goes on behind it. -/
theorem FL.named {B P tb o : Nat} {ts : List TK} {eT : TypeId} {eV : Value} {Q X : Nat} {w : World} {v : Value} {xs : List (TI × NPl)} {T : Nat → Option (List TI × Nat)} {i : Nat} {wr w1 w2 : World} {j g : Nat} {ns : List ByteArray} {v1 : Value} {ys : List (TI × NPl)} {ov : Value} (h : FL B P tb o ts eT eV Q X w v xs T i wr j g ns v1 ys ov) (hP : P < B) (htb : tb < B) (hB : B ≤ w.heap.size) (hXw : X < w.heap.size) (hQw : Q < w.heap.size) (hXB : B ≤ X) (hQB : B ≤ Q)
    (b1 : But [P] wr w1) (p1 : PsAt w1 P tb o (j + 1) ts eT eV) (b2 : But ((w.heap.size + 1) :: w.heap.size :: ov.ownBlock.toList) w1 w2) :
    PsAt w2 P tb o (j + 1) ts eT eV ∧ w2.rowIs Q 98 1 (fun _ => .pointer (some ⟨P, 0, none⟩)) ∧ w2.rowIs X 55 1 (fun _ => v1) ∧ OT B w2 v1 (xs ++ ys) ∧ But (P :: X :: v.ownBlock.toList) w w2 := by
  obtain ⟨i1, i2, i3⟩ := h.kn.ids
  have kK : ∀ k, k < w.heap.size → k ∉ (w.heap.size + 1) :: w.heap.size :: ov.ownBlock.toList := fun k hk z => by
    simp only [List.mem_cons, Option.mem_toList] at z
    rcases z with z | z | z
    · omega
    · omega
    · have := (i3 k z).1; omega
  have p0 := p1.pos
  have o1 : OT B w1 v1 (xs ++ ys) := h.ot.low b1 (fun b z => by rw [List.mem_singleton.1 z]; exact Or.inl hP)
  have k1 : KnT w1 (w.heap.size + 1) w.heap.size ov (ns.map fun s => s.data.toList) := h.kn.but b1 (by simp; omega) (by simp; omega) (fun b e => by have := (i3 b e).1; simp; omega)
  obtain ⟨a1, a2⟩ := t_apart o1 k1 h.sep
  refine ⟨p1.but b2 (kK P (by omega)) (kK tb (by omega)) (kK 0 (by omega)), (h.rq.of_block (b1.block Q h.rq.lt (by simp; omega))).of_block (b2.block Q (Nat.lt_of_lt_of_le h.rq.lt b1.size) (kK Q hQw)), (h.rx.of_block (b1.block X h.rx.lt (by simp; omega))).of_block (b2.block X (Nat.lt_of_lt_of_le h.rx.lt b1.size) (kK X hXw)), o1.but b2 a1 a2, ?_⟩
  exact (h.but.trans b1 (fun k z _ => by rw [List.mem_singleton.1 z]; simp)).trans b2 (fun k z hk => absurd z (kK k hk))

/-- Behind a part. -/
theorem FL.parted {B P X : Nat} {w : World} {v : Value} {xs : List (TI × NPl)} {w3 w4 : World} {v1 v2 : Value} {ys zs : List (TI × NPl)} {ov : Value} {ord : List (List UInt8)} (hP : P < B) (hB : B ≤ w.heap.size) (hXw : X < w.heap.size)
    (o3 : OT B w3 v1 (xs ++ ys)) (k3 : KnT w3 (w.heap.size + 1) w.heap.size ov ord) (s3 : ∀ b, ov.ownBlock = some b → b ∉ tisB (xs ++ ys)) (g3 : ∀ b, v1.ownBlock = some b → v.ownBlock = some b ∨ w.heap.size ≤ b) (n3 : ∀ b, b ∈ tisB ys → w.heap.size ≤ b) (b3 : But (P :: X :: v.ownBlock.toList) w w3)
    (b4 : But (P :: X :: v1.ownBlock.toList) w3 w4) (g4 : ∀ b, v2.ownBlock = some b → v1.ownBlock = some b ∨ w3.heap.size ≤ b) (n4 : ∀ b, b ∈ tisB zs → w3.heap.size ≤ b) :
    KnT w4 (w.heap.size + 1) w.heap.size ov ord ∧ (∀ b, ov.ownBlock = some b → b ∉ tisB (xs ++ (ys ++ zs))) ∧ (∀ b, v2.ownBlock = some b → v.ownBlock = some b ∨ w.heap.size ≤ b) ∧ (∀ b, b ∈ tisB (ys ++ zs) → w.heap.size ≤ b) ∧ But (P :: X :: v.ownBlock.toList) w w4 := by
  obtain ⟨i1, i2, i3⟩ := k3.ids
  obtain ⟨a1, _⟩ := t_apart o3 k3 s3
  have s := b3.size
  have kn : ∀ k, k ∈ (w.heap.size + 1) :: w.heap.size :: ov.ownBlock.toList → k ∉ P :: X :: v1.ownBlock.toList := fun k hk z => by
    have hk9 : w.heap.size ≤ k := by
      simp only [List.mem_cons, Option.mem_toList] at hk
      rcases hk with q | q | q
      · omega
      · omega
      · have := (i3 k q).1; omega
    simp only [List.mem_cons, Option.mem_toList] at z
    rcases z with z | z | z
    · omega
    · omega
    · exact a1 k z hk
  refine ⟨k3.but b4 (kn _ (by simp)) (kn _ (by simp)) (fun b e => kn b (by simp [e])), fun b e z => ?_, fun b e => ?_, fun b z => ?_, b3.trans b4 (fun k z hk => ?_)⟩
  · rw [← List.append_assoc, tisB_append] at z
    rcases List.mem_append.1 z with q | q
    · exact s3 b e q
    · have := n4 b q
      have := (i3 b e).2
      omega
  · rcases g4 b e with q | q
    · exact g3 b q
    · exact Or.inr (by omega)
  · rw [tisB_append] at z
    rcases List.mem_append.1 z with q | q
    · exact n3 b q
    · have := n4 b q
      omega
  · simp only [List.mem_cons, Option.mem_toList] at z ⊢
    rcases z with z | z | z
    · exact Or.inl z
    · exact Or.inr (Or.inl z)
    · rcases g3 k z with q | q
      · exact Or.inr (Or.inr q)
      · omega

set_option maxRecDepth 100000 in
set_option maxHeartbeats 4000000 in
theorem t_fields {B P tb o : Nat} {ts : List TK} {eT : TypeId} {eV : Value} {f : Nat} (IH : TyC B P tb o ts eT eV f) (hP : P < B) (htb : tb < B) {i Q X : Nat} {w : World} {v : Value} {xs : List (TI × NPl)} (hps : PsAt w P tb o i ts eT eV) (hQ : w.rowIs Q 98 1 (fun _ => .pointer (some ⟨P, 0, none⟩))) (hX : w.rowIs X 55 1 (fun _ => v)) (hot : OT B w v xs) (hxi : xs.length ≤ i) (hf : ts.length - i < f) (hB : B ≤ w.heap.size) (hXB : B ≤ X) (hQB : B ≤ Q) :
    Calls Tryz.prog 86 #[.pointer (some ⟨P, 0, none⟩), .string ⟨#[58]⟩, .func (.func 87) #[] #[.pointer (some ⟨Q, 0, none⟩), .pointer (some ⟨X, 0, none⟩)]] w (FdR B P tb o ts eT eV X w v xs (fldsP ts (tyP true ts f) sColon i)) := by
  have HIH : Hid (TyC B P tb o ts eT eV f) := IH
  have hXw := hX.lt
  have hQw := hQ.lt
  have hn := hps.tk.len
  have h0 := hps.pos
  have HPS : Hid (PsAt w P tb o i ts eT eV) := hps
  have HOT : Hid (OT B w v xs) := hot
  have HQ : Hid (w.rowIs Q 98 1 (fun _ => .pointer (some ⟨P, 0, none⟩))) := hQ
  have HX : Hid (w.rowIs X 55 1 (fun _ => v)) := hX
  clear IH hps hot hQ hX
  go_enter Tryz.func86, Tryz.ntmps86
  go_wp2_with fail
  refine (kt_new w).mono ?_
  rintro e w1 ⟨rfl, hk1, b1⟩
  have HK1 : Hid (KnT w1 (w.heap.size + 1) w.heap.size (.slice none 0 0) []) := hk1
  have HP1 : Hid (PsAt w1 P tb o i ts eT eV) := HPS.out.but b1 (by simp) (by simp) (by simp)
  have HB1 : Hid (But [] w w1) := b1
  clear hk1 b1
  go_wp2_with fail
  cases hs : isT ts i sShut
  case true =>
    refine (p_comes ⟨#[125]⟩ w1 HP1.out hs).mono ?_
    rintro e w2 ⟨rfl, p2, b2⟩
    have HR : Hid (fldsP ts (tyP true ts f) sColon i = some ([], [], i + 1)) := by show _ = _; unfold fldsP; rw [if_pos hs]
    have K2 : KnT w2 (w.heap.size + 1) w.heap.size (.slice none 0 0) (([] : List ByteArray).map fun s => s.data.toList) := HK1.out.but b2 (by simp; omega) (by simp; omega) (fun b e => by cases e)
    obtain ⟨p, e1, c1, _, _⟩ := kn_names K2
    have HB2 : Hid (But [P] w w2) := (HB1.out.more (S' := [P]) (fun _ z => by simp at z)).then_ b2
    have HFIN : Hid (FdR B P tb o ts eT eV X w v xs (some ([], [], i + 1)) (.returned (.slice none 0 0)) w2) := by
      refine ⟨HB2.out.more (fun k z => by rw [List.mem_singleton.1 z]; simp), v, [], ⟨none, 0, 0⟩, rfl, HX.out.of_block (HB2.out.block X hXw (by simp; omega)), ?_, rfl, p2, fun b e => Or.inl e, (fun b z => by cases z), NmOK.nil _ _ _, fun h => absurd rfl h⟩
      rw [List.append_nil]
      exact HOT.out.low HB2.out (fun b z => by rw [List.mem_singleton.1 z]; exact Or.inl hP)
    clear hs p2 b2 K2 e1
    go_wp2
    go_ret
    rw [HR.out]
    exact HFIN.out
  refine (p_comes_no ⟨#[125]⟩ w1 HP1.out hs).mono ?_
  rintro e w2 ⟨rfl, rfl⟩
  have HL : Hid (FL B P tb o ts eT eV Q X w v xs (tyP true ts f) i w1 i (ts.length + 1) [] v [] (.slice none 0 0)) := by
    refine ⟨by unfold fldsP; rw [hs]; rfl, by omega, HP1.out, HQ.out.of_block (HB1.out.block Q hQw (by simp)), HX.out.of_block (HB1.out.block X hXw (by simp)), ?_, fun b e => Or.inl e, (fun b z => by cases z), HB1.out.more (fun k z => by simp at z), HK1.out, (fun b e => by cases e), by simpa using hxi, Nat.zero_le _, Nat.le_refl _⟩
    rw [List.append_nil]
    exact HOT.out.low HB1.out (fun b z => by simp at z)
  clear hs HK1 HP1 HB1
  go_wp2
  go_loopw [8] (fun _ wr => ∃ (j g : Nat) (ns : List ByteArray) (v1 : Value) (ys : List (TI × NPl)) (ov : Value), Hid (FL B P tb o ts eT eV Q X w v xs (tyP true ts f) i wr j g ns v1 ys ov)) (fun _ wr => lenAt wr P 0)
  case atStart => exact ⟨i, ts.length + 1, [], v, [], .slice none 0 0, HL⟩
  case round =>
    obtain ⟨j, g, ns, v1, ys, ov, H⟩ := hrel
    clear HL
    have hjn := H.out.ps.le
    have hg : 0 < g := by have := H.out.fuel; omega
    have HEQ : Hid (fldsP ts (tyP true ts f) sColon i = _) := H.out.eq.trans (floop_go hg)
    have HME : Hid (lenAt wr P 0 = ts.length - j) := ps_len H.out.ps
    go_wp2_with fail
    cases hc : isC ts j 1
    case false =>
      have HR : Hid (fldsP ts (tyP true ts f) sColon i = none) := by show _ = _; rw [HEQ.out, hc]; rfl
      refine (p_name_no wr H.out.ps hc).mono ?_
      rintro e w1 ⟨rfl, b1⟩
      have HBB : Hid (But (P :: X :: v.ownBlock.toList) w w1) := H.out.but.trans b1 (fun k z _ => by rw [List.mem_singleton.1 z]; simp)
      clear hc b1
      go_wp2
      exact ⟨rfl, by rw [HR.out]; exact ⟨HBB.out, rfl⟩⟩
    refine (p_name wr H.out.ps hc).mono ?_
    rintro e w1 ⟨rfl, p1, b1⟩
    have hjl := isC_lt hc
    go_wp2_with fail
    have hsz : (tx ts j).data.toList.length ≤ maxLen := by
      have := H.out.ps.tk.sz j hjl
      rw [tx_at hjl]
      unfold maxLen
      show (tkA ts j).txt.data.size ≤ _
      have e : (tkA ts j).txt.data.size = (tkA ts j).txt.size := rfl
      omega
    have K1 : KnT w1 (w.heap.size + 1) w.heap.size ov (ns.map fun s => s.data.toList) := H.out.kn.but b1 (by simp; omega) (by simp; omega) (fun b e => by have := (H.out.kn.ids.2.2 b e).1; simp; omega)
    have hnl := H.out.nl
    have CN := kt_number (w.heap.size + 1) w.heap.size ov (ns.map fun s => s.data.toList) (tx ts j).data.toList w1 K1 hsz (by rw [List.length_map]; omega)
    rw [bytes_eta, has_contains] at CN
    refine CN.mono ?_
    clear CN
    rintro e w2 ⟨xx, ov', rfl, K2, b2, go2⟩
    obtain ⟨P2, Q2, X2, O2, B2⟩ := H.out.named hP htb hB hXw hQw hXB hQB b1 p1 b2
    have HB2 : Hid (But (P :: X :: v.ownBlock.toList) w w2) := B2
    have hev := P2.ev
    have hs2 : w1.heap.size ≤ w2.heap.size := b2.size
    have hs1 : wr.heap.size ≤ w1.heap.size := b1.size
    cases hh : hasN ns (tx ts j)
    case true =>
      have HR : Hid (fldsP ts (tyP true ts f) sColon i = none) := by show _ = _; rw [HEQ.out, hc, hh]; rfl
      clear hc hh p1 b1 K1 b2 go2 P2 Q2 X2 O2 B2 K2
      go_wp2
      exact ⟨rfl, by rw [HR.out]; exact ⟨HB2.out, rfl⟩⟩
    have HOV : Hid (KnT w2 (w.heap.size + 1) w.heap.size ov' ((ns ++ [tx ts j]).map fun s => s.data.toList)) := by
      have e : addS (ns.map fun s => s.data.toList) (tx ts j).data.toList = (ns ++ [tx ts j]).map fun s => s.data.toList := by
        unfold addS
        rw [has_contains, hh]
        simp
      rw [e] at K2
      exact K2
    have HSP : Hid (∀ b, ov'.ownBlock = some b → b ∉ tisB (xs ++ ys)) := fun b e => by
      rcases go2 b e with q | q
      · exact H.out.sep b q
      · intro z
        have := (H.out.ot.names z).2
        omega
    have HQ2 : Hid (w2.rowIs Q 98 1 (fun _ => .pointer (some ⟨P, 0, none⟩))) := Q2
    have HX2 : Hid (w2.rowIs X 55 1 (fun _ => v1)) := X2
    have HO2 : Hid (OT B w2 v1 (xs ++ ys)) := O2
    have HP2 : Hid (PsAt w2 P tb o (j + 1) ts eT eV) := P2
    clear p1 b1 K1 b2 go2 P2 Q2 X2 O2 B2 K2 hev
    go_wp2_with fail
    cases hsg : isT ts (j + 1) sColon
    case false =>
      have HR : Hid (fldsP ts (tyP true ts f) sColon i = none) := by show _ = _; rw [HEQ.out, hc, hh, hsg]; rfl
      refine (p_need_no ⟨#[58]⟩ w2 HP2.out hsg).mono ?_
      rintro e w3 ⟨rfl, rfl⟩
      clear hc hh hsg
      go_wp2
      exact ⟨rfl, by rw [HR.out]; exact ⟨HB2.out, rfl⟩⟩
    refine (p_need ⟨#[58]⟩ w2 HP2.out hsg).mono ?_
    rintro e w3 ⟨rfl, p3, b3⟩
    have HP3 : Hid (PsAt w3 P tb o (j + 2) ts eT eV) := p3
    have HQ3 : Hid (w3.rowIs Q 98 1 (fun _ => .pointer (some ⟨P, 0, none⟩))) := HQ2.out.of_block (b3.block Q HQ2.out.lt (by simp; omega))
    have HX3 : Hid (w3.rowIs X 55 1 (fun _ => v1)) := HX2.out.of_block (b3.block X HX2.out.lt (by simp; omega))
    have HO3 : Hid (OT B w3 v1 (xs ++ ys)) := HO2.out.low b3 (fun b z => by rw [List.mem_singleton.1 z]; exact Or.inl hP)
    have HB3 : Hid (But (P :: X :: v.ownBlock.toList) w w3) := HB2.out.trans b3 (fun k z _ => by rw [List.mem_singleton.1 z]; simp)
    have HK3 : Hid (KnT w3 (w.heap.size + 1) w.heap.size ov' ((ns ++ [tx ts j]).map fun s => s.data.toList)) := HOV.out.but b3 (by simp; omega) (by simp; omega) (fun b e => by have := (HOV.out.ids.2.2 b e).1; simp; omega)
    have hs3 : w2.heap.size ≤ w3.heap.size := b3.size
    have hsw : w.heap.size ≤ w3.heap.size := HB3.out.size
    have hlen := H.out.len
    have hfar := H.out.far
    clear p3 b3 HQ2 HX2 HO2 HB2 HOV HP2
    go_wp2_with fail
    refine (t_part HIH.out HP3.out HQ3.out HX3.out HO3.out (by omega) (by omega) (by omega) (by omega) (by omega) (by omega)).mono ?_
    intro e w4 hT
    obtain ⟨b4, hT⟩ := hT
    obtain ⟨r, hr⟩ : ∃ r, r = tyP true ts f (j + 2) := ⟨_, rfl⟩
    have HRT : Hid (tyP true ts f (j + 2) = r) := hr.symm
    rw [← hr] at hT
    clear hr
    cases r with
    | none =>
      have hT : e = .panicked [{ v := .iface eT eV, recovered := false }] := hT
      subst hT
      have HR : Hid (fldsP ts (tyP true ts f) sColon i = none) := by show _ = _; rw [HEQ.out, hc, hh, hsg, HRT.out]; rfl
      have HB4 : Hid (But (P :: X :: v.ownBlock.toList) w w4) := (FL.parted hP hB hXw HO3.out HK3.out HSP.out H.out.gr H.out.nw HB3.out b4 (v2 := .slice none 0 0) (zs := []) (fun b e => by cases e) (fun b z => by cases z)).2.2.2.2
      clear hc hh hsg b4
      go_wp2
      exact ⟨rfl, by rw [HR.out]; exact ⟨HB4.out, rfl⟩⟩
    | some r =>
      obtain ⟨l, k⟩ := r
      obtain ⟨v2, zs, rfl, X4, O4, hl, P4, g4, n4⟩ := hT
      obtain ⟨K4, S4, G4, N4, B4⟩ := FL.parted hP hB hXw HO3.out HK3.out HSP.out H.out.gr H.out.nw HB3.out b4 g4 n4
      obtain ⟨f1, f2, f3⟩ := ty_far f _ _ _ HRT.out
      have hzl : zs.length = l.length := by rw [← hl, List.length_map]
      have hlen4 : (xs ++ (ys ++ zs)).length ≤ k := by
        simp only [List.length_append] at hlen ⊢
        omega
      have HY : Hid ((ys ++ zs).map Prod.fst = ys.map Prod.fst ++ l) := by show _ = _; rw [List.map_append, hl]
      have HQ4 : Hid (w4.rowIs Q 98 1 (fun _ => .pointer (some ⟨P, 0, none⟩))) := HQ3.out.of_block (b4.block Q HQ3.out.lt (fun z => by
        simp only [List.mem_cons, Option.mem_toList] at z
        rcases z with z | z | z
        · omega
        · have r1 := HQ3.out
          have r2 := HX3.out
          obtain ⟨c1, q1, _⟩ := r1
          obtain ⟨c2, q2, _⟩ := r2
          rw [z, q2] at q1
          simp only [Option.some.injEq, Obj.cells.injEq] at q1
          exact absurd q1.2.1 (by decide)
        · exact own_box HO3.out.own HQ3.out (by decide) z))
      rw [List.append_assoc] at O4
      have HX4 : Hid (w4.rowIs X 55 1 (fun _ => v2)) := X4
      have HO4 : Hid (OT B w4 v2 (xs ++ (ys ++ zs))) := O4
      have HP4 : Hid (PsAt w4 P tb o k ts eT eV) := P4
      have HK4 : Hid (KnT w4 (w.heap.size + 1) w.heap.size ov' ((ns ++ [tx ts j]).map fun s => s.data.toList)) := K4
      have HS4 : Hid (∀ b, ov'.ownBlock = some b → b ∉ tisB (xs ++ (ys ++ zs))) := S4
      have HG4 : Hid (∀ b, v2.ownBlock = some b → v.ownBlock = some b ∨ w.heap.size ≤ b) := G4
      have HN4 : Hid (∀ b, b ∈ tisB (ys ++ zs) → w.heap.size ≤ b) := N4
      have HB4 : Hid (But (P :: X :: v.ownBlock.toList) w w4) := B4
      clear X4 O4 hl P4 g4 n4 K4 S4 G4 N4 B4 b4 HQ3 HX3 HO3 HK3 HB3 HP3 HSP
      go_wp2_with fail
      cases hsh : isT ts k sShut
      case true =>
        refine (p_comes ⟨#[125]⟩ w4 HP4.out hsh).mono ?_
        rintro e w5 ⟨rfl, p5, b5⟩
        have HR : Hid (fldsP ts (tyP true ts f) sColon i = some (ys.map Prod.fst ++ l, ns ++ [tx ts j], k + 1)) := by
          show _ = _
          rw [HEQ.out, hc, hh, hsg, HRT.out]
          show (if isT ts k sShut = true then _ else _) = _
          rw [hsh]
          rfl
        have K5 := HK4.out.but b5 (by simp; omega) (by simp; omega) (fun b e => by have := (HK4.out.ids.2.2 b e).1; simp; omega)
        obtain ⟨p, ep, cp, np, bp⟩ := kn_names K5
        have HB5 : Hid (But (P :: X :: v.ownBlock.toList) w w5) := HB4.out.trans b5 (fun k z _ => by rw [List.mem_singleton.1 z]; simp)
        have HFIN : Hid (FdR B P tb o ts eT eV X w v xs (some (ys.map Prod.fst ++ l, ns ++ [tx ts j], k + 1)) (.returned ov') w5) := by
          refine ⟨HB5.out, v2, ys ++ zs, p, by rw [ep], HX4.out.of_block (b5.block X HX4.out.lt (by simp; omega)), HO4.out.low b5 (fun b z => by rw [List.mem_singleton.1 z]; exact Or.inl hP), HY.out, p5, HG4.out, HN4.out, np.base (by omega), fun hne z => ?_⟩
          exact HS4.out _ (bp hne) z
        rw [ep] at cp
        have hep : ov' = .slice p.a (ns ++ [tx ts j]).length p.c := ep
        obtain ⟨m9, hm9⟩ : ∃ m9, m9 = (ns ++ [tx ts j]).length := ⟨_, rfl⟩
        have HOVE : Hid (ov' = .slice p.a m9 p.c) := by show _ = _; rw [hep, hm9]
        rw [← hm9] at cp
        clear hc hh hsg hsh p5 b5 K5 ep np bp hep hm9
        go_wp2
        go_ret
        rw [HR.out]
        have z := HFIN.out
        rw [HOVE.out] at z
        exact z
      refine (p_comes_no ⟨#[125]⟩ w4 HP4.out hsh).mono ?_
      rintro e w5 ⟨rfl, rfl⟩
      go_wp2_with fail
      cases hcm : isT ts k sComma
      case false =>
        have HR : Hid (fldsP ts (tyP true ts f) sColon i = none) := by
          show _ = _
          rw [HEQ.out, hc, hh, hsg, HRT.out]
          show (if isT ts k sShut = true then _ else if isT ts k sComma = true then _ else _) = _
          rw [hsh, hcm]
          rfl
        refine (p_need_no ⟨#[44]⟩ w4 HP4.out hcm).mono ?_
        rintro e w6 ⟨rfl, rfl⟩
        clear hc hh hsg hsh hcm
        go_wp2
        exact ⟨rfl, by rw [HR.out]; exact ⟨HB4.out, rfl⟩⟩
      refine (p_need ⟨#[44]⟩ w4 HP4.out hcm).mono ?_
      rintro e w6 ⟨rfl, p6, b6⟩
      have HL : Hid (FL B P tb o ts eT eV Q X w v xs (tyP true ts f) i w6 (k + 1) (g - 1) (ns ++ [tx ts j]) v2 (ys ++ zs) ov') := by
        refine ⟨?_, by have := H.out.fuel; omega, p6, HQ4.out.of_block (b6.block Q HQ4.out.lt (by simp; omega)), HX4.out.of_block (b6.block X HX4.out.lt (by simp; omega)), HO4.out.low b6 (fun b z => by rw [List.mem_singleton.1 z]; exact Or.inl hP), HG4.out, HN4.out, HB4.out.trans b6 (fun k z _ => by rw [List.mem_singleton.1 z]; simp), HK4.out.but b6 (by simp; omega) (by simp; omega) (fun b e => by have := (HK4.out.ids.2.2 b e).1; simp; omega), HS4.out, by omega, by simp; omega, by omega⟩
        rw [HEQ.out, hc, hh, hsg, HRT.out, HY.out]
        show (if isT ts k sShut = true then _ else if isT ts k sComma = true then _ else _) = _
        rw [hsh, hcm]
        rfl
      have HM6 : Hid (lenAt w6 P 0 = ts.length - (k + 1)) := ps_len p6
      clear hc hh hsg hsh hcm p6 b6 HQ4 HX4 HO4 HP4 HK4 HS4 HG4 HN4 HB4
      go_wp2
      go_roundw
      case rel => exact ⟨k + 1, g - 1, ns ++ [tx ts j], v2, ys ++ zs, ov', HL⟩
      case measure => rw [HM6.out, HME.out]; omega

end Go.Proofs.YtdjkgilohhjfoaaGreatDoor

