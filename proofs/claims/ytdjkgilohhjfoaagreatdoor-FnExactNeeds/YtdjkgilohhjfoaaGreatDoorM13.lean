/-
  Merged for the claim: PeH PfD PgA PgB PgC.
-/
import Derived.Test.YtdjkgilohhjfoaaGreatDoorM12
import Derived.Test.YtdjkgilohhjfoaaGreatDoorShelf
import Derived.Test.YtdjkgilohhjfoaaGreatDoorTokens
namespace Go.Proofs.YtdjkgilohhjfoaaGreatDoor
open Go.RowKit

theorem num_c {ts : List TK} (h : TkOK ts) : NumC ts := fun i w hi hn hs => by
  obtain ⟨n0, n9, nd⟩ := h.number hi hn
  have CA : Hid (Calls Tryz.prog 102 #[.string (tx ts i)] w fun e w' => e = .returned (.tuple #[.int .i64 (valN (tx ts i).data.toList), .nilIface]) ∧ Hid (Below w.heap.size w w')) := by
    refine (Tryz.strconv_Atoi (tx ts i) (valN (tx ts i).data.toList) ?_ (atoi_dig n0 nd) w).mono fun e w' ⟨he, t, hw⟩ => ⟨he, ?_⟩
    · have : (tx ts i).size = (tx ts i).data.toList.length := (Array.length_toList).symm
      omega
    · rw [hw]; exact Lib.bytesWorld_below _ _ _
  obtain ⟨s, hs'⟩ : ∃ s, s = tx ts i := ⟨_, rfl⟩
  obtain ⟨v, hv⟩ : ∃ v, v = valN (tx ts i).data.toList := ⟨_, rfl⟩
  rw [← hv] at CA ⊢
  rw [← hs'] at CA ⊢
  clear n0 n9 nd hs hn hs' hv
  go_enter Tryz.func98, Tryz.ntmps98
  go_wp2_with fail
  refine CA.out.mono ?_
  rintro e w1 ⟨rfl, hb⟩
  go_wp2
  go_ret
  exact ⟨rfl, hb.out⟩

end Go.Proofs.YtdjkgilohhjfoaaGreatDoor

namespace Go.Proofs.YtdjkgilohhjfoaaGreatDoor
open Go.RowKit

theorem flat_get {α : Type} (f : α → List Value) (k : Nat) (hk : ∀ x, (f x).length = k) : ∀ (l : List α) (j r : Nat) (hj : j < l.length), r < k → (l.flatMap f)[j * k + r]? = (f l[j])[r]?
  | [], j, r, hj, _ => absurd hj (Nat.not_lt_zero _)
  | x :: l, 0, r, hj, hr => by
    rw [List.flatMap_cons, Nat.zero_mul, Nat.zero_add, List.getElem?_append_left (by rw [hk]; exact hr)]
    rfl
  | x :: l, j + 1, r, hj, hr => by
    rw [List.flatMap_cons, List.getElem?_append_right (by rw [hk, Nat.succ_mul]; omega), hk]
    have e : (j + 1) * k + r - k = j * k + r := by rw [Nat.succ_mul]; omega
    rw [e, flat_get f k hk l j r (by simpa using hj) hr]
    rfl
theorem flat_len {α : Type} (f : α → List Value) (k : Nat) (hk : ∀ x, (f x).length = k) : ∀ (l : List α), (l.flatMap f).length = l.length * k
  | [] => by simp
  | x :: l => by rw [List.flatMap_cons, List.length_append, flat_len f k hk l, hk, List.length_cons, Nat.succ_mul, Nat.add_comm]

/-- A cell of a row of one's own. -/
theorem own_at {B : Nat} {w : World} {t : TypeId} {k : Nat} {v : Value} {α : Type} {f : α → List Value} (hk : ∀ x, (f x).length = k) {l : List α} (h : w.ownsRow B t k v l.length (l.flatMap f)) {g : Nat} (hg : v.ownBlock = some g) {j r : Nat} {u : Value} (hj : j < l.length) (hr : r < k) (hu : (f l[j])[r]? = some u) : w.cell? ⟨g, j * k + r, none⟩ = some u := by
  have := h.cells hg (j * k + r) u (by rw [flat_get f k hk l j r hj hr]; exact hu)
  rw [← this]
  congr 1
  unfold Addr.add
  simp
theorem own_blk {B : Nat} {w : World} {t : TypeId} {k n : Nat} {v : Value} {xs : List Value} (h : w.ownsRow B t k v n xs) (hn : 0 < n) : ∃ g c, v = .slice (some ⟨g, 0, none⟩) n c ∧ B ≤ g ∧ g < w.heap.size ∧ n ≤ c := by
  obtain ⟨h1, h2⟩ := h
  rcases h2 with ⟨_, h3⟩ | ⟨g, cap, cur, hv, hb, hh, hc, _⟩
  · omega
  · refine ⟨g, cap, hv, hb, ?_, hc⟩
    obtain ⟨hlt, _⟩ := Array.getElem?_eq_some_iff.1 hh
    exact hlt

theorem tkA_get' {ts : List TK} {j : Nat} (hj : j < ts.length) : ts[j] = tkA ts j := (tkA_get hj).symm

/-- Tokens of one's own. -/
theorem TkAt.of_own {w wr : World} {s : ByteArray} {g c : Nat} (h : Own w wr (.slice (some ⟨g, 0, none⟩) (toks s).length c) (toks s)) : TkAt wr g 0 (toks s) := by
  have hk : ∀ t : TK, ([Value.int .i64 t.cls, .string t.txt, .int .i64 (t.loc : Int)]).length = 3 := fun _ => rfl
  have ok := toks_ok s
  have key : ∀ j (hj : j < (toks s).length) (r : Nat) (u : Value), r < 3 → ([Value.int .i64 (toks s)[j].cls, .string (toks s)[j].txt, .int .i64 ((toks s)[j].loc : Int)])[r]? = some u → wr.cell? ⟨g, j * 3 + r, none⟩ = some u := fun j hj r u hr hu =>
    own_at (f := fun t : TK => [Value.int .i64 t.cls, .string t.txt, .int .i64 (t.loc : Int)]) hk h.own rfl hj hr hu
  refine ⟨fun j hj => ?_, fun j hj => ?_, fun j hj => ?_, toks_len s, fun j hj => ?_, fun j hj => ?_⟩
  · rw [← tkA_get' hj, Nat.zero_add]; exact key j hj 0 _ (by omega) rfl
  · rw [← tkA_get' hj, Nat.zero_add]; exact key j hj 1 _ (by omega) rfl
  · rw [← tkA_get' hj, Nat.zero_add]; exact key j hj 2 _ (by omega) rfl
  · rw [← tkA_get' hj]; exact ok.sz _ (List.getElem_mem hj)
  · rw [← tkA_get' hj]; exact ok.gd _ (List.getElem_mem hj)

theorem tkA_drop {ts : List TK} {k j : Nat} (hj : j < (ts.drop k).length) : tkA (ts.drop k) j = tkA ts (k + j) := by
  have h2 : k + j < ts.length := by simp at hj; omega
  rw [tkA_get hj, tkA_get h2, List.getElem_drop]
theorem tkA_take {ts : List TK} {k j : Nat} (hj : j < (ts.take k).length) : tkA (ts.take k) j = tkA ts j := by
  have h2 : j < ts.length := by simp at hj; omega
  rw [tkA_get hj, tkA_get h2, List.getElem_take]
theorem TkAt.drop {w : World} {tb o : Nat} {ts : List TK} (h : TkAt w tb o ts) (k : Nat) : TkAt w tb (o + k * 3) (ts.drop k) := by
  have hl : (ts.drop k).length = ts.length - k := List.length_drop
  refine ⟨fun j hj => ?_, fun j hj => ?_, fun j hj => ?_, by have := h.len; omega, fun j hj => ?_, fun j hj => ?_⟩
  · rw [tkA_drop hj, ← h.c0 (k + j) (by omega)]; congr 2; omega
  · rw [tkA_drop hj, ← h.c1 (k + j) (by omega)]; congr 2; omega
  · rw [tkA_drop hj, ← h.c2 (k + j) (by omega)]; congr 2; omega
  · rw [tkA_drop hj]; exact h.sz (k + j) (by omega)
  · rw [tkA_drop hj]; exact h.gd (k + j) (by omega)
theorem TkAt.take {w : World} {tb o : Nat} {ts : List TK} (h : TkAt w tb o ts) (k : Nat) : TkAt w tb o (ts.take k) := by
  have hl : (ts.take k).length = min k ts.length := List.length_take
  refine ⟨fun j hj => ?_, fun j hj => ?_, fun j hj => ?_, by have := h.len; omega, fun j hj => ?_, fun j hj => ?_⟩
  · rw [tkA_take hj]; exact h.c0 j (by omega)
  · rw [tkA_take hj]; exact h.c1 j (by omega)
  · rw [tkA_take hj]; exact h.c2 j (by omega)
  · rw [tkA_take hj]; exact h.sz j (by omega)
  · rw [tkA_take hj]; exact h.gd j (by omega)
theorem TkOK.take {ts : List TK} (h : TkOK ts) (k : Nat) : TkOK (ts.take k) := h.sub fun _ ht => List.mem_of_mem_take ht
theorem TkOK.drop {ts : List TK} (h : TkOK ts) (k : Nat) : TkOK (ts.drop k) := h.sub fun _ ht => List.mem_of_mem_drop ht
theorem TkAt.below {w w' : World} {tb o : Nat} {ts : List TK} (h : TkAt w tb o ts) (hb : Below w.heap.size w w') : TkAt w' tb o ts :=
  h.but (S := []) ⟨hb.os, hb.tape, hb.output, hb.size, fun k hk _ => hb.block k hk⟩ (by simp)

end Go.Proofs.YtdjkgilohhjfoaaGreatDoor

namespace Go.Proofs.YtdjkgilohhjfoaaGreatDoor
open Go.RowKit

/-- The tokens that a reader of the model's is given. -/
structure MS (w : World) (tb o : Nat) (ao : Option Addr) (ts : List TK) : Prop where
  tk : TkAt w tb o ts
  at_ : 0 < ts.length → ao = some ⟨tb, o, none⟩
theorem MS.below {w w' : World} {tb o : Nat} {ao : Option Addr} {ts : List TK} (h : MS w tb o ao ts) (hb : Below w.heap.size w w') : MS w' tb o ao ts := ⟨h.tk.below hb, h.at_⟩

set_option maxRecDepth 100000 in
theorem m_is {tb o c : Nat} {ao : Option Addr} {ts : List TK} (w : World) (h : MS w tb o ao ts) {a : Int} {i : Nat} (ha : a = i) {s : ByteArray} (hs : cls s.toList = 2 ∨ cls s.toList = 4) :
    Calls Tryz.prog 53 #[.slice ao ts.length c, .int .i64 a, .string s] w fun e w' => e = .returned (.bool (isT ts i s.data.toList)) ∧ w = w' := by
  subst ha
  by_cases hi : i < ts.length
  case neg =>
    have HR : Hid (isT ts i s.data.toList = false) := by
      show _ = _
      unfold isT
      rw [List.getElem?_eq_none (by omega)]
    have h1 : ((ts.length : Int) ≤ (i : Int)) := by omega
    have h2 : decide ((ts.length : Int) ≤ (i : Int)) = true := decide_eq_true h1
    have h0 : ¬ (i : Int) < 0 := by omega
    have h3 : decide ((i : Int) < 0) = false := decide_eq_false h0
    obtain ⟨n, hn⟩ : ∃ n, n = ts.length := ⟨_, rfl⟩
    rw [← hn] at h1 h2 ⊢
    clear h hn hi
    go_enter Tryz.func53, Tryz.ntmps53
    go_wp2
    go_ret
    exact ⟨by rw [HR.out]; rfl, rfl⟩
  have e := h.at_ (by omega)
  subst e
  have c0 := h.tk.c0 i hi
  have c1 := h.tk.c1 i hi
  have hgd := h.tk.gd i hi
  have hln := h.tk.len
  obtain ⟨k0, hk0⟩ : ∃ z, z = (tkA ts i).cls := ⟨_, rfl⟩
  obtain ⟨k1, hk1⟩ : ∃ z, z = (tkA ts i).txt := ⟨_, rfl⟩
  rw [← hk0] at c0
  rw [← hk1] at c1
  have HR : Hid (isT ts i s.data.toList = (k1.toList == s.toList)) := by
    show _ = _
    rw [isT_at hi, hk1]
    simp only [ByteArray.toList_eq]
  have HC : Hid (k0 ≠ 2 → k0 ≠ 4 → (k1.toList == s.toList) = false) := fun q2 q4 => by
    rw [beq_eq_false_iff_ne]
    intro e
    rw [← hk0, ← hk1, e] at hgd
    omega
  obtain ⟨n, hn⟩ : ∃ n, n = ts.length := ⟨_, rfl⟩
  rw [← hn] at hi hln ⊢
  have h1 : ¬ ((n : Int) ≤ (i : Int)) := by omega
  have h2 : decide ((n : Int) ≤ (i : Int)) = false := decide_eq_false h1
  have h0 : ¬ (i : Int) < 0 := by omega
  have h3 : decide ((i : Int) < 0) = false := decide_eq_false h0
  clear h hk0 hk1 hgd hn
  by_cases q2 : k0 = 2
  · subst q2
    clear HC
    go_enter Tryz.func53, Tryz.ntmps53
    go_wp2
    go_ret
    exact ⟨by rw [HR.out]; rfl, rfl⟩
  · have p2 : (k0 == 2) = false := beq_eq_false_iff_ne.2 q2
    by_cases q4 : k0 = 4
    · subst q4
      clear HC
      go_enter Tryz.func53, Tryz.ntmps53
      go_wp2
      go_ret
      exact ⟨by rw [HR.out]; rfl, rfl⟩
    · have p4 : (k0 == 4) = false := beq_eq_false_iff_ne.2 q4
      have HX := HC.out q2 q4
      clear HC
      go_enter Tryz.func53, Tryz.ntmps53
      go_wp2
      go_ret
      exact ⟨by rw [HR.out, HX]; rfl, rfl⟩

set_option maxRecDepth 100000 in
theorem m_isName {tb o c : Nat} {ao : Option Addr} {ts : List TK} (w : World) (h : MS w tb o ao ts) {a : Int} {i : Nat} (ha : a = i) :
    Calls Tryz.prog 62 #[.slice ao ts.length c, .int .i64 a] w fun e w' => e = .returned (.bool (isC ts i 1)) ∧ w = w' := by
  subst ha
  have g0 : (i : Int) ≥ 0 := by omega
  have g1 : decide ((i : Int) ≥ 0) = true := decide_eq_true g0
  have g2 : decide ((0 : Int) ≤ (i : Int)) = true := decide_eq_true g0
  by_cases hi : i < ts.length
  case neg =>
    have HR : Hid (isC ts i 1 = false) := by
      show _ = _
      unfold isC
      rw [List.getElem?_eq_none (by omega)]
    have h1 : ¬ ((i : Int) < (ts.length : Int)) := by omega
    have h2 : decide ((i : Int) < (ts.length : Int)) = false := decide_eq_false h1
    obtain ⟨n, hn⟩ : ∃ n, n = ts.length := ⟨_, rfl⟩
    rw [← hn] at h1 h2 ⊢
    clear h hn hi
    go_enter Tryz.func62, Tryz.ntmps62
    go_wp2
    go_ret
    exact ⟨by rw [HR.out]; rfl, rfl⟩
  have e := h.at_ (by omega)
  subst e
  have c0 := h.tk.c0 i hi
  have hln := h.tk.len
  obtain ⟨k0, hk0⟩ : ∃ z, z = (tkA ts i).cls := ⟨_, rfl⟩
  rw [← hk0] at c0
  have HR : Hid (isC ts i 1 = (k0 == 1)) := by
    show _ = _
    rw [isC_at hi, hk0]
  obtain ⟨n, hn⟩ : ∃ n, n = ts.length := ⟨_, rfl⟩
  rw [← hn] at hi hln ⊢
  have h1 : ((i : Int) < (n : Int)) := by omega
  have h2 : decide ((i : Int) < (n : Int)) = true := decide_eq_true h1
  clear h hk0 hn
  go_enter Tryz.func62, Tryz.ntmps62
  go_wp2
  go_ret
  exact ⟨by rw [HR.out]; rfl, rfl⟩

end Go.Proofs.YtdjkgilohhjfoaaGreatDoor

namespace Go.Proofs.YtdjkgilohhjfoaaGreatDoor
open Go.RowKit

/-- Items that can be read. -/
structure RT (B : Nat) (w : World) (v : Value) (xs : List (TI × NPl)) : Prop where
  own : w.ownsRow B 120 4 v xs.length (tisC xs)
  nm : ∀ x, x ∈ xs → NmOK B w x.1.ns x.2
structure RiOK (B : Nat) (w : World) (x : EI × EPl) : Prop where
  nm : NmOK B w x.1.ns x.2.np
  ty : RT B w x.2.tv x.2.zs
  is : x.2.zs.map Prod.fst = x.1.ty
structure RE (B : Nat) (w : World) (v : Value) (xs : List (EI × EPl)) : Prop where
  own : w.ownsRow B 123 6 v xs.length (eisC xs)
  ok : ∀ x, x ∈ xs → RiOK B w x
structure RdOK (B : Nat) (w : World) (d : DC) (p : DPl) : Prop where
  ty : RT B w p.tv p.zs
  isT : p.zs.map Prod.fst = d.ty
  ex : RE B w p.ev p.es
  isE : p.es.map Prod.fst = d.ex
structure RD (B : Nat) (w : World) (v : Value) (xs : List (DC × DPl)) : Prop where
  own : w.ownsRow B 58 4 v xs.length (dcsC xs)
  ok : ∀ x, x ∈ xs → RdOK B w x.1 x.2

theorem OT.rt {B : Nat} {w : World} {v : Value} {xs : List (TI × NPl)} (h : OT B w v xs) : RT B w v xs := ⟨h.own, h.nm⟩
theorem OE.re {B : Nat} {w : World} {v : Value} {xs : List (EI × EPl)} (h : OE B w v xs) : RE B w v xs := ⟨h.own, fun x hx => ⟨(h.ok x hx).nm, (h.ok x hx).ty.rt, (h.ok x hx).is⟩⟩
theorem DcOK.rd {B : Nat} {w : World} {d : DC} {p : DPl} (h : DcOK B w d p) : RdOK B w d p := ⟨h.ty.rt, h.isT, h.ex.re, h.isE⟩
theorem OD.rd {B : Nat} {w : World} {v : Value} {xs : List (DC × DPl)} (h : OD B w v xs) : RD B w v xs := ⟨h.own, fun x hx => (h.ok x hx).rd⟩

/-- Nothing below N, and no block but one of the type t, has changed. -/
def Kp (t : TypeId) (w w' : World) : Prop := ∀ (k : Nat) (c : Array Value) (t' : TypeId) (fr : Nat × Nat), w.heap[k]? = some (Obj.cells c t' fr) → t' ≠ t → w'.heap[k]? = w.heap[k]?

theorem rowIs_kp {t t' : TypeId} {w w' : World} {b n : Nat} {f : Nat → Value} (h : w.rowIs b t' n f) (hk : Kp t w w') (hne : t' ≠ t) : w'.rowIs b t' n f := by
  obtain ⟨c, hc, r⟩ := h
  exact ⟨c, (hk b c t' _ hc hne).trans hc, r⟩
theorem own_kp {t t' : TypeId} {w w' : World} {B n size : Nat} {v : Value} {xs : List Value} (h : w.ownsRow B t' size v n xs) (hk : Kp t w w') (hne : t' ≠ t) : w'.ownsRow B t' size v n xs := by
  obtain ⟨h1, h2⟩ := h
  refine ⟨h1, ?_⟩
  rcases h2 with h2 | ⟨g, cap, cur, hv, hb', hh, r⟩
  · exact Or.inl h2
  · exact Or.inr ⟨g, cap, cur, hv, hb', (hk g cur t' _ hh hne).trans hh, r⟩
theorem NmOK.kp {t : TypeId} {B : Nat} {w w' : World} {ns : List ByteArray} {p : NPl} (h : NmOK B w ns p) (hk : Kp t w w') (hne : 9 ≠ t) : NmOK B w' ns p := fun hn => by
  obtain ⟨h0, h1, N, f, hr, r⟩ := h hn
  exact ⟨h0, h1, N, f, rowIs_kp hr hk hne, r⟩
theorem RT.kp {t : TypeId} {B : Nat} {w w' : World} {v : Value} {xs : List (TI × NPl)} (h : RT B w v xs) (hk : Kp t w w') (h1 : 120 ≠ t) (h2 : 9 ≠ t) : RT B w' v xs :=
  ⟨own_kp h.own hk h1, fun x hx => (h.nm x hx).kp hk h2⟩
theorem RiOK.kp {t : TypeId} {B : Nat} {w w' : World} {x : EI × EPl} (h : RiOK B w x) (hk : Kp t w w') (h1 : 120 ≠ t) (h2 : 9 ≠ t) : RiOK B w' x :=
  ⟨h.nm.kp hk h2, h.ty.kp hk h1 h2, h.is⟩
theorem RE.kp {t : TypeId} {B : Nat} {w w' : World} {v : Value} {xs : List (EI × EPl)} (h : RE B w v xs) (hk : Kp t w w') (h0 : 123 ≠ t) (h1 : 120 ≠ t) (h2 : 9 ≠ t) : RE B w' v xs :=
  ⟨own_kp h.own hk h0, fun x hx => (h.ok x hx).kp hk h1 h2⟩
theorem RdOK.kp {t : TypeId} {B : Nat} {w w' : World} {d : DC} {p : DPl} (h : RdOK B w d p) (hk : Kp t w w') (h0 : 123 ≠ t) (h1 : 120 ≠ t) (h2 : 9 ≠ t) : RdOK B w' d p :=
  ⟨h.ty.kp hk h1 h2, h.isT, h.ex.kp hk h0 h1 h2, h.isE⟩

theorem below_kp {w w' : World} (hb : Below w.heap.size w w') : Kp 0 w w' := fun k c t' fr hk _ => by
  obtain ⟨hlt, _⟩ := Array.getElem?_eq_some_iff.1 hk
  exact hb.block k hlt
theorem RT.below {B : Nat} {w w' : World} {v : Value} {xs : List (TI × NPl)} (h : RT B w v xs) (hb : Below w.heap.size w w') : RT B w' v xs := h.kp (below_kp hb) (by decide) (by decide)
theorem RE.below {B : Nat} {w w' : World} {v : Value} {xs : List (EI × EPl)} (h : RE B w v xs) (hb : Below w.heap.size w w') : RE B w' v xs := h.kp (below_kp hb) (by decide) (by decide) (by decide)
theorem RdOK.below {B : Nat} {w w' : World} {d : DC} {p : DPl} (h : RdOK B w d p) (hb : Below w.heap.size w w') : RdOK B w' d p := h.kp (below_kp hb) (by decide) (by decide) (by decide)
theorem RD.below {B : Nat} {w w' : World} {v : Value} {xs : List (DC × DPl)} (h : RD B w v xs) (hb : Below w.heap.size w w') : RD B w' v xs := ⟨own_kp h.own (below_kp hb) (by decide), fun x hx => (h.ok x hx).below hb⟩
theorem NmOK.below {B : Nat} {w w' : World} {ns : List ByteArray} {p : NPl} (h : NmOK B w ns p) (hb : Below w.heap.size w w') : NmOK B w' ns p := h.kp (below_kp hb) (by decide)
theorem RT.mono {B B' : Nat} {w : World} {v : Value} {xs : List (TI × NPl)} (h : RT B w v xs) (hb : B' ≤ B) : RT B' w v xs := ⟨own_mono h.own hb, fun x hx => (h.nm x hx).mono hb⟩
theorem RiOK.mono {B B' : Nat} {w : World} {x : EI × EPl} (h : RiOK B w x) (hb : B' ≤ B) : RiOK B' w x := ⟨h.nm.mono hb, h.ty.mono hb, h.is⟩
theorem RE.mono {B B' : Nat} {w : World} {v : Value} {xs : List (EI × EPl)} (h : RE B w v xs) (hb : B' ≤ B) : RE B' w v xs := ⟨own_mono h.own hb, fun x hx => (h.ok x hx).mono hb⟩
theorem RdOK.mono {B B' : Nat} {w : World} {d : DC} {p : DPl} (h : RdOK B w d p) (hb : B' ≤ B) : RdOK B' w d p := ⟨h.ty.mono hb, h.isT, h.ex.mono hb, h.isE⟩

/-- What an append leaves: only the row's own block, which is of its type, has changed. -/
theorem grown_kp {w w3 : World} {B n size : Nat} {v : Value} {xs : List Value} {t : TypeId} (h : w.ownsRow B t size v n xs) (hg : w.grownBy w3 v.ownBlock) : Kp t w w3 := fun k c t' fr hk hne => by
  obtain ⟨hlt, _⟩ := Array.getElem?_eq_some_iff.1 hk
  refine hg.block k hlt (fun e => ?_)
  rcases h.2 with ⟨rfl, _⟩ | ⟨g, cap, cur, rfl, _, hh, _⟩
  · cases e
  · have eg : k = g := by simpa [Value.ownBlock] using e
    subst eg
    rw [hh] at hk
    simp only [Option.some.injEq, Obj.cells.injEq] at hk
    exact hne hk.2.1.symm
theorem Kp.trans {t : TypeId} {w w1 w2 : World} (h : Kp t w w1) (h' : Kp t w1 w2) : Kp t w w2 := fun k c t' fr hk hne => by
  have e := h k c t' fr hk hne
  rw [h' k c t' fr (e.trans hk) hne, e]
theorem kp_alloc (t : TypeId) (w : World) (o : Obj) : Kp t w (w.alloc o) := fun k c t' fr hk _ => by
  obtain ⟨hlt, _⟩ := Array.getElem?_eq_some_iff.1 hk
  exact Below.heap_alloc _ _ _ hlt

/-- One more item at the end. -/
theorem RT.push {B : Nat} {w w3 : World} {v : Value} {xs : List (TI × NPl)} {x : TI × NPl} {o : Obj} {gg cap3 : Nat} (h : RT B w v xs)
    (hown : w3.ownsRow B 120 4 (.slice (some ⟨gg, 0, none⟩) (xs.length + 1) cap3) (xs.length + 1) (tisC xs ++ tiC x)) (hg : (w.alloc o).grownBy w3 v.ownBlock) (hx : NmOK B w x.1.ns x.2) :
    RT B w3 (.slice (some ⟨gg, 0, none⟩) (xs.length + 1) cap3) (xs ++ [x]) := by
  have hk : Kp 120 w w3 := (kp_alloc _ w o).trans (grown_kp (h.own.alloc o) hg)
  refine ⟨by rw [tisC_snoc, List.length_append]; exact hown, fun y hy => ?_⟩
  rcases List.mem_append.1 hy with z | z
  · exact (h.nm y z).kp hk (by decide)
  · rw [List.mem_singleton.1 z]; exact hx.kp hk (by decide)
theorem RE.push {B : Nat} {w w3 : World} {v : Value} {xs : List (EI × EPl)} {x : EI × EPl} {o : Obj} {gg cap3 : Nat} (h : RE B w v xs)
    (hown : w3.ownsRow B 123 6 (.slice (some ⟨gg, 0, none⟩) (xs.length + 1) cap3) (xs.length + 1) (eisC xs ++ eiC x)) (hg : (w.alloc o).grownBy w3 v.ownBlock) (hx : RiOK B w x) :
    RE B w3 (.slice (some ⟨gg, 0, none⟩) (xs.length + 1) cap3) (xs ++ [x]) := by
  have hk : Kp 123 w w3 := (kp_alloc _ w o).trans (grown_kp (h.own.alloc o) hg)
  refine ⟨by rw [eisC_snoc, List.length_append]; exact hown, fun y hy => ?_⟩
  rcases List.mem_append.1 hy with z | z
  · exact (h.ok y z).kp hk (by decide) (by decide)
  · rw [List.mem_singleton.1 z]; exact hx.kp hk (by decide) (by decide)
theorem RD.push {B : Nat} {w w3 : World} {v : Value} {xs : List (DC × DPl)} {x : DC × DPl} {o : Obj} {gg cap3 : Nat} (h : RD B w v xs)
    (hown : w3.ownsRow B 58 4 (.slice (some ⟨gg, 0, none⟩) (xs.length + 1) cap3) (xs.length + 1) (dcsC xs ++ dcC x)) (hg : (w.alloc o).grownBy w3 v.ownBlock) (hx : RdOK B w x.1 x.2) :
    RD B w3 (.slice (some ⟨gg, 0, none⟩) (xs.length + 1) cap3) (xs ++ [x]) := by
  have hk : Kp 58 w w3 := (kp_alloc _ w o).trans (grown_kp (h.own.alloc o) hg)
  refine ⟨by rw [dcsC_snoc, List.length_append]; exact hown, fun y hy => ?_⟩
  rcases List.mem_append.1 hy with z | z
  · exact (h.ok y z).kp hk (by decide) (by decide) (by decide)
  · rw [List.mem_singleton.1 z]; exact hx.kp hk (by decide) (by decide) (by decide)

theorem tiC_len (x : TI × NPl) : (tiC x).length = 4 := rfl
theorem eiC_len (x : EI × EPl) : (eiC x).length = 6 := rfl
theorem dcC_len (x : DC × DPl) : (dcC x).length = 4 := rfl

/-- The answer of a reader of types is read of its box. -/
theorem ret_ty {f : Func} {k : Nat} (hf : f.results = #[.cell k 108]) {V : World} {X : Nat} {a b : Value} (c0 : V.cell? ⟨X, 0, none⟩ = some a) (c1 : V.cell? ⟨X, 1, none⟩ = some b) (tmps : Array Value) (h : tmps[k]?.getD undef = .pointer (some ⟨X, 0, none⟩)) :
    (results f tmps).run Tryz.prog V = .ok (.agg #[a, b]) V := by
  unfold results
  rw [hf]
  simp [go_sem, h, c0, c1]
theorem ret_ex {f : Func} {k : Nat} (hf : f.results = #[.cell k 111]) {V : World} {X : Nat} {a b : Value} (c0 : V.cell? ⟨X, 0, none⟩ = some a) (c1 : V.cell? ⟨X, 1, none⟩ = some b) (tmps : Array Value) (h : tmps[k]?.getD undef = .pointer (some ⟨X, 0, none⟩)) :
    (results f tmps).run Tryz.prog V = .ok (.agg #[a, b]) V := by
  unfold results
  rw [hf]
  simp [go_sem, h, c0, c1]

end Go.Proofs.YtdjkgilohhjfoaaGreatDoor

namespace Go.Proofs.YtdjkgilohhjfoaaGreatDoor
open Go.RowKit

theorem m_noType (w : World) : Calls Tryz.prog 82 #[] w fun e w' => (∃ a n c, e = .returned (.agg #[.slice a n c, .int .i64 (-1)])) ∧ Hid (Below w.heap.size w w') := by
  go_enter Tryz.func82, Tryz.ntmps82
  go_wp2
  have R := (row2 w (.slice (some ⟨w.heap.size + 1, 0, none⟩) 0 0) (.int .i64 (-1)) 108).alloc (.cells #[] 120)
  exact bodyPost_ret (ret_ty (k := 0) rfl (R.cell (i := 0) (by omega)) (R.cell (i := 1) (by omega)) _ rfl) rfl ⟨⟨some ⟨w.heap.size + 1, 0, none⟩, 0, 0, rfl⟩, (bel1 _ _).alloc (by simp) _⟩
theorem m_noExpr (w : World) : Calls Tryz.prog 73 #[] w fun e w' => (∃ a n c, e = .returned (.agg #[.slice a n c, .int .i64 (-1)])) ∧ Hid (Below w.heap.size w w') := by
  go_enter Tryz.func73, Tryz.ntmps73
  go_wp2
  have R := (row2 w (.slice (some ⟨w.heap.size + 1, 0, none⟩) 0 0) (.int .i64 (-1)) 111).alloc (.cells #[] 123)
  exact bodyPost_ret (ret_ex (k := 0) rfl (R.cell (i := 0) (by omega)) (R.cell (i := 1) (by omega)) _ rfl) rfl ⟨⟨some ⟨w.heap.size + 1, 0, none⟩, 0, 0, rfl⟩, (bel1 _ _).alloc (by simp) _⟩

/-- One item, newly made. -/
theorem re_lit (w : World) {B : Nat} (hB : B ≤ w.heap.size) (op num : Int) (md nm : ByteArray) : RE B (w.alloc (.cells #[.int .i64 op, .int .i64 num, .string md, .string nm, .slice none 0 0, .slice none 0 0] 123)) (.slice (some ⟨w.heap.size, 0, none⟩) 1 1) [(⟨op, num, md, nm, [], []⟩, ep0)] :=
  ⟨own_mono (World.ownsRow_lit w #[.int .i64 op, .int .i64 num, .string md, .string nm, .slice none 0 0, .slice none 0 0] 1 (Nat.le_refl _) (by unfold maxLen; omega) (by rfl)) hB, fun x hx => by
    rw [List.mem_singleton.1 hx]
    exact ⟨NmOK.nil _ _ _, (OT.nil _ _).rt, rfl⟩⟩
theorem rt_lit (w : World) {B : Nat} (hB : B ≤ w.heap.size) (op : Int) (md nm : ByteArray) : RT B (w.alloc (.cells #[.int .i64 op, .string md, .string nm, .slice none 0 0] 120)) (.slice (some ⟨w.heap.size, 0, none⟩) 1 1) [(⟨op, md, nm, []⟩, ⟨none, 0, 0⟩)] :=
  ⟨own_mono (World.ownsRow_lit w #[.int .i64 op, .string md, .string nm, .slice none 0 0] 1 (Nat.le_refl _) (by unfold maxLen; omega) (by rfl)) hB, fun x hx => by
    rw [List.mem_singleton.1 hx]
    exact NmOK.nil _ _ _⟩

theorem m_one (w : World) (op num : Int) (md nm : ByteArray) (a : Int) :
    Calls Tryz.prog 92 #[.agg #[.int .i64 op, .int .i64 num, .string md, .string nm, .slice none 0 0, .slice none 0 0], .int .i64 a] w fun e w' => (∃ va n c, e = .returned (.agg #[.slice va n c, .int .i64 a]) ∧ Hid (RE w.heap.size w' (.slice va n c) [(⟨op, num, md, nm, [], []⟩, ep0)])) ∧ Hid (Below w.heap.size w w') := by
  go_enter Tryz.func92, Tryz.ntmps92
  go_wp2
  have R := (row2 (w.alloc (.cells #[.int .i64 op, .int .i64 num, .string md, .string nm, .slice none 0 0, .slice none 0 0] 123)) (.slice (some ⟨w.heap.size + 1 + 1, 0, none⟩) 1 1) (.int .i64 a) 111).alloc (.cells #[.int .i64 op, .int .i64 num, .string md, .string nm, .slice none 0 0, .slice none 0 0] 123)
  simp only [World.size_alloc] at R
  have L := re_lit ((w.alloc (.cells #[.int .i64 op, .int .i64 num, .string md, .string nm, .slice none 0 0, .slice none 0 0] 123)).alloc (.cells #[.slice (some ⟨w.heap.size + 1 + 1, 0, none⟩) 1 1, .int .i64 a] 111)) (B := w.heap.size) (by simp only [World.size_alloc]; omega) op num md nm
  simp only [World.size_alloc] at L
  exact bodyPost_ret (ret_ex (k := 4) rfl (R.cell (i := 0) (by omega)) (R.cell (i := 1) (by omega)) _ rfl) rfl ⟨⟨some ⟨w.heap.size + 1 + 1, 0, none⟩, 1, 1, rfl, L⟩, ((bel1 _ _).alloc (by simp) _).alloc (by simp only [World.size_alloc]; omega) _⟩

theorem valN_snoc (l : List UInt8) (c : UInt8) : valN (l ++ [c]) = valN l * 10 + ((c.toNat : Int) - 48) := by
  unfold valN
  rw [List.foldl_append]; rfl
theorem valN_bound : ∀ (k : Nat) (l : List UInt8), (∀ c, c ∈ l → dg (c.toNat : Int) = true) → l.length ≤ k → 0 ≤ valN (l.take k) ∧ valN (l.take k) < 10 ^ k
  | 0, l, _, _ => by simp [valN]
  | k + 1, l, hd, hl => by
    by_cases hk : l.length ≤ k
    · have := valN_bound k l hd hk
      rw [List.take_of_length_le (by omega)] at this ⊢
      refine ⟨this.1, Int.lt_of_lt_of_le this.2 ?_⟩
      rw [Int.pow_succ]
      have : (0 : Int) < 10 ^ k := Int.pow_pos (by decide)
      omega
    · have e : l.take (k + 1) = l := List.take_of_length_le hl
      have hn : l ≠ [] := fun z => by rw [z] at hk; simp at hk
      obtain ⟨l', c, rfl⟩ : ∃ l' c, l = l' ++ [c] := ⟨l.dropLast, l.getLast hn, (List.dropLast_concat_getLast hn).symm⟩
      rw [e, valN_snoc, Int.pow_succ]
      have hc := hd c (by simp)
      unfold dg at hc
      have hc' := of_decide_eq_true hc
      have := valN_bound k l' (fun c hc => hd c (by simp [hc])) (by simp at hl; omega)
      rw [List.take_of_length_le (by simp at hl; omega)] at this
      omega
theorem valN_small {l : List UInt8} (hd : ∀ c, c ∈ l → dg (c.toNat : Int) = true) (hl : l.length ≤ 9) : 0 ≤ valN l ∧ valN l < 1000000000 := by
  have := valN_bound 9 l hd hl
  rw [List.take_of_length_le (by omega)] at this
  exact ⟨this.1, by have h2 := this.2; rw [show ((10 : Int) ^ 9) = 1000000000 from rfl] at h2; exact h2⟩

set_option maxRecDepth 100000 in
theorem m_value (w : World) (s : ByteArray) (hd : ∀ c, c ∈ s.data.toList → dg (c.toNat : Int) = true) (hl : s.data.toList.length ≤ 9) :
    Calls Tryz.prog 93 #[.string s] w fun e w' => e = .returned (.int .i64 (valN s.data.toList)) ∧ w = w' := by
  have hsz : s.size = s.data.toList.length := (Array.length_toList).symm
  have HS : Hid (s.size = s.data.toList.length) := hsz
  have hs9 : s.size ≤ 9 := by omega
  have HD : Hid (∀ c, c ∈ s.data.toList → dg (c.toNat : Int) = true) := hd
  have HB : Hid (∀ k, 0 ≤ valN (s.data.toList.take k) ∧ valN (s.data.toList.take k) < 1000000000) := fun k => valN_small (fun c hc => hd c (List.mem_of_mem_take hc)) (by rw [List.length_take]; omega)
  clear hsz hd hl
  go_enter Tryz.func93, Tryz.ntmps93
  go_wp2
  go_loopw [3, 4] (fun a i wr => ∃ k : Nat, k ≤ s.size ∧ i = .int .i64 k ∧ a = .int .i64 (valN (s.data.toList.take k)) ∧ wr = w) (fun _ i _ => s.size - (intOf i).toNat)
  case atStart => exact ⟨0, Nat.zero_le _, rfl, rfl, rfl⟩
  case round =>
    obtain ⟨k, hk, rfl, rfl, rfl⟩ := hrel
    by_cases hlt : k < s.size
    · have hb := HB.out k
      obtain ⟨x, hx⟩ : ∃ x, x = valN (s.data.toList.take k) := ⟨_, rfl⟩
      obtain ⟨c, hc⟩ : ∃ c : UInt8, c = s[k] := ⟨_, rfl⟩
      have hcd : dg (c.toNat : Int) = true := HD.out c (by rw [hc]; exact List.getElem_mem (by rw [← HS.out]; exact hlt))
      unfold dg at hcd
      have hcd' := of_decide_eq_true hcd
      have HX : Hid (valN (s.data.toList.take (k + 1)) = x * 10 + ((c.toNat : Int) - 48)) := by
        show _ = _
        rw [List.take_add_one, List.getElem?_eq_getElem (by rw [← HS.out]; exact hlt), hx]
        show valN (_ ++ [_]) = _
        rw [valN_snoc, hc]; rfl
      rw [← hx] at hb ⊢
      clear hcd hx
      have hb0 := hb.1
      have hb1 := hb.2
      have hc0 := hcd'.1
      have hc1 := hcd'.2
      go_wp2
      refine ⟨⟨k + 1, by omega, by go_num, ?_⟩, by simp [intOf]; omega⟩
      rw [HX.out, hc, Int.emod_eq_of_lt (by rw [← hc]; omega) (by rw [← hc]; omega)]
      exact ⟨rfl, trivial⟩
    · have hkn : k = s.size := by omega
      subst hkn
      have HE : Hid (s.data.toList.take s.size = s.data.toList) := by show _ = _; rw [HS.out, List.take_length]
      rw [HE.out]
      go_wp2
      go_ret
      exact ⟨rfl, rfl⟩

end Go.Proofs.YtdjkgilohhjfoaaGreatDoor

