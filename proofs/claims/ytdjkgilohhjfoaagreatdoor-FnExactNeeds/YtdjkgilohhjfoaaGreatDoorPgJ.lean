/-
  The fields of a record while the model reads them.
-/
import Derived.Test.YtdjkgilohhjfoaaGreatDoorM16
namespace Go.Proofs.YtdjkgilohhjfoaaGreatDoor
open Go.RowKit

/-- The fields of a record from where the model stands. -/
def fMid {α : Type} (ts : List TK) (T : Nat → Option (List α × Nat)) (sg : List UInt8) (f p : Nat) (ns : List ByteArray) (its : List α) : Option (List α × List ByteArray × Nat) :=
  if isT ts p sShut then some (its, ns, p + 1) else if ns = [] then floop ts T sg f p ns its else if isT ts p sComma then floop ts T sg f (p + 1) ns its else none
theorem fMid_start {α : Type} (ts : List TK) (T : Nat → Option (List α × Nat)) (sg : List UInt8) (j : Nat) : fldsP ts T sg j = fMid ts T sg (ts.length + 1) j [] [] := by
  unfold fldsP fMid
  rw [if_pos (rfl : ([] : List ByteArray) = [])]
theorem floop_gm {α : Type} {ts : List TK} {T : Nat → Option (List α × Nat)} {sg : List UInt8} {f j k : Nat} {ns : List ByteArray} {its l : List α} (hc : isC ts j 1 = true) (hs : isT ts (j + 1) sg = true) (hn : hasN ns (tx ts j) = false) (hT : T (j + 2) = some (l, k)) : floop ts T sg (f + 1) j ns its = fMid ts T sg f k (ns ++ [tx ts j]) (its ++ l) := by
  rw [floop, if_pos hc, hn, if_neg (by decide), if_pos hs, hT]
  unfold fMid
  rw [if_neg (by simp : ¬ ns ++ [tx ts j] = [])]
theorem floop_c {α : Type} {ts : List TK} {T : Nat → Option (List α × Nat)} {sg : List UInt8} {f j : Nat} {ns : List ByteArray} {its : List α} (hc : isC ts j 1 = false) : floop ts T sg f j ns its = none := by
  cases f with
  | zero => rfl
  | succ f => rw [floop, hc]; rfl
theorem floop_s {α : Type} {ts : List TK} {T : Nat → Option (List α × Nat)} {sg : List UInt8} {f j : Nat} {ns : List ByteArray} {its : List α} (hs : isT ts (j + 1) sg = false) : floop ts T sg f j ns its = none := by
  cases f with
  | zero => rfl
  | succ f =>
    rw [floop, hs]
    split
    · split <;> rfl
    · rfl
theorem floop_n {α : Type} {ts : List TK} {T : Nat → Option (List α × Nat)} {sg : List UInt8} {f j : Nat} {ns : List ByteArray} {its : List α} (hn : hasN ns (tx ts j) = true) : floop ts T sg f j ns its = none := by
  cases f with
  | zero => rfl
  | succ f => rw [floop, hn]; simp
theorem floop_t {α : Type} {ts : List TK} {T : Nat → Option (List α × Nat)} {sg : List UInt8} {f j : Nat} {ns : List ByteArray} {its : List α} (hT : T (j + 2) = none) : floop ts T sg f j ns its = none := by
  cases f with
  | zero => rfl
  | succ f =>
    rw [floop, hT]
    split
    · split
      · rfl
      · split <;> rfl
    · rfl

theorem RT.lt {B : Nat} {w : World} {v : Value} {xs : List (TI × NPl)} (h : RT B w v xs) {b : Nat} (hb : b ∈ tisB xs) : B ≤ b ∧ b < w.heap.size := by
  obtain ⟨x, hx, hn, rfl⟩ := mem_tisB hb
  exact (h.nm x hx).lt hn
theorem RT.but {S : List Nat} {B : Nat} {w w' : World} {v : Value} {xs : List (TI × NPl)} (h : RT B w v xs) (hb : But S w w') (h1 : ∀ b, v.ownBlock = some b → b ∉ S) (h2 : ∀ b, b ∈ tisB xs → b ∉ S) : RT B w' v xs :=
  ⟨own_block h.own (fun k e => hb.block k (h.own.lt k e.symm).2 (h1 k e.symm)), fun x hx => (h.nm x hx).but hb (fun hn => h2 _ (tisB_mem hx hn))⟩
theorem RiOK.lt {B : Nat} {w : World} {x : EI × EPl} (h : RiOK B w x) {b : Nat} (hb : b ∈ eiB x) : B ≤ b ∧ b < w.heap.size := by
  rcases mem_eiB hb with ⟨hn, rfl⟩ | e | e
  · exact h.nm.lt hn
  · exact h.ty.own.lt b e
  · exact h.ty.lt e
theorem RE.lt {B : Nat} {w : World} {v : Value} {xs : List (EI × EPl)} (h : RE B w v xs) {b : Nat} (hb : b ∈ eisB xs) : B ≤ b ∧ b < w.heap.size := by
  obtain ⟨x, hx, hb⟩ := mem_eisB hb
  exact (h.ok x hx).lt hb
theorem RE.but {S : List Nat} {B : Nat} {w w' : World} {v : Value} {xs : List (EI × EPl)} (h : RE B w v xs) (hb : But S w w') (h1 : ∀ b, v.ownBlock = some b → b ∉ S) (h2 : ∀ b, b ∈ eisB xs → b ∉ S) : RE B w' v xs :=
  ⟨own_block h.own (fun k e => hb.block k (h.own.lt k e.symm).2 (h1 k e.symm)), fun x hx => ⟨(h.ok x hx).nm.but hb (fun hn => h2 _ (eisB_mem hx (eiB_nm hn))), (h.ok x hx).ty.but hb (fun b e => h2 b (eisB_mem hx (eiB_ty e))) (fun b e => h2 b (eisB_mem hx (eiB_zs e))), (h.ok x hx).is⟩⟩

/-- Two rows of different types lie in different blocks. -/
theorem own_two {w : World} {B B' n n' k k' : Nat} {v v' : Value} {xs xs' : List Value} {t t' : TypeId} (h : w.ownsRow B t k v n xs) (h' : w.ownsRow B' t' k' v' n' xs') (hne : t ≠ t') {b : Nat} (e : v.ownBlock = some b) : v'.ownBlock ≠ some b := fun e' => by
  rcases h.2 with ⟨rfl, _⟩ | ⟨g, cap, cur, rfl, _, hh, _⟩
  · cases e
  · rcases h'.2 with ⟨rfl, _⟩ | ⟨g', cap', cur', rfl, _, hh', _⟩
    · cases e'
    · have e1 : g = b := by simpa [Value.ownBlock] using e
      have e2 : g' = b := by simpa [Value.ownBlock] using e'
      subst e1 e2
      rw [hh] at hh'
      simp only [Option.some.injEq, Obj.cells.injEq] at hh'
      exact hne hh'.2.1

/-- The state of the record's loop (RT). -/
structure MRecT (w : World) (ts : List TK) (T : Nat → Option (List TI × Nat)) (sg : List UInt8) (R : Option (List TI × List ByteArray × Nat)) (f p : Nat) (ns : List ByteArray) (zs : List (TI × NPl)) (nv iv : Value) (wr : World) : Prop where
  below : Below w.heap.size w wr
  box : wr.rowIs w.heap.size 108 2 (v2 (.slice none 0 0) (.int .i64 0))
  names : wr.ownsRow (w.heap.size + 1) 9 1 nv ns.length (sts ns)
  items : RT (w.heap.size + 1) wr iv zs
  sep : ∀ b, nv.ownBlock = some b → b ∉ tisB zs
  is : R = fMid ts T sg f p ns (zs.map Prod.fst)
  fuel : ts.length + 1 ≤ f + p
  ple : p ≤ ts.length
  few : ns.length ≤ p ∧ zs.length ≤ p

theorem MRecT.on {w wr w1 : World} {ts : List TK} {T : Nat → Option (List TI × Nat)} {sg : List UInt8} {R : Option (List TI × List ByteArray × Nat)} {f p : Nat} {ns : List ByteArray} {zs : List (TI × NPl)} {nv iv : Value} (h : MRecT w ts T sg R f p ns zs nv iv wr) (hb : Below wr.heap.size wr w1) : MRecT w ts T sg R f p ns zs nv iv w1 :=
  ⟨h.below.trans (hb.mono h.below.size), h.box.of_block (hb.block _ h.box.lt), own_block h.names (fun k e => hb.block k (h.names.lt k e.symm).2), h.items.below hb, h.sep, h.is, h.fuel, h.ple, h.few⟩

/-- One more name. -/
theorem MRecT.name {w wr w5 : World} {ts : List TK} {T : Nat → Option (List TI × Nat)} {sg : List UInt8} {R : Option (List TI × List ByteArray × Nat)} {f p : Nat} {ns : List ByteArray} {zs : List (TI × NPl)} {nv iv : Value} {o : Obj} {gg cap3 : Nat} {s : ByteArray} (h : MRecT w ts T sg R f p ns zs nv iv wr)
    (hown : w5.ownsRow (w.heap.size + 1) 9 1 (.slice (some ⟨gg, 0, none⟩) (ns.length + 1) cap3) (ns.length + 1) (sts ns ++ [.string s])) (hg : (wr.alloc o).grownBy w5 nv.ownBlock) (hat : nv.ownBlock = some gg ∨ gg = wr.heap.size + 1) :
    Below w.heap.size w w5 ∧ w5.rowIs w.heap.size 108 2 (v2 (.slice none 0 0) (.int .i64 0)) ∧ w5.ownsRow (w.heap.size + 1) 9 1 (.slice (some ⟨gg, 0, none⟩) (ns.length + 1) cap3) (ns ++ [s]).length (sts (ns ++ [s])) ∧ RT (w.heap.size + 1) w5 iv zs ∧ gg ∉ tisB zs ∧ gg < w5.heap.size := by
  have hb := grown_but hg
  have hws := h.below.size
  have hxl := h.box.lt
  refine ⟨below_grown h.below hg (fun b e => by have := (h.names.lt b e).1; omega), h.box.of_block (hb.block _ hxl (by simp only [Option.mem_toList]; intro e; have := (h.names.lt _ e).1; omega)), by rw [sts_snoc, List.length_append]; exact hown, h.items.but hb (fun b e => by simp only [Option.mem_toList]; exact own_two h.items.own h.names (by decide) e) (fun b e => by simp only [Option.mem_toList]; intro z; exact h.sep b z e), ?_, (hown.lt gg rfl).2⟩
  rcases hat with q | q
  · exact h.sep gg q
  · intro z
    have := (h.items.lt z).2
    omega

/-- The state of the record's loop (RE). -/
structure MRecE (w : World) (ts : List TK) (T : Nat → Option (List EI × Nat)) (sg : List UInt8) (R : Option (List EI × List ByteArray × Nat)) (f p : Nat) (ns : List ByteArray) (zs : List (EI × EPl)) (nv iv : Value) (wr : World) : Prop where
  below : Below w.heap.size w wr
  box : wr.rowIs w.heap.size 111 2 (v2 (.slice none 0 0) (.int .i64 0))
  names : wr.ownsRow (w.heap.size + 1) 9 1 nv ns.length (sts ns)
  items : RE (w.heap.size + 1) wr iv zs
  sep : ∀ b, nv.ownBlock = some b → b ∉ eisB zs
  is : R = fMid ts T sg f p ns (zs.map Prod.fst)
  fuel : ts.length + 1 ≤ f + p
  ple : p ≤ ts.length
  few : ns.length ≤ p ∧ zs.length ≤ p

theorem MRecE.on {w wr w1 : World} {ts : List TK} {T : Nat → Option (List EI × Nat)} {sg : List UInt8} {R : Option (List EI × List ByteArray × Nat)} {f p : Nat} {ns : List ByteArray} {zs : List (EI × EPl)} {nv iv : Value} (h : MRecE w ts T sg R f p ns zs nv iv wr) (hb : Below wr.heap.size wr w1) : MRecE w ts T sg R f p ns zs nv iv w1 :=
  ⟨h.below.trans (hb.mono h.below.size), h.box.of_block (hb.block _ h.box.lt), own_block h.names (fun k e => hb.block k (h.names.lt k e.symm).2), h.items.below hb, h.sep, h.is, h.fuel, h.ple, h.few⟩

/-- One more name. -/
theorem MRecE.name {w wr w5 : World} {ts : List TK} {T : Nat → Option (List EI × Nat)} {sg : List UInt8} {R : Option (List EI × List ByteArray × Nat)} {f p : Nat} {ns : List ByteArray} {zs : List (EI × EPl)} {nv iv : Value} {o : Obj} {gg cap3 : Nat} {s : ByteArray} (h : MRecE w ts T sg R f p ns zs nv iv wr)
    (hown : w5.ownsRow (w.heap.size + 1) 9 1 (.slice (some ⟨gg, 0, none⟩) (ns.length + 1) cap3) (ns.length + 1) (sts ns ++ [.string s])) (hg : (wr.alloc o).grownBy w5 nv.ownBlock) (hat : nv.ownBlock = some gg ∨ gg = wr.heap.size + 1) :
    Below w.heap.size w w5 ∧ w5.rowIs w.heap.size 111 2 (v2 (.slice none 0 0) (.int .i64 0)) ∧ w5.ownsRow (w.heap.size + 1) 9 1 (.slice (some ⟨gg, 0, none⟩) (ns.length + 1) cap3) (ns ++ [s]).length (sts (ns ++ [s])) ∧ RE (w.heap.size + 1) w5 iv zs ∧ gg ∉ eisB zs ∧ gg < w5.heap.size := by
  have hb := grown_but hg
  have hws := h.below.size
  have hxl := h.box.lt
  refine ⟨below_grown h.below hg (fun b e => by have := (h.names.lt b e).1; omega), h.box.of_block (hb.block _ hxl (by simp only [Option.mem_toList]; intro e; have := (h.names.lt _ e).1; omega)), by rw [sts_snoc, List.length_append]; exact hown, h.items.but hb (fun b e => by simp only [Option.mem_toList]; exact own_two h.items.own h.names (by decide) e) (fun b e => by simp only [Option.mem_toList]; intro z; exact h.sep b z e), ?_, (hown.lt gg rfl).2⟩
  rcases hat with q | q
  · exact h.sep gg q
  · intro z
    have := (h.items.lt z).2
    omega

end Go.Proofs.YtdjkgilohhjfoaaGreatDoor
