/-
  Merged for the claim: VeA KnD VeB VeC.
-/
import Derived.Test.YtcehppndpccldaaDoorM5
import Derived.Maps.OwnSet
import Derived.DeepKeys4
import Derived.MapViews
import Derived.ProofKit
import Derived.Deep.RegionHeld3
import Derived.Deep.AppendLies
import Derived.Deep.RegionLaw
import Derived.StringKeys
namespace Go.Proofs.YtcehppndpccldaaDoor
open Go.RowKit

theorem em_list {s : ByteArray} (h : ¬ s.size = 0) : s.toList.isEmpty = false := by
  have e : s.toList = s.data.toList := Go.ByteArray.toList_eq s
  rw [e]
  cases hz : s.data.toList with
  | nil =>
    exfalso
    apply h
    show s.data.size = 0
    rw [← Array.length_toList, hz]
    rfl
  | cons x l => rfl

set_option maxRecDepth 100000 in
set_option maxHeartbeats 1000000 in
theorem p_goodPath (w : World) (md nm : ByteArray) (hm : md.size ≤ 1048576) (hn : nm.size ≤ 1048576) :
    Calls Tryd.prog 62 #[.string md, .string nm] w fun e w' => e = .returned (.bool (gPth md nm)) ∧ w' = w := by
  have C1 : Hid (Calls Tryd.prog 40 #[.string nm] w fun e w' => e = .returned (.bool (gn nm)) ∧ w' = w) := c40 nm w (by omega)
  have C2 : Hid (Calls Tryd.prog 40 #[.string md] w fun e w' => e = .returned (.bool (gn md)) ∧ w' = w) := c40 md w (by omega)
  obtain ⟨b, hb⟩ : ∃ b, b = gPth md nm := ⟨_, rfl⟩
  rw [← hb]
  unfold gPth at hb
  cases h1 : gn nm with
  | false =>
    rw [h1, Bool.false_and] at hb
    subst hb
    rw [h1] at C1
    clear h1 C2
    go_enter Tryd.func62, Tryd.ntmps62
    go_wp2_with (first | (go_at_call 40; refine C1.out.mono ?_; rintro e w2 ⟨rfl, rfl⟩))
    go_ret
    exact ⟨rfl, rfl⟩
  | true =>
    rw [h1, Bool.true_and] at hb
    rw [h1] at C1
    clear h1
    by_cases hz : md.size = 0
    · rw [decide_eq_true hz, Bool.true_or] at hb
      subst hb
      have me : md = ByteArray.empty := em_zero hz
      subst me
      clear hz C2
      go_enter Tryd.func62, Tryd.ntmps62
      go_wp2_with (first | (go_at_call 40; refine C1.out.mono ?_; rintro e w2 ⟨rfl, rfl⟩))
      go_ret
      exact ⟨rfl, rfl⟩
    · rw [decide_eq_false hz, Bool.false_or] at hb
      rw [← hb] at C2
      have me : md.toList.isEmpty = false := em_list hz
      clear hb hz
      cases b <;>
      · go_enter Tryd.func62, Tryd.ntmps62
        go_wp2_with fail
        refine C1.out.mono ?_
        rintro e w2 ⟨rfl, rfl⟩
        go_wp2_with fail
        refine C2.out.mono ?_
        rintro e w2 ⟨rfl, rfl⟩
        go_wp2
        go_ret
        exact ⟨rfl, rfl⟩

set_option maxRecDepth 100000 in
set_option maxHeartbeats 1000000 in
theorem p_printedPath (w : World) (md nm : ByteArray) (hm : md.size ≤ 1048576) (hn : nm.size ≤ 1048576) :
    Calls Tryd.prog 61 #[.string md, .string nm] w fun e w' => e = .returned (.string (pth md nm)) ∧ w' = w := by
  have HP : Hid (pth md nm = if md.size = 0 then nm else md ++ xColon ++ nm) := by show _ = _; rfl
  obtain ⟨r, hr⟩ : ∃ r, r = pth md nm := ⟨_, rfl⟩
  rw [← hr] at HP ⊢
  clear hr
  go_enter Tryd.func61, Tryd.ntmps61
  by_cases hz : md.size = 0
  · have HF : Hid (r = nm) := by show _ = _; rw [HP.out, if_pos hz]
    have me : md = ByteArray.empty := em_zero hz
    subst me
    clear HP hz
    go_wp2
    go_ret
    exact ⟨by rw [HF.out]; rfl, rfl⟩
  · have HF : Hid (r = md ++ (⟨#[58]⟩ : ByteArray) ++ nm) := by show _ = _; rw [HP.out, if_neg hz]; rfl
    have me : md.toList.isEmpty = false := em_list hz
    have s1 : (⟨#[58]⟩ : ByteArray).size = 1 := rfl
    have a1 := fun W => run_string_add_sum (P := Tryd.prog) (w := W) md (⟨#[58]⟩ : ByteArray) (by rw [s1]; omega)
    have a2 := fun W => run_string_add_sum (P := Tryd.prog) (w := W) (md ++ (⟨#[58]⟩ : ByteArray)) nm (by rw [ByteArray.size_append, s1]; omega)
    clear HP hz
    go_wp2
    go_ret
    exact ⟨by rw [HF.out]; rfl, rfl⟩

set_option maxRecDepth 100000 in
set_option maxHeartbeats 1000000 in
theorem p_printedBool (w : World) (n : Int) :
    Calls Tryd.prog 66 #[.int .i64 n] w fun e w' => e = .returned (.string (if n = 0 then xFalse else xTrue)) ∧ w' = w := by
  go_enter Tryd.func66, Tryd.ntmps66
  by_cases hz : n = 0
  · rw [if_pos hz]
    subst hz
    go_wp2
    go_ret
    exact ⟨rfl, rfl⟩
  · rw [if_neg hz]
    go_wp2
    go_ret
    exact ⟨rfl, rfl⟩

end Go.Proofs.YtcehppndpccldaaDoor

namespace Go.Proofs.YtcehppndpccldaaDoor
open Go.RowKit Go.Maps

/-- Nothing but these blocks has changed. -/
structure But (S : List Nat) (w w' : World) : Prop where
  os : w'.os = w.os
  tape : w'.tape = w.tape
  output : w'.output = w.output
  size : w.heap.size ≤ w'.heap.size
  block : ∀ k, k < w.heap.size → k ∉ S → w'.heap[k]? = w.heap[k]?
theorem But.refl (S : List Nat) (w : World) : But S w w := ⟨rfl, rfl, rfl, Nat.le_refl _, fun _ _ _ => rfl⟩
theorem But.trans {S S' : List Nat} {w w1 w2 : World} (h : But S w w1) (h' : But S' w1 w2) (hs : ∀ k, k ∈ S' → k < w.heap.size → k ∈ S) : But S w w2 :=
  ⟨h'.os.trans h.os, h'.tape.trans h.tape, h'.output.trans h.output, Nat.le_trans h.size h'.size, fun k hk hn => (h'.block k (Nat.lt_of_lt_of_le hk h.size) (fun z => hn (hs k z hk))).trans (h.block k hk hn)⟩
theorem But.then_ {S : List Nat} {w w1 w2 : World} (h : But S w w1) (h' : But S w1 w2) : But S w w2 := h.trans h' (fun _ z _ => z)
theorem But.below {S : List Nat} {w w1 w2 : World} (h : But S w w1) (hb : Below w1.heap.size w1 w2) : But S w w2 :=
  ⟨hb.os.trans h.os, hb.tape.trans h.tape, hb.output.trans h.output, Nat.le_trans h.size hb.size, fun k hk hn => (hb.block k (Nat.lt_of_lt_of_le hk h.size)).trans (h.block k hk hn)⟩
theorem But.set {S : List Nat} {w w1 : World} (h : But S w w1) {b : Nat} (hb : b < w.heap.size → b ∈ S) (o : Nat) (v : Value) : But S w (w1.setCell ⟨b, o, none⟩ v) :=
  ⟨h.os, h.tape, h.output, by rw [World.size_setCell]; exact h.size, fun k hk hn => (Below.heap_setCell _ _ _ _ (by show k ≠ b; rintro rfl; exact hn (hb hk))).trans (h.block k hk hn)⟩
theorem But.alloc {S : List Nat} {w w1 : World} (h : But S w w1) (o : Obj) : But S w (w1.alloc o) := h.below (bel1 _ _)
theorem But.more {S S' : List Nat} {w w1 : World} (h : But S w w1) (hs : ∀ k, k ∈ S → k ∈ S') : But S' w w1 := ⟨h.os, h.tape, h.output, h.size, fun k hk hn => h.block k hk (fun z => hn (hs k z))⟩
theorem But.cell {S : List Nat} {w w1 : World} (h : But S w w1) {b o : Nat} {v : Value} (hc : w.cell? ⟨b, o, none⟩ = some v) (hb : b ∉ S) : w1.cell? ⟨b, o, none⟩ = some v :=
  (World.cell?_of_block (h.block b (World.block_lt_of_cell? _ _ hc) hb)).trans hc


theorem Tryd.zero3 (w : World) : (zeroValue 3).run Tryd.prog w = .ok (.int .i64 0) w := by kernel_rfl
theorem Tryd.info9 : (Tryd.prog.info? 9).map (fun i => (i.zero, i.size, i.bytes)) = some (some (.string ByteArray.empty), 1, 16) := by kernel_rfl

/-- Some blocks are as they were, and nothing outside has turned. -/
structure Kept (keep : Nat → Prop) (w w' : World) : Prop where
  os : w'.os = w.os
  tape : w'.tape = w.tape
  output : w'.output = w.output
  size : w.heap.size ≤ w'.heap.size
  block : ∀ k, keep k → w'.heap[k]? = w.heap[k]?

theorem Kept.refl (keep : Nat → Prop) (w : World) : Kept keep w w := ⟨rfl, rfl, rfl, Nat.le_refl _, fun _ _ => rfl⟩
theorem Kept.trans {keep : Nat → Prop} {a b c : World} (h : Kept keep a b) (k : Kept keep b c) : Kept keep a c :=
  ⟨k.os.trans h.os, k.tape.trans h.tape, k.output.trans h.output, Nat.le_trans h.size k.size, fun i hi => (k.block i hi).trans (h.block i hi)⟩
theorem Kept.drewN {keep : Nat → Prop} {a b : World} (h : Kept keep a b) (n : Nat) : Kept keep a (b.drewN n) := ⟨h.os, h.tape, h.output, h.size, h.block⟩
theorem Kept.cell {keep : Nat → Prop} {w w' : World} (h : Kept keep w w') {a : Addr} (ha : keep a.block) : w'.cell? a = w.cell? a := World.cell?_of_block (w := w) (h.block a.block ha)
theorem Kept.frozen {keep : Nat → Prop} {w w' : World} (h : Kept keep w w') {a : Addr} (ha : keep a.block) : w'.frozen? a = w.frozen? a := World.frozen?_of_block (w := w) (h.block a.block ha)



theorem own_kept {w w' : World} {base : Nat} {e : TypeId} {size : Nat} {v : Value} {n : Nat} {xs : List Value} {row : Option Nat} (h : w.ownsRow base e size v n xs) (hg : w.grownBy w' row) (hne : ∀ k, row = some k → k < base) : w'.ownsRow base e size v n xs := by
  obtain ⟨h1, h2⟩ := h
  refine ⟨h1, ?_⟩
  rcases h2 with h2 | ⟨g, cap, cur, hv, hb, hh, r⟩
  · exact Or.inl h2
  · obtain ⟨hlt, _⟩ := Array.getElem?_eq_some_iff.1 hh
    exact Or.inr ⟨g, cap, cur, hv, hb, (hg.block g hlt (fun e => by have := hne g e.symm; omega)).trans hh, r⟩

theorem Tryd.law9 : Keyed Tryd.prog 9 := string_keyed Tryd.underlying9

theorem key_str {a : List UInt8} (ha : a.length ≤ maxLen) : keyOf Tryd.prog 9 (.string ⟨a.toArray⟩) = some (.string a) := by
  have := WideMaps.keyOf_string_mk (s := ⟨a.toArray⟩) Tryd.underlying9 (by show a.length ≤ maxLen; exact ha)
  simpa using this

/-- A number that is come to: known, or the next. -/
def addS (ord : List (List UInt8)) (a : List UInt8) : List (List UInt8) := if ord.contains a then ord else ord ++ [a]

def scells (ord : List (List UInt8)) : List Value := ord.map fun a => .string ⟨a.toArray⟩

structure KnS (w : World) (kb mb : Nat) (ov : Value) (D : DataW Unit) (ord : List (List UInt8)) (keep : Nat → Prop) : Prop where
  row : w.rowIs kb 129 2 (v2 (.map (some mb)) ov)
  mlt : mb < kb
  map : w.ownsMap Tryd.prog 9 (plainElem Tryd.prog 3) mb ord.length D
  has : ∀ a : List UInt8, a.length ≤ maxLen → Maps.has D (.string a) = ord.contains a
  val : ∀ a : List UInt8, a.length ≤ maxLen → a ∈ ord → D.atKey (.string a) (.lit (.int .i64 0)) = .lit (.int .i64 (ord.idxOf a : Int))
  own : w.ownsRow (kb + 1) 9 1 ov ord.length (scells ord)
  far : ∀ k, keep k → k < w.heap.size ∧ k ≠ kb ∧ k ≠ mb ∧ some k ≠ ov.ownBlock

set_option maxHeartbeats 1000000 in
theorem kn_new (w : World) (keep : Nat → Prop) (hk : ∀ k, keep k → k < w.heap.size) :
    Calls Tryd.prog 75 #[] w fun e w' => e = .returned (.pointer (some ⟨w.heap.size + 1, 0, none⟩)) ∧ KnS w' (w.heap.size + 1) w.heap.size (.slice none 0 0) (.map []) [] keep ∧ Kept keep w w' := by
  have hmm := @run_makeMap Tryd.prog
  go_enter Tryd.func75, Tryd.ntmps75
  go_wp2
  go_ret
  have R := row2 (w.alloc (.map #[] 0)) (.map (some w.heap.size)) (.slice none 0 0) 129
  simp only [World.size_alloc] at R
  refine ⟨rfl, ⟨R, by omega, (World.ownsMap_made w Tryd.prog 9 (plainElem Tryd.prog 3)).alloc _, fun a _ => rfl, fun a _ h => by simp at h, World.ownsRow_nil _ _ _ _, fun k h => ?_⟩, ?_⟩
  · have := hk k h
    exact ⟨by simp; omega, by omega, by omega, by simp [Value.ownBlock]⟩
  · have := bel2 w (.map #[] 0) (.cells #[.map (some w.heap.size), .slice none 0 0] 129)
    exact ⟨this.os, this.tape, this.output, this.size, fun k h => this.block k (hk k h)⟩

theorem look_str {w : World} {mb n : Nat} {D : DataW Unit} {a : List UInt8} (h : w.ownsMap Tryd.prog 9 (plainElem Tryd.prog 3) mb n D) (ha : a.length ≤ maxLen) :
    ∃ v : Int, (∀ m, (Instr.lookup 127 (.map (some mb)) (.string ⟨a.toArray⟩) true).run Tryd.prog (w.drewN m) = .ok (.tuple #[.int .i64 v, .bool (Maps.has D (.string a))]) (w.drewN m)) ∧ D.atKey (.string a) (.lit (.int .i64 0)) = .lit (.int .i64 v) := by
  have hz : plainElem (H := Unit) Tryd.prog 3 (.int .i64 0) = some (.lit (.int .i64 0), []) := plainElem_int Tryd.underlying3 (by decide)
  have each : ∀ m, ∃ v : Int, (Instr.lookup 127 (.map (some mb)) (.string ⟨a.toArray⟩) true).run Tryd.prog (w.drewN m) = .ok (.tuple #[.int .i64 v, .bool (Maps.has D (.string a))]) (w.drewN m) ∧ D.atKey (.string a) (.lit (.int .i64 0)) = .lit (.int .i64 v) := fun m => by
    have h' : (w.drewN m).ownsMap Tryd.prog 9 (plainElem Tryd.prog 3) mb n D := h
    obtain ⟨v, ps, hrun, hR⟩ := h'.look_ok Tryd.law9 Tryd.underlying127 (Tryd.zero3 _) hz (key_str ha)
    obtain ⟨x, rfl, hx, _⟩ := plainElem_int_inv Tryd.underlying3 hR
    simp only [Prod.mk.injEq] at hx
    exact ⟨x, hrun, hx.1⟩
  obtain ⟨v, _, hv⟩ := each 0
  refine ⟨v, fun m => ?_, hv⟩
  obtain ⟨v', hrun, hv'⟩ := each m
  rw [hv] at hv'
  simp only [DataW.lit.injEq, Lit.int.injEq, true_and] at hv'
  rw [hv']; exact hrun

theorem scells_snoc (ord : List (List UInt8)) (a : List UInt8) : scells (ord ++ [a]) = scells ord ++ [.string ⟨a.toArray⟩] := by simp [scells]

theorem kns_step {w w2 w3 : World} {kb mb : Nat} {oa : Option Addr} {cap gg cap3 : Nat} {D : DataW Unit} {ord : List (List UInt8)} {keep : Nat → Prop} {a : List UInt8} {o2 : Obj}
    (h : KnS w kb mb (.slice oa ord.length cap) D ord keep) (ha : a.length ≤ maxLen) (hc : ord.contains a = false)
    (hown2 : w2.ownsMap Tryd.prog 9 (plainElem Tryd.prog 3) mb (ord.length + 1) (D.put (.string a) (.lit (.int .i64 (ord.length : Int))))) (hg2 : w.grownBy w2 (some mb))
    (hown3 : w3.ownsRow (kb + 1) 9 1 (.slice (some ⟨gg, 0, none⟩) (ord.length + 1) cap3) (ord.length + 1) (scells ord ++ [.string ⟨a.toArray⟩]))
    (hg3 : (w2.alloc o2).grownBy w3 (Value.slice oa ord.length cap).ownBlock) (hat : (Value.slice oa ord.length cap).ownBlock = some gg ∨ gg = w2.heap.size + 1) :
    KnS (w3.setCell ⟨kb, 1, none⟩ (.slice (some ⟨gg, 0, none⟩) (ord.length + 1) cap3)) kb mb (.slice (some ⟨gg, 0, none⟩) (ord.length + 1) cap3) (D.put (.string a) (.lit (.int .i64 (ord.length : Int)))) (addS ord a) keep ∧
    Kept keep w (w3.setCell ⟨kb, 1, none⟩ (.slice (some ⟨gg, 0, none⟩) (ord.length + 1) cap3)) := by
  have hA : addS ord a = ord ++ [a] := by unfold addS; rw [hc]; rfl
  have hna : a ∉ ord := fun hm => by rw [List.contains_iff_mem.2 hm] at hc; cases hc
  have hs2 := hg2.size
  have hs3 := hg3.size
  have e3 : (w2.alloc o2).heap.size = w2.heap.size + 1 := by simp
  have hkl := h.row.lt
  have hml := h.mlt
  have n1 : some kb ≠ (Value.slice oa ord.length cap).ownBlock := fun e => by have := (h.own.lt kb e.symm).1; omega
  have nm : some mb ≠ (Value.slice oa ord.length cap).ownBlock := fun e => by have := (h.own.lt mb e.symm).1; omega
  have b3 : ∀ k, k < w2.heap.size → some k ≠ (Value.slice oa ord.length cap).ownBlock → w3.heap[k]? = w2.heap[k]? := fun k hk hn => (hg3.block k (by rw [e3]; omega) hn).trans (Below.heap_alloc _ _ _ hk)
  have rk : w3.rowIs kb 129 2 (v2 (.map (some mb)) (.slice oa ord.length cap)) :=
    h.row.of_block ((b3 kb (by omega) n1).trans (hg2.block kb (by omega) (fun e => by cases e; omega)))
  have hne : ∀ x : List UInt8, x ≠ a → (Lit.string x) ≠ Lit.string a := fun x q e => q (by simpa using e)
  rw [hA]
  refine ⟨⟨(rk.set 1 _).congr (fun i hi => ?_), h.mlt, ?_, fun x hx => ?_, fun x hx hm => ?_, ?_, fun k hk => ?_⟩, ?_⟩
  · match i, hi with
    | 0, _ => rfl
    | 1, _ => rfl
  · have hm : w3.ownsMap Tryd.prog 9 (plainElem Tryd.prog 3) mb (ord.length + 1) (D.put (.string a) (.lit (.int .i64 (ord.length : Int)))) := (hown2.alloc o2).kept hg3 nm
    have hm' := hm.setCell (a := ⟨kb, 1, none⟩) (by show mb ≠ kb; omega) (.slice (some ⟨gg, 0, none⟩) (ord.length + 1) cap3)
    simpa using hm'
  · by_cases q : x = a
    · subst q
      rw [Maps.has_put_same h.map.isMap (Tryd.law9.key (key_str hx))]
      simp
    · rw [Maps.has_put_other (hne x q), h.has x hx]
      rw [Bool.eq_iff_iff]
      simp only [List.contains_iff_mem, List.mem_append, List.mem_singleton]
      exact ⟨Or.inl, fun z => z.elim id (fun z => absurd z q)⟩
  · by_cases q : x = a
    · subst q
      rw [Maps.atKey_put_same h.map.isMap (Tryd.law9.key (key_str hx)), List.idxOf_append, if_neg hna]
      simp
    · rw [Maps.atKey_put_other (hne x q)]
      have hm' : x ∈ ord := by
        rcases List.mem_append.1 hm with z | z
        · exact z
        · simp at z; exact absurd z q
      rw [h.val x hx hm', List.idxOf_append, if_pos hm']
  · rw [scells_snoc]
    have := ownsRow_setCell_below hown3 (a := ⟨kb, 1, none⟩) (by show kb < kb + 1; omega) (.slice (some ⟨gg, 0, none⟩) (ord.length + 1) cap3)
    simpa using this
  · obtain ⟨f1, f2, f3, f4⟩ := h.far k hk
    refine ⟨by simp [World.setCell]; omega, f2, f3, ?_⟩
    rcases hat with hat | hat
    · rw [hat] at f4; simpa [Value.ownBlock] using f4
    · simp [Value.ownBlock]; omega
  · refine ⟨hg3.os.trans hg2.os, hg3.tape.trans hg2.tape, hg3.output.trans hg2.output, by simp [World.setCell]; omega, fun k hk => ?_⟩
    obtain ⟨f1, f2, f3, f4⟩ := h.far k hk
    rw [Below.heap_setCell _ _ _ _ (by show k ≠ kb; exact f2), b3 k (by omega) f4, hg2.block k f1 (fun e => by cases e; exact f3 rfl)]

set_option maxRecDepth 100000 in
set_option maxHeartbeats 4000000 in
theorem kn_number (kb mb : Nat) (ov : Value) (D : DataW Unit) (ord : List (List UInt8)) (keep : Nat → Prop) (a : List UInt8) (w : World) (h : KnS w kb mb ov D ord keep) (ha : a.length ≤ maxLen) (ho : ord.length ≤ 100000000) :
    Calls Tryd.prog 76 #[.pointer (some ⟨kb, 0, none⟩), .string ⟨a.toArray⟩] w fun e w' =>
      ∃ (ov' : Value) (D' : DataW Unit), e = .returned (.tuple #[.int .i64 ((addS ord a).idxOf a : Int), .bool (!ord.contains a)]) ∧ KnS w' kb mb ov' D' (addS ord a) keep ∧ Kept keep w w' := by
  obtain ⟨v, hlk, hat0⟩ := look_str h.map ha
  rw [h.has a ha] at hlk
  have hlk0 := hlk 0
  rw [World.drewN_zero] at hlk0
  obtain ⟨oa, cap, rfl⟩ := own_form h.own
  have c0 : w.cell? ⟨kb, 0, none⟩ = some (.map (some mb)) := h.row.cell (i := 0) (by omega)
  have c1 : w.cell? ⟨kb, 1, none⟩ = some (.slice oa ord.length cap) := h.row.cell (i := 1) (by omega)
  have HH : Hid (KnS w kb mb (.slice oa ord.length cap) D ord keep) := h
  have hkl := h.row.lt
  clear hlk
  cases hcon : ord.contains a
  · have HC : Hid (ord.contains a = false) := hcon
    have HX : Hid ((addS ord a).idxOf a = ord.length) := by
      have hna : a ∉ ord := fun hm => by rw [List.contains_iff_mem.2 hm] at hcon; cases hcon
      show (addS ord a).idxOf a = ord.length
      unfold addS; rw [hcon]
      simp [List.idxOf_append, hna]
    rw [hcon] at hlk0
    obtain ⟨i0, hi0, hz0, hz1, hz2⟩ := info_parts Tryd.info9
    obtain ⟨w2, hrun, hown2, hg2⟩ := h.map.update Tryd.law9 Tryd.underlying127 (by unfold maxLen; omega) (key_str ha) (plainElem_int Tryd.underlying3 (a := (ord.length : Int)) (WalkArith.wf_i64 (by omega)))
    have hml := h.mlt
    have hs2 := hg2.size
    have OWN : w2.ownsRow (kb + 1) 9 1 (.slice oa ord.length cap) ord.length (scells ord) := own_kept h.own hg2 (fun k e => by cases e; omega)
    have r2 : w2.rowIs kb 129 2 (v2 (.map (some mb)) (.slice oa ord.length cap)) := h.row.of_block (hg2.block kb hkl (fun e => by cases e; omega))
    have d1 : w2.cell? ⟨kb, 1, none⟩ = some (.slice oa ord.length cap) := r2.cell (i := 1) (by omega)
    have n1 : some kb ≠ (Value.slice oa ord.length cap).ownBlock := fun e => by have := (h.own.lt kb e.symm).1; omega
    have d1' := (r2.alloc (.cells #[.string ⟨a.toArray⟩] 9)).cell (i := 1) (by omega)
    have d2' := (r2.alloc (.cells #[.string ⟨a.toArray⟩] 9)).frozen 1
    have hbs : kb + 1 ≤ w2.heap.size := by omega
    clear hcon h hat0
    go_enter Tryd.func76, Tryd.ntmps76
    go_wp2_with (first | (at_builtin; refine wpList_append_lies _ rfl _ _ 64 rfl (kb + 1) 9 i0 (.string ByteArray.empty) 1 16 Tryd.underlying64 hi0 hz0 hz1 hz2 rfl (by omega) (.slice oa ord.length cap) ord.length (scells ord) rfl (OWN.alloc _) ⟨w2.heap.size, 0, none⟩ 1 1 [.string ⟨a.toArray⟩] rfl rfl (cell_one_new _ _ _) (by simp [Value.oneCell']) (by omega) (by unfold maxLen; omega) (by omega) (by simp; omega) (w2.heap.size + 1) (by simp) ?_; intro gg cap3 w3 hown3 hg3 hat hlt3; have f1 : w3.cell? ⟨kb, 1, none⟩ = some (.slice oa ord.length cap) := (hg3.cell_far ⟨kb, 1, none⟩ (by simp; omega) n1).trans d1'; have f2 : w3.frozen? ⟨kb, 1, none⟩ = false := (hg3.frozen_far ⟨kb, 1, none⟩ (by simp; omega) n1).trans d2'))
    have FIN := kns_step HH.out ha HC.out hown2 hg2 hown3 hg3 hat
    clear hown2 hg2 hown3 hg3 hat OWN r2 d1 d1' d2' hrun hlk0
    go_wp2
    go_ret2
    refine ⟨_, _, ?_, FIN.1, FIN.2⟩
    rw [HX.out]; rfl
  · have hm : a ∈ ord := by simpa using hcon
    have HA : Hid (addS ord a = ord) := by show (if ord.contains a then ord else _) = ord; rw [if_pos hcon]
    have HX : Hid (v = (ord.idxOf a : Int)) := by
      have := HH.out.val a ha hm
      rw [hat0] at this
      show v = (ord.idxOf a : Int)
      simpa using this
    rw [hcon] at hlk0
    clear hcon h hat0 hm
    go_enter Tryd.func76, Tryd.ntmps76
    go_wp2
    go_ret2
    refine ⟨.slice oa ord.length cap, D, ?_, ?_, Kept.refl _ _⟩
    · rw [HA.out, ← HX.out]; rfl
    · rw [HA.out]; exact HH.out

/-- The same, with nothing said of other blocks. -/
def KnT (w : World) (kb mb : Nat) (ov : Value) (ord : List (List UInt8)) : Prop := ∃ D, KnS w kb mb ov D ord (fun _ => False)

theorem KnT.ids {w : World} {kb mb : Nat} {ov : Value} {ord : List (List UInt8)} (h : KnT w kb mb ov ord) : mb < kb ∧ kb < w.heap.size ∧ ∀ b, ov.ownBlock = some b → kb < b ∧ b < w.heap.size := by
  obtain ⟨D, h⟩ := h
  exact ⟨h.mlt, h.row.lt, fun b e => ⟨by have := (h.own.lt b e).1; omega, (h.own.lt b e).2⟩⟩

theorem KnT.but {S : List Nat} {w w' : World} {kb mb : Nat} {ov : Value} {ord : List (List UInt8)} (h : KnT w kb mb ov ord) (hb : But S w w') (h1 : kb ∉ S) (h2 : mb ∉ S) (h3 : ∀ b, ov.ownBlock = some b → b ∉ S) : KnT w' kb mb ov ord := by
  obtain ⟨D, h⟩ := h
  refine ⟨D, h.row.of_block (hb.block kb h.row.lt h1), h.mlt, ?_, h.has, h.val, ?_, fun k hk => hk.elim⟩
  · obtain ⟨es, clock, he, F, hn, hD⟩ := h.map
    have hlt := h.map.lt
    exact ⟨es, clock, (hb.block mb hlt h2).trans he, F, hn, hD⟩
  · exact own_block h.own (fun k e => hb.block k (h.own.lt k e.symm).2 (h3 k e.symm))

theorem KnS.all {w : World} {kb mb : Nat} {ov : Value} {D : DataW Unit} {ord : List (List UInt8)} {keep : Nat → Prop} (h : KnS w kb mb ov D ord keep) : KnS w kb mb ov D ord (fun k => k < w.heap.size ∧ k ≠ kb ∧ k ≠ mb ∧ some k ≠ ov.ownBlock) :=
  ⟨h.row, h.mlt, h.map, h.has, h.val, h.own, fun _ hk => hk⟩

theorem kt_new (w : World) : Calls Tryd.prog 75 #[] w fun e w' => e = .returned (.pointer (some ⟨w.heap.size + 1, 0, none⟩)) ∧ KnT w' (w.heap.size + 1) w.heap.size (.slice none 0 0) [] ∧ But [] w w' := by
  refine (kn_new w (fun k => k < w.heap.size) (fun _ h => h)).mono ?_
  rintro e w' ⟨he, hk, hp⟩
  exact ⟨he, ⟨_, hk.row, hk.mlt, hk.map, hk.has, hk.val, hk.own, fun _ h => h.elim⟩, ⟨hp.os, hp.tape, hp.output, hp.size, fun k hk _ => hp.block k hk⟩⟩

theorem kt_number (kb mb : Nat) (ov : Value) (ord : List (List UInt8)) (a : List UInt8) (w : World) (h : KnT w kb mb ov ord) (ha : a.length ≤ maxLen) (ho : ord.length ≤ 100000000) :
    Calls Tryd.prog 76 #[.pointer (some ⟨kb, 0, none⟩), .string ⟨a.toArray⟩] w fun e w' =>
      ∃ (x : Int) (ov' : Value), e = .returned (.tuple #[.int .i64 x, .bool (!ord.contains a)]) ∧ KnT w' kb mb ov' (addS ord a) ∧ But (kb :: mb :: ov.ownBlock.toList) w w' ∧ ∀ b, ov'.ownBlock = some b → ov.ownBlock = some b ∨ w.heap.size ≤ b := by
  obtain ⟨D, h⟩ := h
  refine (kn_number kb mb ov D ord _ a w h.all ha ho).mono ?_
  rintro e w' ⟨ov', D', he, hk, hp⟩
  refine ⟨_, ov', he, ⟨D', hk.row, hk.mlt, hk.map, hk.has, hk.val, hk.own, fun _ h => h.elim⟩, ⟨hp.os, hp.tape, hp.output, hp.size, fun k hk hn => hp.block k ⟨hk, fun e => hn (by simp [e]), fun e => hn (by simp [e]), fun e => hn (by simp [← e])⟩⟩, fun b e => ?_⟩
  by_cases hb : b < w.heap.size
  · by_cases h2 : some b = ov.ownBlock
    · exact Or.inl h2.symm
    · have h3 := (hk.own.lt b e).1
      have := hk.mlt
      exact absurd e.symm (hk.far b ⟨hb, by omega, by omega, h2⟩).2.2.2
  · exact Or.inr (by omega)

end Go.Proofs.YtcehppndpccldaaDoor

namespace Go.Proofs.YtcehppndpccldaaDoor
open Go.RowKit

theorem has_contains (ns : List ByteArray) (x : ByteArray) : (ns.map fun s => s.data.toList).contains x.data.toList = hasN ns x := by
  unfold hasN
  induction ns with
  | nil => rfl
  | cons y ns ih =>
    rw [List.map_cons, List.contains_cons, List.any_cons, ih]
    congr 1
    exact Bool.eq_iff_iff.2 ⟨fun h => beq_iff_eq.2 (beq_iff_eq.1 h).symm, fun h => beq_iff_eq.2 (beq_iff_eq.1 h).symm⟩
theorem But.to_below {S : List Nat} {N : Nat} {w w1 w2 : World} (h : Below N w w1) (hb : But S w1 w2) (hs : ∀ k, k ∈ S → N ≤ k) (hN : N ≤ w1.heap.size) : Below N w w2 :=
  ⟨hb.os.trans h.os, hb.tape.trans h.tape, hb.output.trans h.output, Nat.le_trans h.size hb.size, fun k hk => (hb.block k (by omega) (fun z => by have := hs k z; omega)).trans (h.block k hk)⟩

set_option maxRecDepth 100000 in
set_option maxHeartbeats 2000000 in
theorem p_different (w : World) {p : NPl} {ns : List ByteArray} (h : NsA w p ns) (hl : ns.length ≤ 1048576) (hs : ∀ k, k < ns.length → (ns.getD k e0).size ≤ 1048576) {n : Nat} (hn : n = ns.length) (hc : n ≤ p.c) :
    Calls Tryd.prog 64 #[.slice p.a n p.c] w fun e w' => e = .returned (.bool (nmOk ns)) ∧ Below w.heap.size w w' := by
  have HC : Hid (∀ W, Below w.heap.size w W → ∀ k, k < n → p.a = some ⟨p.b, 0, none⟩ ∧ W.cell? ⟨p.b, k, none⟩ = some (.string (ns.getD k e0)) ∧ (ns.getD k e0).size ≤ 1048576) := fun W hb k hk => ⟨h.at_ (by omega), (h.below hb).cell k (by omega), hs k (by omega)⟩
  have hl2 : n ≤ 1048576 := by omega
  obtain ⟨b, hb⟩ : ∃ b, b = nmOk ns := ⟨_, rfl⟩
  have HB : Hid (b = (List.range n).all fun i => gn (ns.getD i e0) && !hasN (ns.take i) (ns.getD i e0)) := by show _ = _; rw [hb, hn]; rfl
  have HTK : Hid (∀ k, k < n → ns.take (k + 1) = ns.take k ++ [ns.getD k e0] ∧ (ns.take k).length ≤ 1048576) := fun k hk => by
    rw [List.take_add_one, List.getElem?_eq_getElem (by omega), List.getD_eq_getElem?_getD, List.getElem?_eq_getElem (by omega), List.length_take]
    exact ⟨rfl, by omega⟩
  have CN : Hid (∀ (W : World) (ov : Value) (k : Nat), k < n → KnT W (w.heap.size + 1) w.heap.size ov ((ns.take k).map fun s => s.data.toList) → (ns.getD k e0).size ≤ 1048576 → Below w.heap.size w W → Calls Tryd.prog 76 #[.pointer (some ⟨w.heap.size + 1, 0, none⟩), .string (ns.getD k e0)] W fun e w' => ∃ (x : Int) (ov' : Value), e = .returned (.tuple #[.int .i64 x, .bool (!hasN (ns.take k) (ns.getD k e0))]) ∧ (hasN (ns.take k) (ns.getD k e0) = false → Hid (KnT w' (w.heap.size + 1) w.heap.size ov' ((ns.take (k + 1)).map fun s => s.data.toList))) ∧ Hid (Below w.heap.size w w')) := fun W ov k hk K sz hW => by
    have t := HTK.out k hk
    have C := kt_number (w.heap.size + 1) w.heap.size ov ((ns.take k).map fun s => s.data.toList) (ns.getD k e0).data.toList W K (by
      rw [Array.length_toList]
      show (ns.getD k e0).size ≤ _
      exact Nat.le_trans sz (by decide)) (by rw [List.length_map]; omega)
    have e1 : (⟨(ns.getD k e0).data.toList.toArray⟩ : ByteArray) = ns.getD k e0 := by rw [Array.toArray_toList]
    rw [e1, has_contains] at C
    refine C.mono ?_
    rintro e w' ⟨x, ov', h1, h2, h3, h4⟩
    refine ⟨x, ov', h1, fun hf => ?_, ?_⟩
    · show KnT _ _ _ _ _
      unfold addS at h2
      rw [has_contains, hf] at h2
      rw [t.1, List.map_append]
      exact h2
    · refine h3.to_below hW (fun j hj => ?_) hW.size
      rcases List.mem_cons.1 hj with e | hj
      · omega
      rcases List.mem_cons.1 hj with e | hj
      · omega
      have := (K.ids.2.2 j (by simpa using hj)).1
      omega
  have HNW : Hid (Calls Tryd.prog 75 #[] w fun e w' => e = .returned (.pointer (some ⟨w.heap.size + 1, 0, none⟩)) ∧ Hid (KnT w' (w.heap.size + 1) w.heap.size (.slice none 0 0) []) ∧ Hid (Below w.heap.size w w')) := (kt_new w).mono fun e w' h => ⟨h.1, h.2.1, h.2.2.to_below (Below.refl _ _) (by simp) (Nat.le_refl _)⟩
  have HG : Hid (∀ (W : World) (x : ByteArray), x.size ≤ 1048576 → Calls Tryd.prog 40 #[.string x] W fun e w' => e = .returned (.bool (gn x)) ∧ w' = W) := fun W x hx => c40 x W (by omega)
  rw [← hb]
  clear h hs hn hb hl
  go_enter Tryd.func64, Tryd.ntmps64
  go_wp2_with fail
  refine HNW.out.mono ?_
  rintro e w1 ⟨rfl, HK, HW⟩
  clear HNW
  go_wp2
  go_loopw [11] (fun i wr => ∃ (k : Nat) (ov : Value), k ≤ n ∧ i = .int .i64 k ∧ Hid (KnT wr (w.heap.size + 1) w.heap.size ov ((ns.take k).map fun s => s.data.toList)) ∧ Hid (∀ j, j < k → (gn (ns.getD j e0) && !hasN (ns.take j) (ns.getD j e0)) = true) ∧ Hid (Below w.heap.size w wr)) (fun i _ => n - (intOf i).toNat)
  case atStart => exact ⟨0, _, Nat.zero_le _, rfl, HK, fun j hj => absurd hj (Nat.not_lt_zero _), HW⟩
  case round =>
    clear HK HW
    obtain ⟨k, ov, hk, rfl, HK, HA, HW⟩ := hrel
    by_cases hlt : k < n
    · obtain ⟨ea, y0, sx⟩ := HC.out wr HW.out k hlt
      have C1 := CN.out wr ov k hlt HK.out sx HW.out
      obtain ⟨x, hx⟩ : ∃ x, x = ns.getD k e0 := ⟨_, rfl⟩
      rw [← hx] at y0 sx C1
      rw [ea]
      have hkl : (k : Int) < (n : Int) := by omega
      have hk0 : (0 : Int) ≤ (k : Int) := by omega
      cases ht : hasN (ns.take k) x with
      | true =>
        have HR : Hid (false = b) := by show _ = _; rw [HB.out, all_upto k hlt (by rw [← hx, ht]; simp)]
        rw [ht] at C1
        clear hx ea CN HK
        go_wp2_with fail
        refine C1.mono ?_
        rintro e w2 ⟨x2, ov2, rfl, -, HW2⟩
        clear C1
        go_wp2
        go_ret
        exact ⟨by rw [← HR.out]; rfl, HW2.out⟩
      | false =>
        rw [ht] at C1
        have G := fun W => HG.out W x sx
        cases hg : gn x with
        | false =>
          have HR : Hid (false = b) := by show _ = _; rw [HB.out, all_upto k hlt (by rw [← hx, hg]; rfl)]
          rw [hg] at G
          clear hx ea CN HK
          go_wp2_with fail
          refine C1.mono ?_
          rintro e w2 ⟨x2, ov2, rfl, -, HW2⟩
          have G2 := G w2
          clear C1 G
          go_wp2_with fail
          refine G2.mono ?_
          rintro e w3 ⟨rfl, rfl⟩
          clear G2
          go_wp2
          go_ret
          exact ⟨by rw [← HR.out]; rfl, HW2.out⟩
        | true =>
          have HR : Hid ((gn (ns.getD k e0) && !hasN (ns.take k) (ns.getD k e0)) = true) := by show _ = _; rw [← hx, hg, ht]; rfl
          rw [hg] at G
          clear hx ea CN HK
          go_wp2_with fail
          refine C1.mono ?_
          rintro e w2 ⟨x2, ov2, rfl, HK2, HW2⟩
          have HK3 := HK2 trivial
          have G2 := G w2
          clear C1 G HK2
          go_wp2_with fail
          refine G2.mono ?_
          rintro e w3 ⟨rfl, rfl⟩
          clear G2
          go_wp2
          go_roundw
          case rel =>
            refine ⟨k + 1, ov2, by omega, by go_num, HK3, fun j hj => ?_, HW2⟩
            by_cases e : j = k
            · rw [e]; exact HR.out
            · exact HA.out j (by omega)
          case measure => simp [intOf]; omega
    · have hkn : k = n := by omega
      subst hkn
      have HR : Hid (true = b) := by show _ = _; rw [HB.out]; exact (List.all_eq_true.2 fun j hj => HA.out j (List.mem_range.1 hj)).symm
      go_wp2
      go_ret
      exact ⟨by rw [← HR.out]; rfl, HW.out⟩

end Go.Proofs.YtcehppndpccldaaDoor

namespace Go.Proofs.YtcehppndpccldaaDoor
open Go.RowKit

/-- Printed parts that lie from the cell o of the block g on. -/
structure WhA (w : World) (a : Option Addr) (g o : Nat) (ps : List Wh) : Prop where
  at_ : 0 < ps.length → a = some ⟨g, o, none⟩
  txt : ∀ k (h : k < ps.length), w.cell? ⟨g, o + k * 2, none⟩ = some (.string ps[k].1)
  lev : ∀ k (h : k < ps.length), w.cell? ⟨g, o + k * 2 + 1, none⟩ = some (.int .i64 (ps[k].2 : Int))
theorem WhA.below {w w' : World} {a : Option Addr} {g o : Nat} {ps : List Wh} (h : WhA w a g o ps) (hb : Below w.heap.size w w') : WhA w' a g o ps :=
  ⟨h.at_, fun k hk => (hb.cell (p := ⟨g, o + k * 2, none⟩) (World.block_lt_of_cell? _ _ (h.txt k hk))).trans (h.txt k hk), fun k hk => (hb.cell (p := ⟨g, o + k * 2 + 1, none⟩) (World.block_lt_of_cell? _ _ (h.lev k hk))).trans (h.lev k hk)⟩
theorem szW_next {ps : List Wh} {k : Nat} (hk : k < ps.length) : szW (ps.take (k + 1)) = szW (ps.take k) + ps[k].1.size := by
  rw [List.take_add_one, List.getElem?_eq_getElem hk, szW_app]
  show _ + szW [ps[k]] = _
  rw [szW_one]
theorem szW_part (ps : List Wh) (k : Nat) : szW (ps.take k) ≤ szW ps := by have := szW_take ps k; omega

set_option maxRecDepth 100000 in
set_option maxHeartbeats 2000000 in
theorem p_sizeOf (w : World) {a : Option Addr} {g o c : Nat} {ps : List Wh} (h : WhA w a g o ps) (hl : ps.length ≤ 1048576) (hs : szW ps ≤ 1000000000) {n : Nat} (hn : n = ps.length) (hc : n ≤ c) :
    Calls Tryd.prog 60 #[.slice a n c] w fun e w' => e = .returned (.int .i64 (szW ps : Int)) ∧ Below w.heap.size w w' := by
  have HH : Hid (∀ W, Below w.heap.size w W → WhA W a g o ps) := fun W hb => h.below hb
  have HN : Hid (n = ps.length) := hn
  have hnl : n ≤ 1048576 := by omega
  have HS : Hid (∀ k (hk : k < ps.length), szW (ps.take (k + 1)) = szW (ps.take k) + ps[k].1.size ∧ szW (ps.take (k + 1)) ≤ 1000000000) := fun k hk => ⟨szW_next hk, Nat.le_trans (szW_part ps _) hs⟩
  have HE : Hid (szW (ps.take n) = szW ps) := by show _ = _; rw [hn, List.take_length]
  obtain ⟨R, hR⟩ : ∃ R, R = szW ps := ⟨_, rfl⟩
  rw [← hR] at HE ⊢
  clear h hl hs hn hR
  go_enter Tryd.func60, Tryd.ntmps60
  go_wp2
  go_loopw [3, 8] (fun s i wr => ∃ k m : Nat, k ≤ n ∧ i = .int .i64 k ∧ s = .int .i64 m ∧ Hid (m = szW (ps.take k)) ∧ Hid (Below w.heap.size w wr)) (fun _ i _ => n - (intOf i).toNat)
  case atStart => exact ⟨0, 0, Nat.zero_le _, rfl, rfl, rfl, Below.refl _ _⟩
  case round =>
    obtain ⟨k, m, hk, rfl, rfl, HM, HW⟩ := hrel
    by_cases hlt : k < n
    · have hlp : k < ps.length := by have := HN.out; omega
      have W1 := HH.out wr HW.out
      have ea := W1.at_ (by omega)
      have y0 := W1.txt k hlp
      have y1 := W1.lev k hlp
      obtain ⟨s1, s2⟩ := HS.out k hlp
      rw [← HM.out] at s1
      obtain ⟨X, hX⟩ : ∃ X, X = ps[k] := ⟨_, rfl⟩
      rw [← hX] at y0 y1 s1
      have HM2 : Hid (m + X.1.size = szW (ps.take (k + 1))) := s1.symm
      have hb : m + X.1.size ≤ 1000000000 := by omega
      have hkl : (k : Int) < (n : Int) := by omega
      have hk0 : (0 : Int) ≤ (k : Int) := by omega
      have a1 : IntKind.i64.wrap ((m : Int) + (X.1.size : Int)) = (m : Int) + (X.1.size : Int) := by rw [IntKind.wrap_i64]; omega
      rw [ea]
      clear W1 ea hX s1 s2
      go_wp2
      go_roundw
      case rel => exact ⟨k + 1, m + X.1.size, by omega, by go_num, by congr 1, HM2, HW.out.alloc HW.out.size _⟩
      case measure => simp [intOf]; omega
    · have hkn : k = n := by omega
      subst hkn
      have HF : Hid (m = R) := by show _ = _; rw [HM.out, HE.out]
      go_wp2
      go_ret
      exact ⟨by rw [← HF.out]; rfl, HW.out⟩

end Go.Proofs.YtcehppndpccldaaDoor

