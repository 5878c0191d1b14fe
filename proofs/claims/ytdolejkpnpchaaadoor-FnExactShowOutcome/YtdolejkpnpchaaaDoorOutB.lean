/-
  Outcomes as text: bytes that are put behind others, in the model.
-/
import Derived.Test.YtdolejkpnpchaaaDoorOutA
import Derived.Deep.AppendLies
import Derived.Laws.OwnMore
import Derived.Deep.OwnRows
namespace Go.Proofs.YtdolejkpnpchaaaDoor
open Go.RowKit

/-- A byte; 0 behind the end. -/
def bt_ (s : ByteArray) (i : Nat) : Int := ((s.data[i]?.getD 0).toNat : Int)
theorem bt_at (s : ByteArray) (i : Nat) (h : i < s.size) : ((s[i]'h).toNat : Int) = bt_ s i := by
  unfold bt_
  have h2 : i < s.data.size := h
  rw [Array.getElem?_eq_getElem h2]
  rfl
/-- The bytes as values. -/
def bl (x : ByteArray) : List Value := x.data.toList.map fun b => Value.int .u8 (b.toNat : Int)
theorem bl_len (x : ByteArray) : (bl x).length = x.size := by unfold bl; rw [List.length_map]; rfl
theorem bl_step (x s : ByteArray) (k : Nat) (h : k < s.size) : bl (x ++ s.extract 0 (k + 1)) = bl (x ++ s.extract 0 k) ++ [.int .u8 (bt_ s k)] := by
  have h2 : k < s.data.size := h
  have h3 : k < s.data.toList.length := h2
  unfold bl bt_
  rw [ByteArray.data_append, ByteArray.data_append, ByteArray.data_extract, ByteArray.data_extract, Array.toList_append, Array.toList_append, Array.toList_extract, Array.toList_extract, Array.getElem?_eq_getElem h2]
  simp only [List.extract_eq_take_drop, List.drop_zero, Nat.sub_zero, List.map_append, List.append_assoc]
  rw [List.take_succ_eq_append_getElem h3, List.map_append]
  rfl

/-- Bytes in memory of one's own. -/
def Own5 (w : World) (base : Nat) (v : Value) (x : ByteArray) : Prop := w.ownsRow base 5 1 v x.size (bl x)

theorem Tryd.info5 : (Tryd.prog.info? 5).map (fun i => (i.zero, i.size, i.bytes)) = some (some (.int .u8 0), 1, 1) := by kernel_rfl
theorem info_parts5 {o : Option TypeInfo} {z : Value} {s b : Nat} (h : o.map (fun i => (i.zero, i.size, i.bytes)) = some (some z, s, b)) : ∃ i, o = some i ∧ i.zero = some z ∧ i.size = s ∧ i.bytes = b := by
  obtain ⟨i, hi, hzz⟩ := Option.map_eq_some_iff.1 h
  simp only [Prod.mk.injEq] at hzz
  exact ⟨i, hi, hzz.1, hzz.2.1, hzz.2.2⟩
theorem own_form5 {w : World} {base : Nat} {v : Value} {x : ByteArray} (h : Own5 w base v x) : ∃ oa cap, v = .slice oa x.size cap := by
  rcases h.2 with ⟨rfl, h0⟩ | ⟨g, cap, _, rfl, _⟩
  · exact ⟨none, 0, by rw [h0]⟩
  · exact ⟨_, cap, rfl⟩
theorem below_grown5 {base : Nat} {w W W' : World} {v : Value} {l : ByteArray} (hbw : base ≤ W.heap.size) (hb : Below base w W) (ho : Own5 W base v l) {o : Obj} (hg : (W.alloc o).grownBy W' v.ownBlock) : Below base w W' := by
  have hs := hg.size
  have hws := hb.size
  refine ⟨hg.os.trans hb.os, hg.tape.trans hb.tape, hg.output.trans hb.output, by simp at hs; omega, fun x hx => ?_⟩
  have hx2 : x < W.heap.size := by omega
  rw [hg.block x (by simp; omega) (fun e => by have := (ho.lt x e.symm).1; omega)]
  rw [Below.heap_alloc _ _ _ hx2, hb.block x hx]

/-- What putting leaves: all old blocks but the row's own; where the new row lies. -/
def Put (w w' : World) (v0 v : Value) : Prop := w.grownBy w' v0.ownBlock ∧ ∀ b, v.ownBlock = some b → v0.ownBlock = some b ∨ w.heap.size ≤ b
theorem Put.refl (w : World) (v : Value) : Put w w v v := ⟨⟨rfl, rfl, rfl, Nat.le_refl _, fun _ _ _ => rfl⟩, fun _ h => Or.inl h⟩
theorem Put.below {w w' : World} {v0 v : Value} {base : Nat} {x : ByteArray} (h : Put w w' v0 v) (hb : base ≤ w.heap.size) (ho : Own5 w base v0 x) : Below base w w' :=
  (Below.refl base w).grown h.1 hb (fun k hk => (ho.lt k hk).1)
theorem Put.step {w wr w3 : World} {v0 v : Value} {o : Obj} {gg l c : Nat} (h : Put w wr v0 v) (hg : (wr.alloc o).grownBy w3 v.ownBlock) (hat : v.ownBlock = some gg ∨ gg = wr.heap.size + 1) : Put w w3 v0 (.slice (some ⟨gg, 0, none⟩) l c) := by
  have hs := hg.size
  have hs0 := h.1.size
  simp at hs
  refine ⟨⟨hg.os.trans h.1.os, hg.tape.trans h.1.tape, hg.output.trans h.1.output, by omega, fun k hk hne => ?_⟩, fun b hb => ?_⟩
  · rw [hg.block k (by simp; omega) (fun e => ?_), Below.heap_alloc _ _ _ (by omega), h.1.block k hk hne]
    rcases h.2 k e.symm with h' | h'
    · exact hne h'.symm
    · omega
  · have hb' : gg = b := by simpa [Value.ownBlock] using hb
    subst hb'
    rcases hat with h' | h'
    · exact h.2 _ h'
    · right; omega

theorem ext_size (s : ByteArray) (k : Nat) (h : k ≤ s.size) : (s.extract 0 k).size = k := by rw [ByteArray.size_extract]; omega
theorem ext_all (s : ByteArray) : s.extract 0 s.size = s := by simp
theorem ext_none (x s : ByteArray) : x ++ s.extract 0 0 = x := by simp

set_option maxRecDepth 100000 in
set_option maxHeartbeats 2000000 in
theorem m_put (v0 : Value) (x s : ByteArray) (base : Nat) (w : World) (hbase : base ≤ w.heap.size) (hx : Own5 w base v0 x) (hs : x.size + s.size ≤ 140000000000000) :
    Calls Tryd.prog 12 #[v0, .string s] w fun e w' => ∃ v, e = .returned v ∧ Own5 w' base v (x ++ s) ∧ Put w w' v0 v := by
  obtain ⟨i0, hi0, hz0, hz1, hz2⟩ := info_parts5 Tryd.info5
  have O0 : Hid (Own5 w base v0 (x ++ s.extract 0 0)) := by rw [ext_none]; exact hx
  have HBS : Hid (base ≤ w.heap.size) := hbase
  clear hx
  go_enter Tryd.func12, Tryd.ntmps12
  go_wp2
  go_loopw [0, 5] (fun v i wr => ∃ k : Nat, k ≤ s.size ∧ i = .int .i64 (k : Int) ∧ Hid (Own5 wr base v (x ++ s.extract 0 k)) ∧ Hid (Put w wr v0 v)) (fun _ i _ => s.size - (intOf i).toNat)
  case atStart => exact ⟨0, Nat.zero_le _, rfl, O0, Put.refl _ _⟩
  case round =>
    obtain ⟨k, hk, rfl, HO, HB⟩ := hrel
    clear O0
    by_cases hlt : k < s.size
    · have hb := bt_at s k hlt
      obtain ⟨d, hd⟩ : ∃ d, d = bt_ s k := ⟨_, rfl⟩
      rw [← hd] at hb
      have hw : IntKind.i64.wrap ((k : Int) + 1) = (k : Int) + 1 := by rw [IntKind.wrap_i64]; omega
      have HS := bl_step x s k hlt
      rw [← hd] at HS
      have z1 : (x ++ s.extract 0 k).size = x.size + k := by rw [ByteArray.size_append, ext_size s k hk]
      have z2 : (x ++ s.extract 0 (k + 1)).size = x.size + k + 1 := by rw [ByteArray.size_append, ext_size s (k + 1) hlt]; omega
      obtain ⟨L, hL⟩ : ∃ L, L = bl (x ++ s.extract 0 k) := ⟨_, rfl⟩
      rw [← hL] at HS
      obtain ⟨oa, cap, hv⟩ := own_form5 HO.out
      obtain ⟨ln, hln⟩ : ∃ ln, ln = x.size + k := ⟨_, rfl⟩
      rw [z1, ← hln] at hv
      have HOW : Hid (wr.ownsRow base 5 1 (.slice oa ln cap) ln L) := by
        have := HO.out
        rw [hv] at this
        unfold Own5 at this
        rw [z1, ← hL, ← hln] at this
        exact this
      have HNX : Hid (∀ (w3 : World) (v3 : Value), w3.ownsRow base 5 1 v3 (ln + 1) (L ++ [.int .u8 d]) → Own5 w3 base v3 (x ++ s.extract 0 (k + 1))) := fun w3 v3 h => by
        unfold Own5
        rw [z2, HS, ← hln]
        exact h
      rw [hv] at HB
      have hws : base ≤ wr.heap.size := by have := HB.out.1.size; have := HBS.out; omega
      subst hv
      have hml : ln + 1 ≤ maxLen := by unfold maxLen; omega
      have hbb : (ln + 1) * 1 ≤ 140737488355328 := by omega
      clear hL hln HO HS hd z1 z2
      go_wp2_with (at_builtin; refine wpList_append_lies _ rfl _ _ 44 rfl base 5 i0 _ 1 1 Tryd.underlying44 hi0 hz0 hz1 hz2 rfl (by omega) (.slice oa ln cap) ln L rfl (HOW.out.alloc _) ⟨wr.heap.size, 0, none⟩ 1 1 [.int .u8 d] rfl rfl (World.news_of_block (cs := #[.int .u8 d]) (t := 5) (fr := (0, 0)) (heap_alloc_new wr _)) (by simp [Value.oneCell']) (by omega) hml hbb (by simp; omega) (wr.heap.size + 1) (by simp) ?_; intro gg cap3 w3 hown3 hg3 hat hlt3)
      have FIN : Hid (Own5 w3 base (.slice (some ⟨gg, 0, none⟩) (ln + 1) cap3) (x ++ s.extract 0 (k + 1)) ∧ Put w w3 v0 (.slice (some ⟨gg, 0, none⟩) (ln + 1) cap3)) := ⟨HNX.out _ _ hown3, HB.out.step hg3 hat⟩
      clear hown3 hg3 hat hlt3
      go_wp2
      go_roundw
      case rel => exact ⟨k + 1, by omega, by go_num, FIN.out.1, FIN.out.2⟩
      case measure => simp [intOf]; omega
    · have e1 : k = s.size := by omega
      subst e1
      rw [ext_all] at HO
      go_wp2
      go_ret
      exact ⟨_, rfl, HO.out, HB.out⟩
end Go.Proofs.YtdolejkpnpchaaaDoor
