/-
  The number of a kid: the program's mixer.
-/
import Derived.Test.YtpbpbppimkeodaaGreatDoorJoM
namespace Go.Proofs.YtpbpbppimkeodaaGreatDoor
open Go.RowKit Go.Maps

theorem addM_len (ord : List Qn) (q : Qn) : (addM ord q).length ≤ ord.length + 1 := by
  unfold addM
  split
  · omega
  · simp
theorem addM_mem (ord : List Qn) (q : Qn) : q ∈ addM ord q := by
  unfold addM
  split
  · rename_i h; simpa using h
  · simp
theorem addM_idx (ord : List Qn) (q : Qn) : (addM ord q).idxOf q < (addM ord q).length := List.idxOf_lt_length_of_mem (addM_mem ord q)

set_option maxRecDepth 100000 in
set_option maxHeartbeats 2000000 in
theorem p_kid (mxb kb mb : Nat) (ov : Value) (D : DataW Unit) (ord : List Qn) (keep : Nat → Prop) (ta : Option Addr) (n tc : Nat) (q : Qn) (w : World) (h : KnQ w kb mb ov D ord keep) (hm : w.cell? ⟨mxb, 0, none⟩ = some (.slice ta n tc)) (hkm : keep mxb) (hq : SmQ q) (ho : ord.length ≤ 90000000) (hn : n ≤ 1048576) :
    Calls Tryz.prog 127 #[.pointer (some ⟨mxb, 0, none⟩), .pointer (some ⟨kb, 0, none⟩), .int .i64 (q.a : Int), .int .i64 (q.b : Int), .bool q.up] w fun e w' =>
      ∃ (ov' : Value) (D' : DataW Unit), e = .returned (.int .i64 ((n + (addM ord q).idxOf q : Nat) : Int)) ∧ KnQ w' kb mb ov' D' (addM ord q) keep ∧ Kept keep w w' := by
  have HH : Hid (KnQ w kb mb ov D ord keep) := h
  clear h
  go_enter Tryz.func127, Tryz.ntmps127
  go_wp2_with fail
  refine (kq_number kb mb ov D ord keep q w HH.out hq (by omega)).mono ?_
  rintro e w1 ⟨ov', D', rfl, K1, KP⟩
  have m1 : w1.cell? ⟨mxb, 0, none⟩ = some (.slice ta n tc) := (KP.cell (a := ⟨mxb, 0, none⟩) hkm).trans hm
  have H1 : Hid (KnQ w1 kb mb ov' D' (addM ord q) keep ∧ Kept keep w w1) := ⟨K1, KP⟩
  have hl := addM_len ord q
  have hx := addM_idx ord q
  obtain ⟨t, ht⟩ : ∃ t, t = (addM ord q).idxOf q := ⟨_, rfl⟩
  have HT : Hid (t = (addM ord q).idxOf q) := ht
  rw [← ht] at hx ⊢
  clear K1 KP ht
  go_wp2
  go_ret
  exact ⟨ov', D', by rw [← HT.out]; first | rfl | (congr 1; congr 1; omega) | simp, H1.out.1, H1.out.2⟩

end Go.Proofs.YtpbpbppimkeodaaGreatDoor
