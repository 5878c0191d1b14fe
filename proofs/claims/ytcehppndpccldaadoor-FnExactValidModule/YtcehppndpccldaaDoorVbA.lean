/-
  The model's names and arities of types.
-/
import Derived.Test.YtcehppndpccldaaDoorM2
import Derived.Test.YtcehppndpccldaaDoorM3
namespace Go.Proofs.YtcehppndpccldaaDoor
open Go.RowKit

theorem quiet_at {P : Program} {f : FuncId} {args : Array Value} {W : World} {m n : Nat} {v : Value}
    (h : Calls P f args (W.drewN (m + n)) fun e w' => e = .returned v ∧ ∃ k, w' = (W.drewN (m + n)).drewN k) : Calls P f args (W.drewN (m + n)) fun e w'' => e = .returned v ∧ ∃ n', w'' = W.drewN (m + n') :=
  h.mono fun _ _ ⟨he, k, hk⟩ => ⟨he, n + k, by rw [hk, World.drewN_drewN, Nat.add_assoc]⟩

/-- Names at a place. -/
structure NsA (w : World) (p : NPl) (ns : List ByteArray) : Prop where
  at_ : 0 < ns.length → p.a = some ⟨p.b, 0, none⟩
  cell : ∀ k, k < ns.length → w.cell? ⟨p.b, k, none⟩ = some (.string (ns.getD k e0))
theorem NmOK.nsa {B : Nat} {w : World} {ns : List ByteArray} {p : NPl} (h : NmOK B w ns p) : NsA w p ns :=
  ⟨fun z => (h (List.length_pos_iff.1 z)).1, fun k hk => by
    obtain ⟨_, _, N, f, r, hl, hf⟩ := h (List.length_pos_iff.1 (by omega))
    rw [r.cell (by omega), hf k hk]⟩
theorem NsA.below {w w' : World} {p : NPl} {ns : List ByteArray} (h : NsA w p ns) (hb : Below w.heap.size w w') : NsA w' p ns :=
  ⟨h.at_, fun k hk => (hb.cell (p := ⟨p.b, k, none⟩) (World.block_lt_of_cell? _ _ (h.cell k hk))).trans (h.cell k hk)⟩

theorem hasN_take {ns : List ByteArray} {n : Nat} {s : ByteArray} (hn : n ≤ ns.length) : hasN (ns.take n) s = (List.range n).any fun j => (ns.getD j e0).toList == s.toList := by
  rw [Bool.eq_iff_iff]
  unfold hasN
  rw [List.any_eq_true, List.any_eq_true]
  constructor
  · rintro ⟨x, hx, hs⟩
    obtain ⟨j, hj, rfl⟩ := List.mem_iff_getElem.1 hx
    rw [List.length_take] at hj
    refine ⟨j, List.mem_range.2 (by omega), ?_⟩
    rw [List.getElem_take] at hs
    rw [List.getD_eq_getElem?_getD, List.getElem?_eq_getElem (by omega), Option.getD_some, ByteArray.toList_eq, ByteArray.toList_eq]
    exact hs
  · rintro ⟨j, hj, hs⟩
    have hj' := List.mem_range.1 hj
    rw [List.getD_eq_getElem?_getD, List.getElem?_eq_getElem (by omega), Option.getD_some, ByteArray.toList_eq, ByteArray.toList_eq] at hs
    exact ⟨ns[j], List.mem_iff_getElem.2 ⟨j, by rw [List.length_take]; omega, by rw [List.getElem_take]⟩, hs⟩

set_option maxRecDepth 100000 in
set_option maxHeartbeats 1000000 in
/-- l2Twice on the first names. -/
theorem v_twice (w : World) {p : NPl} {ns : List ByteArray} (h : NsA w p ns) {va : Option Addr} {n c : Nat} (hn : n ≤ ns.length) (hva : 0 < n → va = some ⟨p.b, 0, none⟩) (hl : n ≤ 2000000) (s : ByteArray) :
    Calls Tryd.prog 71 #[.slice va n c, .string s] w fun e w' => e = .returned (.bool (hasN (ns.take n) s)) ∧ w' = w := by
  have HB : Hid (hasN (ns.take n) s = (List.range n).any fun j => (ns.getD j e0).toList == s.toList) := hasN_take hn
  have HC : Hid (∀ k, k < n → va = some ⟨p.b, 0, none⟩ ∧ w.cell? ⟨p.b, k, none⟩ = some (.string (ns.getD k e0))) := fun k hk => ⟨hva (by omega), h.cell k (by omega)⟩
  obtain ⟨b, hb⟩ : ∃ b, b = hasN (ns.take n) s := ⟨_, rfl⟩
  rw [← hb] at HB ⊢
  clear h hn hva hb
  go_enter Tryd.func71, Tryd.ntmps71
  go_wp2
  go_loopw [5] (fun i wr => ∃ k : Nat, k ≤ n ∧ i = .int .i64 k ∧ w = wr ∧ Hid (∀ j, j < k → ((ns.getD j e0).toList == s.toList) = false)) (fun i _ => n - (intOf i).toNat)
  case atStart => exact ⟨0, Nat.zero_le _, rfl, rfl, fun j hj => absurd hj (Nat.not_lt_zero _)⟩
  case round =>
    obtain ⟨k, hk, rfl, rfl, HF⟩ := hrel
    by_cases hlt : k < n
    · obtain ⟨rfl, ck⟩ := HC.out k hlt
      obtain ⟨x, hx⟩ : ∃ x, x = ns.getD k e0 := ⟨_, rfl⟩
      rw [← hx] at ck
      cases r : (x.toList == s.toList)
      · have HR : Hid (((ns.getD k e0).toList == s.toList) = false) := by show _ = _; rw [← hx]; exact r
        clear hx
        go_wp2
        refine ⟨⟨k + 1, by omega, by go_num, trivial, fun j hjk => ?_⟩, by simp [intOf]; omega⟩
        by_cases e : j = k
        · subst e; exact HR.out
        · exact HF.out j (by omega)
      · have HR : Hid (true = b) := by
          show _ = _
          rw [HB.out]
          exact (List.any_eq_true.2 ⟨k, List.mem_range.2 hlt, by rw [← hx]; exact r⟩).symm
        clear hx
        go_wp2
        go_ret
        exact ⟨by rw [← HR.out]; rfl, rfl⟩
    · have hkn : k = n := by omega
      subst hkn
      have HR : Hid (false = b) := by
        show _ = _
        rw [HB.out]
        refine (List.any_eq_false.2 fun j hj => ?_).symm
        rw [HF.out j (List.mem_range.1 hj)]; exact Bool.false_ne_true
      go_wp2
      go_ret
      exact ⟨by rw [← HR.out]; rfl, rfl⟩

theorem all_upto {n : Nat} {f : Nat → Bool} (k : Nat) (hk : k < n) (h : f k = false) : (List.range n).all f = false := List.all_eq_false.2 ⟨k, List.mem_range.2 hk, by rw [h]; exact Bool.false_ne_true⟩

set_option maxRecDepth 100000 in
set_option maxHeartbeats 1000000 in
theorem v_namesOk (w : World) {p : NPl} {ns : List ByteArray} (h : NsA w p ns) (hl : ns.length ≤ 1048576) (hs : ∀ k, k < ns.length → (ns.getD k e0).size ≤ 1048576) {n : Nat} (hn : n = ns.length) (hc : n ≤ p.c) :
    Calls Tryd.prog 49 #[.slice p.a n p.c] w fun e w' => e = .returned (.bool (nmOk ns)) ∧ ∃ k, w' = w.drewN k := by
  have HC : Hid (∀ k, k < n → p.a = some ⟨p.b, 0, none⟩ ∧ w.cell? ⟨p.b, k, none⟩ = some (.string (ns.getD k e0)) ∧ (ns.getD k e0).size ≤ 9223372036854775807) := fun k hk => ⟨h.at_ (by omega), h.cell k (by omega), by have := hs k (by omega); omega⟩
  have HT : Hid (∀ (W : World) (k m : Nat) (s : ByteArray), (∃ j, W = w.drewN j) → k < n → Calls Tryd.prog 71 #[.slice (some ⟨p.b, 0, none⟩) k m, .string s] W fun e w' => e = .returned (.bool (hasN (ns.take k) s)) ∧ w' = W) := fun W k m s hW hk => by
    obtain ⟨j, rfl⟩ := hW
    exact v_twice (w.drewN j) (h.below (below_drewN' _ _)) (by omega) (fun _ => rfl) (by omega) s
  have hl2 : n ≤ 1048576 := by omega
  have HN : Hid (n = ns.length) := hn
  obtain ⟨b, hb⟩ : ∃ b, b = nmOk ns := ⟨_, rfl⟩
  have HB : Hid (b = (List.range n).all fun i => gn (ns.getD i e0) && !hasN (ns.take i) (ns.getD i e0)) := by show _ = _; rw [hb, hn]; rfl
  rw [← hb]
  clear h hs hn hb hl
  go_enter Tryd.func49, Tryd.ntmps49
  go_wp2
  go_loopw [3] (fun i wr => ∃ k : Nat, k ≤ n ∧ i = .int .i64 k ∧ (∃ m, wr = w.drewN m) ∧ Hid (∀ j, j < k → (gn (ns.getD j e0) && !hasN (ns.take j) (ns.getD j e0)) = true)) (fun i _ => n - (intOf i).toNat)
  case atStart => exact ⟨0, Nat.zero_le _, rfl, ⟨0, rfl⟩, fun j hj => absurd hj (Nat.not_lt_zero _)⟩
  case round =>
    obtain ⟨k, hk, rfl, ⟨m, rfl⟩, HF⟩ := hrel
    by_cases hlt : k < n
    · obtain ⟨ea, ck, sz⟩ := HC.out k hlt
      obtain ⟨x, hx⟩ : ∃ x, x = ns.getD k e0 := ⟨_, rfl⟩
      rw [← hx] at ck sz
      rw [ea]
      have gk : k ≤ p.c := by omega
      have G : Hid (∀ j, Calls Tryd.prog 19 #[.string x] (w.drewN j) fun e w' => e = .returned (.bool (gn x)) ∧ ∃ i, w' = (w.drewN j).drewN i) := fun j => (c32 x (w.drewN j) sz).mono fun e w' h => ⟨h.1, 0, h.2⟩
      have T : Hid (∀ j mm, Calls Tryd.prog 71 #[.slice (some ⟨p.b, 0, none⟩) k mm, .string x] (w.drewN j) fun e w' => e = .returned (.bool (hasN (ns.take k) x)) ∧ ∃ i, w' = (w.drewN j).drewN i) := fun j mm => (HT.out (w.drewN j) k mm x ⟨j, rfl⟩ hlt).mono fun e w' h => ⟨h.1, 0, h.2⟩
      cases hg : gn x
      · have HR : Hid (false = b) := by show _ = _; rw [HB.out, all_upto k hlt (by rw [← hx, hg]; rfl)]
        rw [hg] at G
        clear hx ea
        go_wp2
        go_quiet (first | (go_at_call 19; first | (exact Calls.quiet_of (G.out _)) | (exact quiet_at (G.out _))))
        go_wp2
        go_ret
        exact ⟨by rw [← HR.out]; rfl, _, by first | rfl | exact World.drewN_drewN ..⟩
      · rw [hg] at G
        cases ht : hasN (ns.take k) x
        · have HR : Hid ((gn (ns.getD k e0) && !hasN (ns.take k) (ns.getD k e0)) = true) := by show _ = _; rw [← hx, hg, ht]; rfl
          rw [ht] at T
          clear hx ea
          go_wp2
          go_quiet (first | (go_at_call 19; first | (exact Calls.quiet_of (G.out _)) | (exact quiet_at (G.out _))) | (go_at_call 71; first | (exact Calls.quiet_of (T.out _ _)) | (exact quiet_at (T.out _ _))))
          go_wp2
          go_roundw
          case rel => exact ⟨k + 1, by omega, by go_num, ⟨_, rfl⟩, fun j hj => by
            by_cases e : j = k
            · rw [e]; exact HR.out
            · exact HF.out j (by omega)⟩
          case measure => simp [intOf]; omega
        · have HR : Hid (false = b) := by show _ = _; rw [HB.out, all_upto k hlt (by rw [← hx, hg, ht]; rfl)]
          rw [ht] at T
          clear hx ea
          go_wp2
          go_quiet (first | (go_at_call 19; first | (exact Calls.quiet_of (G.out _)) | (exact quiet_at (G.out _))) | (go_at_call 71; first | (exact Calls.quiet_of (T.out _ _)) | (exact quiet_at (T.out _ _))))
          go_wp2
          go_ret
          exact ⟨by rw [← HR.out]; rfl, _, by first | rfl | exact World.drewN_drewN ..⟩
    · have hkn : k = n := by omega
      subst hkn
      have HR : Hid (true = b) := by
        show _ = _
        rw [HB.out]
        exact (List.all_eq_true.2 fun j hj => HF.out j (List.mem_range.1 hj)).symm
      go_wp2
      go_ret
      exact ⟨by rw [← HR.out]; rfl, _, rfl⟩

end Go.Proofs.YtcehppndpccldaaDoor
