/-
  Merged for the claim: SubWill SubGood Words Names Names2 Valid Valid2.
-/
import Derived.Test.YtoanhnmpkonbfaaGreatDoorSubWalk
import Derived.Test.YtoanhnmpkonbfaaGreatDoorME
import Derived.Test.YtoanhnmpkonbfaaGreatDoorProg
import Derived.Test.YtoanhnmpkonbfaaGreatDoorPure
import Derived.WalkKit
import Derived.WalkSpells
import Derived.WalkLawsBesides
import Derived.Deep.QuietTactic
import Derived.BigQuiet
import Derived.Test.YtoanhnmpkonbfaaGreatDoorMA
namespace Go.Proofs.YtoanhnmpkonbfaaGreatDoor
open Go.RowKit Go.Maps

set_option maxRecDepth 100000 in
set_option maxHeartbeats 8000000 in
theorem w26 {N gb go : Nat} {p : Nat → NP} {G : Nat → ND} (ao : Option Addr) (gc : Nat) (keep : Nat → Prop) (a b : Nat) (w : World) (hk : ∀ k, keep k → k < w.heap.size) (hG : ∀ w', Kept keep w w' → NodesAt w' ao gb go N p G) (ha : a < N) (hb : b < N) (hK : Kids N G) (hP : ∀ x, x < N → Plain (G x)) (hS : ∀ x, x < N → Srt (G x)) (hN : N ≤ 4000) (hn : ∀ i, i < N → (G i).nn ≤ 1048576) :
    Calls Tryz.prog 27 #[.agg #[.slice ao N gc], .int .i64 (a : Int), .int .i64 (b : Int)] w (WillPost G a b keep w) := by
  have hmf : ∀ (fn : Fn) (first cap : Array Value) (w : World), (Instr.makeFunc fn first cap).run Tryz.prog w = .ok (.func fn first cap) w := fun _ _ _ _ => rfl
  obtain ⟨W0, hW0⟩ : ∃ W0, W0 = w.alloc (.cells #[.slice ao N gc] 25) := ⟨_, rfl⟩
  have BW : Below w.heap.size w W0 := by rw [hW0]; exact bel1 _ _
  have C : Hid (∀ W, Below W0.heap.size W0 W → Calls Tryz.prog 31 #[.agg #[.int .i64 (a : Int), .int .i64 (b : Int)], .int .i64 9223372036854775807, .func (.func 45) #[] #[.pointer (some ⟨w.heap.size, 0, none⟩)]] W (WillPost G a b keep w)) := fun W hW => by
    have B := BW.trans (hW.mono BW.size)
    have KW : Kept keep w W := ⟨B.os, B.tape, B.output, B.size, fun k hk' => B.block k (hk k hk')⟩
    have RG : W0.rowIs w.heap.size 25 1 (fun _ => .slice ao N gc) := by rw [hW0]; exact row1 w (.slice ao N gc) 25
    have RW := RG.of_block (hW.block w.heap.size RG.lt)
    refine (w36 ao gc w.heap.size (fun k => keep k ∨ k = w.heap.size) a b W (fun k h => ?_) (fun w' h => hG w' (KW.trans ⟨h.os, h.tape, h.output, h.size, fun k hk' => h.block k (Or.inl hk')⟩)) (fun w' h => (RW.of_block (h.block w.heap.size (Or.inr rfl))).cell (i := 0) (by omega)) ha hb hK hP hS hN hn).mono (fun e w' z => ⟨z.1, KW.trans ⟨z.2.os, z.2.tape, z.2.output, z.2.size, fun k hk' => z.2.block k (Or.inl hk')⟩⟩)
    rcases h with h | h
    · have := hk k h; have := B.size; omega
    · subst h; exact RW.lt
  clear hG hK hP hS hn BW
  subst hW0
  go_enter Tryz.func27, Tryz.ntmps27
  go_wp2_with (first | (go_at_call 31; (first | (with_reducible refine (C.out _ (Below.refl _ _)).mono ?_) | (with_reducible refine (C.out _ (Below.refl _ _).drew).mono ?_))))
  intro e w5 hE
  obtain ⟨r, rfl⟩ : ∃ r, e = .returned (.bool r) := by
    rcases hE.1 with ⟨z, _⟩ | ⟨z, _⟩
    · exact ⟨_, z⟩
    · exact ⟨_, z⟩
  have FH : Hid (WillPost G a b keep w (.returned (.bool r)) w5) := hE
  clear hE C
  go_wp2
  go_ret
  exact FH.out

end Go.Proofs.YtoanhnmpkonbfaaGreatDoor

namespace Go.Proofs.YtoanhnmpkonbfaaGreatDoor

theorem allTo_get {n : Nat} {p : Nat → Bool} (h : allTo n p = true) {j : Nat} (hj : j < n) : p j = true := by
  unfold allTo at h; rw [List.all_eq_true] at h; exact h j (List.mem_range.2 hj)

theorem gn_good {s : ByteArray} (h : gn s = true) : (32 : UInt8) ∉ s.data.toList ∧ s.data.toList ≠ [] ∧ s.size ≤ 12 := by
  unfold gn gnl at h
  simp only [Bool.and_eq_true, decide_eq_true_eq] at h
  obtain ⟨⟨h1, h2⟩, _, h3, _⟩ := h
  refine ⟨fun hm => ?_, fun e => by rw [e] at h1; simp at h1, h2⟩
  have z := List.all_eq_true.1 h3 32 hm
  revert z
  decide

theorem shp_cases {d : ND} (h : shp d = true) : (d.kind = 4 ∧ d.nn = 0 ∧ d.nk = 2) ∨ (d.kind = 3 ∧ d.nn = d.nk ∧ gio d.nn d.nm = true) ∨ ((d.kind = 0 ∨ d.kind = 1 ∨ d.kind = 2) ∧ d.nn = 0 ∧ d.nk = 0) := by
  unfold shp at h
  by_cases h4 : d.kind = 4
  · rw [if_pos h4] at h
    exact Or.inl ⟨h4, of_decide_eq_true h⟩
  · rw [if_neg h4] at h
    by_cases h3 : d.kind = 3
    · rw [if_pos h3, Bool.and_eq_true] at h
      exact Or.inr (Or.inl ⟨h3, of_decide_eq_true h.1, h.2⟩)
    · rw [if_neg h3] at h
      by_cases h0 : d.kind = 0 ∨ d.kind = 1 ∨ d.kind = 2
      · rw [if_pos h0] at h
        exact Or.inr (Or.inr ⟨h0, of_decide_eq_true h⟩)
      · rw [if_neg h0] at h; cases h

theorem gio_good {n : Nat} {S : Nat → ByteArray} (h : gio n S = true) {i : Nat} (hi : i < n) : gn (S i) = true := by
  have := allTo_get h hi
  rw [Bool.and_eq_true] at this
  exact this.1

theorem gio_next {n : Nat} {S : Nat → ByteArray} (h : gio n S = true) {i : Nat} (hi : i + 1 < n) : lt (S i) (S (i + 1)) = true := by
  have := allTo_get h hi
  rw [Bool.and_eq_true, Bool.or_eq_true] at this
  rcases this.2 with c | c
  · exact absurd (of_decide_eq_true c) (by omega)
  · simpa using c

theorem gio_lt {n : Nat} {S : Nat → ByteArray} (h : gio n S = true) {i : Nat} : ∀ {k : Nat}, i < k → k < n → lt (S i) (S k) = true
  | 0, hk, _ => absurd hk (Nat.not_lt_zero _)
  | k + 1, hk, hn => by
    by_cases e : i = k
    · subst e; exact gio_next h hn
    · exact lt_trans' (gio_lt h (k := k) (by omega) (by omega)) (gio_next h hn)

theorem plain_of {d : ND} (h : shp d = true) : Plain d := by
  rcases shp_cases h with ⟨k, n, m⟩ | ⟨k, n, g⟩ | ⟨k, n, m⟩
  · exact ⟨by omega, fun i hi => by omega, by rw [if_neg (by omega), if_pos k]; exact m, fun _ => n⟩
  · exact ⟨by omega, fun i hi => by have z := gn_good (gio_good g hi); exact ⟨z.1, z.2.1⟩, by rw [if_pos k]; exact n.symm, fun c => absurd k c⟩
  · exact ⟨by omega, fun i hi => by omega, by rw [if_neg (by omega), if_neg (by omega)]; exact m, fun _ => n⟩

theorem srt_of {d : ND} (h : shp d = true) : Srt d := fun i k hi hk => by
  rcases shp_cases h with ⟨_, n, _⟩ | ⟨_, _, g⟩ | ⟨_, n, _⟩
  · omega
  · exact gio_lt g hi hk
  · omega

theorem short_of {d : ND} (h : shp d = true) {i : Nat} (hi : i < d.nn) : (d.nm i).size ≤ 12 := by
  rcases shp_cases h with ⟨_, n, _⟩ | ⟨_, _, g⟩ | ⟨_, n, _⟩
  · omega
  · exact (gn_good (gio_good g hi)).2.2
  · omega

theorem shp_of {N : Nat} {G : Nat → ND} (h : vgr N G = true) {x : Nat} (hx : x < N) : shp (G x) = true := by
  unfold vgr at h
  rw [Bool.and_eq_true] at h
  have := allTo_get h.2 hx
  unfold nok at this
  rw [Bool.and_eq_true] at this
  exact this.1

end Go.Proofs.YtoanhnmpkonbfaaGreatDoor

namespace Go.Proofs.YtoanhnmpkonbfaaGreatDoor
open Go.RowKit

set_option maxHeartbeats 400000 in
theorem g42 (c : Int) (w : World) :
    Calls Tryz.prog 96 #[.int .u8 c] w fun e w' => e = .returned (.bool (sl c)) ∧ w' = w := by
  by_cases h1 : 97 ≤ c <;> by_cases h2 : c ≤ 122 <;>
  (go_enter Tryz.func96, Tryz.ntmps96
   go_wp2
   go_ret
   exact ⟨by simp [sl, h1, h2], rfl⟩)

set_option maxHeartbeats 1000000 in
theorem g39 (c : Int) (w : World) :
    Calls Tryz.prog 61 #[.int .u8 c] w fun e w' => e = .returned (.bool (wb c)) ∧ w' = w := by
  by_cases h1 : 97 ≤ c <;> by_cases h2 : c ≤ 122 <;> by_cases h3 : 48 ≤ c <;> by_cases h4 : c ≤ 57 <;> by_cases h5 : c = 95 <;> try (exfalso; omega)
  all_goals
    have h5' : (c == 95) = decide (c = 95) := by rw [Bool.eq_iff_iff]; simp
    go_enter Tryz.func61, Tryz.ntmps61
    go_wp2
    go_ret
    exact ⟨by simp [wb, *], rfl⟩

set_option maxHeartbeats 1000000 in
theorem g40 (s : ByteArray) (w : World) :
    Calls Tryz.prog 62 #[.string s] w fun e w' => e = .returned (.bool (rsv s.toList)) ∧ w' = w := by
  go_enter Tryz.func62, Tryz.ntmps62
  go_wp2
  all_goals
    go_ret
    exact ⟨by first | (simp_all [rsv]; done) | (refine congrArg (fun b => Ending.returned (Value.bool b)) ?_; rw [Bool.eq_iff_iff]; simp_all [rsv]), rfl⟩

set_option maxHeartbeats 1000000 in
theorem g44 (s : ByteArray) (w : World) :
    Calls Tryz.prog 98 #[.string s] w fun e w' => e = .returned (.bool (rsv s.toList)) ∧ w' = w := by
  go_enter Tryz.func98, Tryz.ntmps98
  go_wp2
  all_goals
    go_ret
    exact ⟨by simp_all [rsv], rfl⟩

end Go.Proofs.YtoanhnmpkonbfaaGreatDoor

namespace Go.Proofs.YtoanhnmpkonbfaaGreatDoor
open Go.RowKit

theorem ret_bool {a b : Bool} (h : a = b) : Ending.returned (.bool a) = .returned (.bool b) := by rw [h]

set_option maxHeartbeats 1000000 in
theorem g43 (c : Int) (w : World) :
    Calls Tryz.prog 97 #[.int .u8 c] w fun e w' => e = .returned (.bool (wb c)) ∧ w' = w := by
  by_cases h1 : 97 ≤ c <;> by_cases h2 : c ≤ 122 <;> by_cases h3 : 48 ≤ c <;> by_cases h4 : c ≤ 57 <;> by_cases h5 : c = 95 <;> try (exfalso; omega)
  all_goals
    have h5' : (c == 95) = decide (c = 95) := by rw [Bool.eq_iff_iff]; simp
    have h6 : sl c = decide (97 ≤ c ∧ c ≤ 122) := rfl
    go_enter Tryz.func97, Tryz.ntmps97
    go_wp2_with (go_at_call 96; refine (g42 _ _).mono ?_; rintro e w' ⟨rfl, rfl⟩)
    go_ret
    exact ⟨by simp [wb, *] <;> omega, rfl⟩

set_option maxHeartbeats 1000000 in
theorem g32 (s : ByteArray) (w : World) (_hs : s.size ≤ 9223372036854775807) :
    Calls Tryz.prog 40 #[.string s] w fun e w' => e = .returned (.bool (gn s)) ∧ w' = w := by
  by_cases h1 : s.size < 1
  · have HG : Hid (gn s = false) := gn_short (s := s) (Or.inl h1)
    go_enter Tryz.func40, Tryz.ntmps40
    go_wp2
    go_ret
    exact ⟨ret_bool HG.out.symm, rfl⟩
  by_cases h2 : 12 < s.size
  · have HG : Hid (gn s = false) := gn_short (s := s) (Or.inr h2)
    go_enter Tryz.func40, Tryz.ntmps40
    go_wp2
    go_ret
    exact ⟨ret_bool HG.out.symm, rfl⟩
  have hp : 0 < s.size := by omega
  have H0 : Hid (sl ((s[0]'hp).toNat : Int) = decide (97 ≤ ((s[0]'hp).toNat : Int) ∧ ((s[0]'hp).toNat : Int) ≤ 122)) := rfl
  by_cases h3 : 97 ≤ ((s[0]'hp).toNat : Int)
  case neg =>
    have HG : Hid (gn s = false) := gn_head hp (by rw [H0.out]; exact decide_eq_false (fun h => h3 h.1))
    have h3' : ((s[0]'hp).toNat : Int) < 97 := by omega
    go_enter Tryz.func40, Tryz.ntmps40
    go_wp2
    go_ret
    exact ⟨ret_bool HG.out.symm, rfl⟩
  by_cases h4 : ((s[0]'hp).toNat : Int) ≤ 122
  case neg =>
    have HG : Hid (gn s = false) := gn_head hp (by rw [H0.out]; exact decide_eq_false (fun h => h4 h.2))
    have h4' : 122 < ((s[0]'hp).toNat : Int) := by omega
    go_enter Tryz.func40, Tryz.ntmps40
    go_wp2
    go_ret
    exact ⟨ret_bool HG.out.symm, rfl⟩
  have Hs : Hid (sl ((s[0]'hp).toNat : Int) = true) := by rw [H0.out]; exact decide_eq_true ⟨h3, h4⟩
  go_enter Tryz.func40, Tryz.ntmps40
  go_wp2
  go_loop [3] (fun i => ∃ k : Nat, k ≤ s.size ∧ i = .int .i64 k ∧ Hid (∀ j (h : j < s.size), j < k → wb (s[j].toNat : Int) = true)) (fun i => s.size - (intOf i).toNat)
  case atStart => exact ⟨0, Nat.zero_le _, rfl, fun j _ h => absurd h (Nat.not_lt_zero _)⟩
  case round =>
    obtain ⟨k, hk, rfl, HA⟩ := hrel
    by_cases hlt : k < s.size
    · cases hw : wb (s[k].toNat : Int)
      · have HG : Hid (gn s = false) := gn_byte k hlt hw
        go_wp2_with (go_at_call 61; refine (g39 _ _).mono ?_; rintro e w' ⟨rfl, rfl⟩)
        go_ret
        exact ⟨ret_bool HG.out.symm, rfl⟩
      · have HW : Hid (wb (s[k].toNat : Int) = true) := hw
        go_wp2_with (go_at_call 61; refine (g39 _ _).mono ?_; rintro e w' ⟨rfl, rfl⟩)
        go_round
        case rel => exact ⟨k + 1, by omega, by go_num, fun j h hj => by
          by_cases e : j = k
          · subst e; exact HW.out
          · exact HA.out j h (by omega)⟩
        case measure => simp [intOf]; omega
    · have HE : Hid (gn s = !rsv s.toList) := gn_end (by omega) (by omega) Hs.out (fun j h => HA.out j h (by omega))
      go_wp2_with (go_at_call 62; refine (g40 _ _).mono ?_; rintro e w' ⟨rfl, rfl⟩)
      go_ret
      exact ⟨ret_bool HE.out.symm, rfl⟩

end Go.Proofs.YtoanhnmpkonbfaaGreatDoor

namespace Go.Proofs.YtoanhnmpkonbfaaGreatDoor
open Go.RowKit

set_option maxHeartbeats 1000000 in
theorem g41 (s : ByteArray) (w : World) (_hs : s.size ≤ 9223372036854775807) :
    Calls Tryz.prog 79 #[.string s] w fun e w' => e = .returned (.bool (gn s)) ∧ w' = w := by
  by_cases h1 : s.size = 0
  · have HG : Hid (gn s = false) := gn_short (s := s) (Or.inl (by omega))
    go_enter Tryz.func79, Tryz.ntmps79
    go_wp2
    go_ret
    exact ⟨ret_bool HG.out.symm, rfl⟩
  by_cases h2 : 12 < s.size
  · have HG : Hid (gn s = false) := gn_short (s := s) (Or.inr h2)
    have h1' : ((s.size : Int) == 0) = false := beq_eq_false_iff_ne.2 (by omega)
    go_enter Tryz.func79, Tryz.ntmps79
    go_wp2
    go_ret
    exact ⟨ret_bool HG.out.symm, rfl⟩
  have hp : 0 < s.size := by omega
  have h1' : ((s.size : Int) == 0) = false := beq_eq_false_iff_ne.2 (by omega)
  cases h3 : sl ((s[0]'hp).toNat : Int)
  · have HG : Hid (gn s = false) := gn_head hp h3
    go_enter Tryz.func79, Tryz.ntmps79
    go_wp2_with (go_at_call 96; refine (g42 _ _).mono ?_; rintro e w' ⟨rfl, rfl⟩)
    go_ret
    exact ⟨ret_bool HG.out.symm, rfl⟩
  have Hs : Hid (sl ((s[0]'hp).toNat : Int) = true) := h3
  go_enter Tryz.func79, Tryz.ntmps79
  go_wp2_with (go_at_call 96; refine (g42 _ _).mono ?_; rintro e w' ⟨rfl, rfl⟩)
  clear h3
  go_loop [3] (fun i => ∃ k : Nat, 1 ≤ k ∧ k ≤ s.size ∧ i = .int .i64 k ∧ Hid (∀ j (h : j < s.size), j < k → wb (s[j].toNat : Int) = true)) (fun i => s.size - (intOf i).toNat)
  case atStart => exact ⟨1, Nat.le_refl _, by omega, rfl, fun j _ h => by
    have : j = 0 := by omega
    subst this; exact wb_of_sl Hs.out⟩
  case round =>
    obtain ⟨k, hk1, hk, rfl, HA⟩ := hrel
    by_cases hlt : k < s.size
    · cases hw : wb (s[k].toNat : Int)
      · have HG : Hid (gn s = false) := gn_byte k hlt hw
        go_wp2_with (go_at_call 97; refine (g43 _ _).mono ?_; rintro e w' ⟨rfl, rfl⟩)
        go_ret
        exact ⟨ret_bool HG.out.symm, rfl⟩
      · have HW : Hid (wb (s[k].toNat : Int) = true) := hw
        go_wp2_with (go_at_call 97; refine (g43 _ _).mono ?_; rintro e w' ⟨rfl, rfl⟩)
        go_round
        case rel => exact ⟨k + 1, by omega, by omega, by go_num, fun j h hj => by
          by_cases e : j = k
          · subst e; exact HW.out
          · exact HA.out j h (by omega)⟩
        case measure => simp [intOf]; omega
    · have HE : Hid (gn s = !rsv s.toList) := gn_end (by omega) (by omega) Hs.out (fun j h => HA.out j h (by omega))
      go_wp2_with (go_at_call 98; refine (g44 _ _).mono ?_; rintro e w' ⟨rfl, rfl⟩)
      go_ret
      exact ⟨ret_bool HE.out.symm, rfl⟩

set_option maxHeartbeats 1000000 in
theorem g33 (a b : ByteArray) (w : World) (_ha : a.size ≤ 9223372036854775807) (_hb : b.size ≤ 9223372036854775807) :
    Calls Tryz.prog 41 #[.string a, .string b] w fun e w' => e = .returned (.bool (lt a b)) ∧ ∃ n, w' = w.drewN n := by
  go_enter Tryz.func41, Tryz.ntmps41
  go_wp2
  go_loopw [5] (fun i wr => ∃ k : Nat, k ≤ a.size ∧ k ≤ b.size ∧ i = .int .i64 k ∧ Hid (∀ j (h1 : j < a.size) (h2 : j < b.size), j < k → a[j] = b[j]) ∧ ∃ m, wr = w.drewN m) (fun i _ => a.size - (intOf i).toNat)
  case atStart => exact ⟨0, Nat.zero_le _, Nat.zero_le _, rfl, fun j _ _ h => absurd h (Nat.not_lt_zero _), 0, rfl⟩
  case round =>
    obtain ⟨k, hka, hkb, rfl, HA, m, rfl⟩ := hrel
    by_cases h1 : k < a.size
    · by_cases h2 : k < b.size
      · by_cases h3 : a[k].toNat = b[k].toNat
        · have H3 : Hid (a[k] = b[k]) := UInt8.toNat_inj.1 h3
          have h3' : ((a[k].toNat : Int) != (b[k].toNat : Int)) = false := by rw [bne_eq_false_iff_eq]; omega
          clear h3
          go_wp2
          go_quiet (fail)
          go_wp2
          go_roundw
          case rel => exact ⟨k + 1, by omega, by omega, by go_num, fun j q1 q2 hj => by
            by_cases e : j = k
            · subst e; exact H3.out
            · exact HA.out j q1 q2 (by omega), _, rfl⟩
          case measure => simp [intOf]; omega
        · have HE : Hid (lt a b = decide ((a[k].toNat : Int) < (b[k].toNat : Int))) := lt_at h1 h2 HA.out (fun e => h3 (by rw [e]))
          have h3' : ((a[k].toNat : Int) != (b[k].toNat : Int)) = true := by rw [bne_iff_ne]; omega
          clear h3
          go_wp2
          go_quiet (fail)
          go_wp2
          go_quiet (fail)
          go_wp2
          go_ret
          exact ⟨ret_bool (by rw [HE.out]; simp), _, by rw [World.drewN_drewN, World.drewN_drewN]⟩
      · have HE : Hid (lt a b = decide ((a.size : Int) < (b.size : Int))) := lt_end hka hkb HA.out (Or.inr (by omega))
        go_wp2
        go_ret
        exact ⟨ret_bool (by rw [HE.out]; simp), _, rfl⟩
    · have HE : Hid (lt a b = decide ((a.size : Int) < (b.size : Int))) := lt_end hka hkb HA.out (Or.inl (by omega))
      go_wp2
      go_ret
      exact ⟨ret_bool (by rw [HE.out]; simp), _, rfl⟩

end Go.Proofs.YtoanhnmpkonbfaaGreatDoor

namespace Go.Proofs.YtoanhnmpkonbfaaGreatDoor
open Go.RowKit

set_option maxHeartbeats 1000000 in
theorem g15 (ga : Option Addr) (N gc : Nat) (ao : Option Addr) (b o n c : Nat) (D : Nat → Int) (w : World) (h1 : IntsAt w ao b o n D) (_hN : N ≤ 9223372036854775807) :
    Calls Tryz.prog 25 #[.agg #[.slice ga N gc], .slice ao n c] w fun e w' => e = .returned (.bool (kok n D N)) ∧ Below w.heap.size w w' := by
  have hlen := h1.len
  have HB : Hid (∀ w', Below w.heap.size w w' → IntsAt w' ao b o n D) := fun w' hb => h1.below hb
  have A1 := h1.at_
  clear h1
  go_enter Tryz.func25, Tryz.ntmps25
  go_wp2
  go_loop [9] (fun i => ∃ k : Nat, k ≤ n ∧ i = .int .i64 k ∧ Hid (∀ j, j < k → decide (0 ≤ D j ∧ D j < N) = true)) (fun i => n - (intOf i).toNat)
  case atStart => exact ⟨0, Nat.zero_le _, rfl, fun j h => absurd h (Nat.not_lt_zero _)⟩
  case round =>
    obtain ⟨k, hk, rfl, HA⟩ := hrel
    by_cases hlt : k < n
    · have e1 := A1 (by omega)
      have g1 := (HB.out _ (bel1 w (.cells #[.slice ga N gc] 25))).cell k hlt
      subst e1
      by_cases h2 : D k < 0
      · have HF : Hid (kok n D N = false) := allTo_false k hlt (decide_eq_false (by omega))
        go_wp2
        go_ret
        exact ⟨ret_bool HF.out.symm, bel1 _ _⟩
      · by_cases h3 : D k < N
        · have HK : Hid (decide (0 ≤ D k ∧ D k < N) = true) := decide_eq_true ⟨by omega, h3⟩
          go_wp2
          go_round
          case rel => exact ⟨k + 1, by omega, by go_num, fun j hj => by
            by_cases e : j = k
            · subst e; exact HK.out
            · exact HA.out j (by omega)⟩
          case measure => simp [intOf]; omega
        · have HF : Hid (kok n D N = false) := allTo_false k hlt (decide_eq_false (by omega))
          go_wp2
          go_ret
          exact ⟨ret_bool HF.out.symm, bel1 _ _⟩
    · have HF : Hid (kok n D N = true) := allTo_true (fun j hj => HA.out j (by omega))
      go_wp2
      go_ret
      exact ⟨ret_bool HF.out.symm, bel1 _ _⟩

theorem lt_irr {a b : ByteArray} (h : lt a b = true) : (a.toList == b.toList) = false := by
  by_cases e : a.toList = b.toList
  · exfalso
    unfold lt at h
    rw [e] at h
    have := bl_append b.toList [] []
    simp only [List.append_nil] at this
    rw [this] at h
    cases h
  · simpa using e

set_option maxHeartbeats 2000000 in
theorem g36 (ao : Option Addr) (b o n c : Nat) (S : Nat → ByteArray) (w : World) (h1 : StrsAt w ao b o n S) :
    Calls Tryz.prog 63 #[.slice ao n c] w fun e w' => e = .returned (.bool (gio n S)) ∧ w' = w := by
  have hlen := h1.len
  go_enter Tryz.func63, Tryz.ntmps63
  go_wp2
  go_loop [7] (fun i => ∃ k : Nat, k ≤ n ∧ i = .int .i64 k ∧ Hid (∀ j, j < k → (gn (S j) && (decide (j = 0) || lt (S (j - 1)) (S j))) = true)) (fun i => n - (intOf i).toNat)
  case atStart => exact ⟨0, Nat.zero_le _, rfl, fun j h => absurd h (Nat.not_lt_zero _)⟩
  case round =>
    obtain ⟨k, hk, rfl, HA⟩ := hrel
    by_cases hlt : k < n
    · have e1 := h1.at_ (by omega)
      have g1 := h1.cell k hlt
      have hs := h1.size k hlt
      subst e1
      cases hg : gn (S k)
      · have HF : Hid (gio n S = false) := allTo_false k hlt (by rw [hg]; rfl)
        go_wp2_with (go_at_call 79; refine (g41 _ _ hs).mono ?_; rintro e w' ⟨rfl, rfl⟩)
        go_ret
        exact ⟨ret_bool HF.out.symm, rfl⟩
      · by_cases h0 : k = 0
        · subst h0
          have g1' : w.cell? ⟨b, o, none⟩ = some (.string (S 0)) := g1
          have HK : Hid ((gn (S 0) && (decide (0 = 0) || lt (S (0 - 1)) (S 0))) = true) := by rw [hg]; rfl
          go_wp2_with (go_at_call 79; refine (g41 _ _ hs).mono ?_; rintro e w' ⟨rfl, rfl⟩)
          go_round
          case rel => exact ⟨1, by omega, by go_num, fun j hj => by
            have : j = 0 := by omega
            subst this; exact HK.out⟩
          case measure => simp [intOf]; omega
        · obtain ⟨q, rfl⟩ : ∃ q, k = q + 1 := ⟨k - 1, by omega⟩
          have g2 := h1.cell q (by omega)
          cases hl : lt (S q) (S (q + 1))
          · have HF : Hid (gio n S = false) := allTo_false (q + 1) hlt (by rw [hg]; simp [hl])
            have hl' : Op.bytesLess (S q).toList (S (q + 1)).toList = false := hl
            go_wp2_with (go_at_call 79; refine (g41 _ _ hs).mono ?_; rintro e w' ⟨rfl, rfl⟩)
            go_ret
            exact ⟨ret_bool HF.out.symm, rfl⟩
          · have HK : Hid ((gn (S (q + 1)) && (decide (q + 1 = 0) || lt (S (q + 1 - 1)) (S (q + 1)))) = true) := by show (_ && _) = true; rw [hg]; simp [hl]
            have hl' : Op.bytesLess (S q).toList (S (q + 1)).toList = true := hl
            go_wp2_with (go_at_call 79; refine (g41 _ _ hs).mono ?_; rintro e w' ⟨rfl, rfl⟩)
            go_round
            case rel => exact ⟨q + 1 + 1, by omega, by go_num, fun j hj => by
              by_cases e : j = q + 1
              · subst e; exact HK.out
              · exact HA.out j (by omega)⟩
            case measure => simp [intOf]; omega
    · have HF : Hid (gio n S = true) := allTo_true (fun j hj => HA.out j (by omega))
      go_wp2
      go_ret
      exact ⟨ret_bool HF.out.symm, rfl⟩

/-- The shape, way by way. -/
theorem shp4 {d : ND} (h : d.kind = 4) : shp d = decide (d.nn = 0 ∧ d.nk = 2) := by unfold shp; rw [if_pos h]
theorem shp3 {d : ND} (h : d.kind = 3) : shp d = (decide (d.nn = d.nk) && gio d.nn d.nm) := by unfold shp; rw [if_neg (by omega), if_pos h]
theorem shp012 {d : ND} (h : d.kind = 0 ∨ d.kind = 1 ∨ d.kind = 2) : shp d = decide (d.nn = 0 ∧ d.nk = 0) := by unfold shp; rw [if_neg (by omega), if_neg (by omega), if_pos h]
theorem shpno {d : ND} (h : d.kind ≠ 0 ∧ d.kind ≠ 1 ∧ d.kind ≠ 2 ∧ d.kind ≠ 3 ∧ d.kind ≠ 4) : shp d = false := by unfold shp; rw [if_neg (by omega), if_neg (by omega), if_neg (by omega)]

theorem fin2 {nn nk : Nat} {m : Nat} (x : Bool) (hx : x = decide (nk = m)) (h : nn = 0) : x = decide (nn = 0 ∧ nk = m) := by rw [hx, decide_eq_decide]; exact ⟨fun e => ⟨h, e⟩, fun e => e.2⟩
theorem fin3 {nn nk : Nat} {m : Nat} (h : ¬ nn = 0) : false = decide (nn = 0 ∧ nk = m) := (decide_eq_false (fun e => h e.1)).symm
theorem beq_cast (n m : Nat) : ((n : Int) == (m : Int)) = decide (n = m) := by rw [Bool.eq_iff_iff]; simp; omega

set_option maxHeartbeats 4000000 in
theorem g24 (p : NP) (d : ND) (w : World) (h1 : NodeAt w p d) :
    Calls Tryz.prog 42 #[ndv p d] w fun e w' => e = .returned (.bool (shp d)) ∧ Below w.heap.size w w' := by
  have HB : Hid (∀ w', Below w.heap.size w w' → NodeAt w' p d) := fun w' hb => h1.below hb
  clear h1
  unfold ndv
  by_cases k3 : d.kind = 3
  · have HS : Hid (shp d = (decide (d.nn = d.nk) && gio d.nn d.nm)) := shp3 k3
    have b0 : (d.kind == 0) = false := beq_eq_false_iff_ne.2 (by omega)
    have b1 : (d.kind == 1) = false := beq_eq_false_iff_ne.2 (by omega)
    have b2 : (d.kind == 2) = false := beq_eq_false_iff_ne.2 (by omega)
    have b3 : (d.kind == 3) = true := beq_iff_eq.2 k3
    clear k3
    by_cases e : d.nn = d.nk
    · have he : Hid (d.nn = d.nk) := e
      have b : ((d.nn : Int) == (d.nk : Int)) = true := by rw [beq_iff_eq]; omega
      clear e
      go_enter Tryz.func42, Tryz.ntmps42
      go_wp2_with fail
      refine (g36 p.a1 p.b1 p.o1 d.nn p.c1 d.nm _ (by exact (HB.out _ (bel1 _ _)).names)).mono ?_
      rintro e w' ⟨rfl, rfl⟩
      go_wp2
      go_ret
      exact ⟨ret_bool (by rw [HS.out, decide_eq_true he.out, Bool.true_and]), bel1 _ _⟩
    · have he : Hid (¬ d.nn = d.nk) := e
      have b : ((d.nn : Int) == (d.nk : Int)) = false := beq_eq_false_iff_ne.2 (by omega)
      clear e
      go_enter Tryz.func42, Tryz.ntmps42
      go_wp2
      go_ret
      exact ⟨ret_bool (by rw [HS.out, decide_eq_false he.out, Bool.false_and]), bel1 _ _⟩
  by_cases k4 : d.kind = 4
  · have HS : Hid (shp d = decide (d.nn = 0 ∧ d.nk = 2)) := shp4 k4
    have b0 : (d.kind == 0) = false := beq_eq_false_iff_ne.2 (by omega)
    have b1 : (d.kind == 1) = false := beq_eq_false_iff_ne.2 (by omega)
    have b2 : (d.kind == 2) = false := beq_eq_false_iff_ne.2 (by omega)
    have b3 : (d.kind == 3) = false := beq_eq_false_iff_ne.2 (by omega)
    have b4 : (d.kind == 4) = true := beq_iff_eq.2 k4
    clear k4 k3
    by_cases e : d.nn = 0
    · have he : Hid (d.nn = 0) := e
      have b : ((d.nn : Int) == 0) = true := by rw [beq_iff_eq]; omega
      clear e
      go_enter Tryz.func42, Tryz.ntmps42
      go_wp2
      go_ret
      exact ⟨ret_bool (by rw [HS.out]; exact fin2 _ (beq_cast _ _) he.out), bel1 _ _⟩
    · have he : Hid (¬ d.nn = 0) := e
      have b : ((d.nn : Int) == 0) = false := beq_eq_false_iff_ne.2 (by omega)
      clear e
      go_enter Tryz.func42, Tryz.ntmps42
      go_wp2
      go_ret
      exact ⟨ret_bool (by rw [HS.out]; exact fin3 he.out), bel1 _ _⟩
  by_cases k5 : d.kind = 0 ∨ d.kind = 1 ∨ d.kind = 2
  · have HS : Hid (shp d = decide (d.nn = 0 ∧ d.nk = 0)) := shp012 k5
    have hex : ∃ x y z : Bool, (d.kind == 0) = x ∧ (d.kind == 1) = y ∧ (d.kind == 2) = z ∧ (x || y || z) = true := ⟨_, _, _, rfl, rfl, rfl, by simpa [or_assoc] using k5⟩
    obtain ⟨x, y, z, b0, b1, b2, hxyz⟩ := hex
    clear k5 k4 k3
    by_cases e : d.nn = 0
    · have he : Hid (d.nn = 0) := e
      have b : ((d.nn : Int) == 0) = true := by rw [beq_iff_eq]; omega
      clear e
      cases x <;> cases y <;> cases z <;> first
        | (exfalso; revert hxyz; decide)
        | (clear hxyz
           go_enter Tryz.func42, Tryz.ntmps42
           go_wp2
           go_ret
           exact ⟨ret_bool (by rw [HS.out]; exact fin2 _ (beq_cast _ _) he.out), bel1 _ _⟩)
    · have he : Hid (¬ d.nn = 0) := e
      have b : ((d.nn : Int) == 0) = false := beq_eq_false_iff_ne.2 (by omega)
      clear e
      cases x <;> cases y <;> cases z <;> first
        | (exfalso; revert hxyz; decide)
        | (clear hxyz
           go_enter Tryz.func42, Tryz.ntmps42
           go_wp2
           go_ret
           exact ⟨ret_bool (by rw [HS.out]; exact fin3 he.out), bel1 _ _⟩)
  · have HS : Hid (shp d = false) := shpno (by omega)
    have b0 : (d.kind == 0) = false := beq_eq_false_iff_ne.2 (by omega)
    have b1 : (d.kind == 1) = false := beq_eq_false_iff_ne.2 (by omega)
    have b2 : (d.kind == 2) = false := beq_eq_false_iff_ne.2 (by omega)
    have b3 : (d.kind == 3) = false := beq_eq_false_iff_ne.2 (by omega)
    have b4 : (d.kind == 4) = false := beq_eq_false_iff_ne.2 (by omega)
    clear k3 k4 k5
    go_enter Tryz.func42, Tryz.ntmps42
    go_wp2
    go_ret
    exact ⟨ret_bool HS.out.symm, bel1 _ _⟩

end Go.Proofs.YtoanhnmpkonbfaaGreatDoor

namespace Go.Proofs.YtoanhnmpkonbfaaGreatDoor
open Go.RowKit

theorem vgr_big {N : Nat} {G : Nat → ND} (h : 4000 < N) : vgr N G = false := by unfold vgr; rw [decide_eq_false (by omega), Bool.false_and]
theorem vgr_no {N : Nat} {G : Nat → ND} (k : Nat) (hk : k < N) (h : nok (G k) N = false) : vgr N G = false := by unfold vgr; rw [allTo_false k hk h, Bool.and_false]
theorem vgr_yes {N : Nat} {G : Nat → ND} (hN : N ≤ 4000) (h : ∀ j, j < N → nok (G j) N = true) : vgr N G = true := by unfold vgr; rw [decide_eq_true hN, allTo_true h]; rfl
theorem nok_s {d : ND} {N : Int} (h : shp d = false) : nok d N = false := by unfold nok; rw [h, Bool.false_and]
theorem nok_k {d : ND} {N : Int} (h : kok d.nk d.kd N = false) : nok d N = false := by unfold nok; rw [h, Bool.and_false]
theorem nok_y {d : ND} {N : Int} (h : shp d = true) (h' : kok d.nk d.kd N = true) : nok d N = true := by unfold nok; rw [h, h']; rfl

set_option maxHeartbeats 2000000 in
theorem g14 (ao : Option Addr) (b o N c : Nat) (p : Nat → NP) (G : Nat → ND) (w : World) (h1 : NodesAt w ao b o N p G) :
    Calls Tryz.prog 24 #[.agg #[.slice ao N c]] w fun e w' => e = .returned (.bool (vgr N G)) ∧ Below w.heap.size w w' := by
  have HB : Hid (∀ w', Below w.heap.size w w' → NodesAt w' ao b o N p G) := fun w' hb => h1.below hb
  have A1 := h1.at_
  have hlen := h1.len
  clear h1
  by_cases hbig : 4000 < N
  · have HV : Hid (vgr N G = false) := vgr_big hbig
    go_enter Tryz.func24, Tryz.ntmps24
    go_wp2
    go_ret
    exact ⟨ret_bool HV.out.symm, bel1 _ _⟩
  go_enter Tryz.func24, Tryz.ntmps24
  go_wp2
  go_loopw [12] (fun i wr => ∃ k : Nat, k ≤ N ∧ i = .int .i64 k ∧ Below w.heap.size w wr ∧ w.heap.size < wr.heap.size ∧ wr.cell? ⟨w.heap.size, 0, none⟩ = some (.slice ao N c) ∧ Hid (∀ j, j < k → nok (G j) N = true)) (fun i _ => N - (intOf i).toNat)
  case atStart => exact ⟨0, Nat.zero_le _, rfl, bel1 _ _, by simp, by simp, fun j h => absurd h (Nat.not_lt_zero _)⟩
  case round =>
    obtain ⟨k, hk, rfl, hb, hz, hc, HA⟩ := hrel
    by_cases hlt : k < N
    · have e1 := A1 (by omega)
      have q1 := HB.out wr hb
      have g0 := q1.c0 k hlt
      have g1 := q1.c1 k hlt
      have g2 := q1.c2 k hlt
      have N1 := q1.node k hlt
      clear q1 HB
      subst e1
      go_wp2_with fail
      refine (g24 (p k) (G k) _ (by exact N1.below (bel1 _ _))).mono ?_
      rintro e w' ⟨rfl, hb'⟩
      have B1 : Below wr.heap.size wr w' := (bel1 wr _).trans (hb'.mono (by simp))
      have B2 : Below w.heap.size w w' := hb.trans (B1.mono hb.size)
      have hc' : w'.cell? ⟨w.heap.size, 0, none⟩ = some (.slice (some ⟨b, o, none⟩) N c) := by rw [B1.cell (p := ⟨w.heap.size, 0, none⟩) hz]; exact hc
      have hk' : w'.cell? ⟨wr.heap.size, 2, none⟩ = some (.slice (p k).a2 (G k).nk (p k).c2) := by rw [hb'.cell (p := ⟨wr.heap.size, 2, none⟩) (by simp)]; simp
      have K2 : IntsAt w' (p k).a2 (p k).b2 (p k).o2 (G k).nk (G k).kd := (N1.below B1).kids
      have hz' : w.heap.size < w'.heap.size := by have := B1.size; omega
      clear hb' N1
      cases hs : shp (G k)
      · have HF : Hid (vgr N G = false) := vgr_no k hlt (nok_s hs)
        go_wp2
        go_ret
        exact ⟨ret_bool HF.out.symm, B2⟩
      · have HSS : Hid (shp (G k) = true) := hs
        go_wp2_with fail
        refine (g15 (some ⟨b, o, none⟩) N c (p k).a2 (p k).b2 (p k).o2 (G k).nk (p k).c2 (G k).kd _ K2 hlen).mono ?_
        rintro e w'' ⟨rfl, hb''⟩
        have B3 : Below w.heap.size w w'' := B2.trans (hb''.mono B2.size)
        have hc'' : w''.cell? ⟨w.heap.size, 0, none⟩ = some (.slice (some ⟨b, o, none⟩) N c) := by rw [hb''.cell (p := ⟨w.heap.size, 0, none⟩) hz']; exact hc'
        have hz'' : w.heap.size < w''.heap.size := by have := hb''.size; omega
        clear hb'' K2
        cases hkk : kok (G k).nk (G k).kd N
        · have HF : Hid (vgr N G = false) := vgr_no k hlt (nok_k hkk)
          go_wp2
          go_ret
          exact ⟨ret_bool HF.out.symm, B3⟩
        · have HK : Hid (nok (G k) N = true) := nok_y HSS.out hkk
          go_wp2
          go_roundw
          case rel => exact ⟨k + 1, by omega, by go_num, B3, hz'', hc'', fun j hj => by
            by_cases e : j = k
            · subst e; exact HK.out
            · exact HA.out j (by omega)⟩
          case measure => simp [intOf]; omega
    · have HF : Hid (vgr N G = true) := vgr_yes (by omega) (fun j hj => HA.out j (by omega))
      go_wp2
      go_ret
      exact ⟨ret_bool HF.out.symm, hb⟩

end Go.Proofs.YtoanhnmpkonbfaaGreatDoor

