/-
  MV
-/
import Derived.Test.YtpbpbppimkeodaaGreatDoorProg
import Derived.Test.YtpbpbppimkeodaaGreatDoorSa
import Derived.WalkKit
import Derived.WalkSpells
import Derived.WalkLawsBesides
import Derived.Deep.QuietTactic
import Derived.BigQuiet
import Derived.Test.YtpbpbppimkeodaaGreatDoorSb
namespace Go.Proofs.YtpbpbppimkeodaaGreatDoor
open Go.RowKit
set_option maxHeartbeats 400000 in
theorem g42 (c : Int) (w : World) :
  Calls Tryz.prog 114 #[.int .u8 c] w fun e w'=>e = .returned (.bool (sl c)) /\ w' = w:=by
 by_cases h1 : 97 <= c <;> by_cases h2 : c <= 122 <;>
 (go_enter Tryz.func114,Tryz.ntmps114
  go_wp2
  go_ret
  exact ⟨by simp [sl,h1,h2],rfl⟩)
set_option maxHeartbeats 1000000 in
theorem g39 (c : Int) (w : World) :
  Calls Tryz.prog 93 #[.int .u8 c] w fun e w'=>e = .returned (.bool (wb c)) /\ w' = w:=by
 by_cases h1 : 97 <= c <;> by_cases h2 : c <= 122 <;> by_cases h3 : 48 <= c <;> by_cases h4 : c <= 57 <;> by_cases h5 : c = 95 <;> try (exfalso;omega)
 all_goals
  have h5' : (c == 95) = decide (c = 95):=by rw [Bool.eq_iff_iff];simp
  go_enter Tryz.func93,Tryz.ntmps93
  go_wp2
  go_ret
  exact ⟨by simp [wb, *],rfl⟩
set_option maxHeartbeats 1000000 in
theorem g40 (s : ByteArray) (w : World) :
  Calls Tryz.prog 94 #[.string s] w fun e w'=>e = .returned (.bool (rsv s.toList)) /\ w' = w:=by
 go_enter Tryz.func94,Tryz.ntmps94
 go_wp2
 all_goals
  go_ret
  exact ⟨by first | (simp_all [rsv];done) | (refine congrArg (fun b=>Ending.returned (Value.bool b)) ?_;rw [Bool.eq_iff_iff];simp_all [rsv]),rfl⟩
set_option maxHeartbeats 1000000 in
theorem g44 (s : ByteArray) (w : World) :
  Calls Tryz.prog 116 #[.string s] w fun e w'=>e = .returned (.bool (rsv s.toList)) /\ w' = w:=by
 go_enter Tryz.func116,Tryz.ntmps116
 go_wp2
 all_goals
  go_ret
  exact ⟨by simp_all [rsv],rfl⟩
theorem ret_bool {a b : Bool} (h : a = b) : Ending.returned (.bool a) = .returned (.bool b):=by rw [h]
set_option maxHeartbeats 1000000 in
theorem g43 (c : Int) (w : World) :
  Calls Tryz.prog 115 #[.int .u8 c] w fun e w'=>e = .returned (.bool (wb c)) /\ w' = w:=by
 by_cases h1 : 97 <= c <;> by_cases h2 : c <= 122 <;> by_cases h3 : 48 <= c <;> by_cases h4 : c <= 57 <;> by_cases h5 : c = 95 <;> try (exfalso;omega)
 all_goals
  have h5' : (c == 95) = decide (c = 95):=by rw [Bool.eq_iff_iff];simp
  have h6 : sl c = decide (97 <= c /\ c <= 122):=rfl
  go_enter Tryz.func115,Tryz.ntmps115
  go_wp2_with (go_at_call 114;refine (g42 _ _).mono ?_;rintro e w' ⟨rfl,rfl⟩)
  go_ret
  exact ⟨by simp [wb, *] <;> omega,rfl⟩
set_option maxHeartbeats 1000000 in
theorem g32 (s : ByteArray) (w : World) (_hs : s.size <= 9223372036854775807) :
  Calls Tryz.prog 65 #[.string s] w fun e w'=>e = .returned (.bool (gn s)) /\ w' = w:=by
 by_cases h1 : s.size < 1
 ·have HG : Hid (gn s = false):=gn_short (s:=s) (Or.inl h1)
  go_enter Tryz.func65,Tryz.ntmps65
  go_wp2
  go_ret
  exact ⟨ret_bool HG.out.symm,rfl⟩
 by_cases h2 : 12 < s.size
 ·have HG : Hid (gn s = false):=gn_short (s:=s) (Or.inr h2)
  go_enter Tryz.func65,Tryz.ntmps65
  go_wp2
  go_ret
  exact ⟨ret_bool HG.out.symm,rfl⟩
 have hp : 0 < s.size:=by omega
 have H0 : Hid (sl ((s[0]'hp).toNat : Int) = decide (97 <= ((s[0]'hp).toNat : Int) /\ ((s[0]'hp).toNat : Int) <= 122)):=rfl
 by_cases h3 : 97 <= ((s[0]'hp).toNat : Int)
 case neg=>
  have HG : Hid (gn s = false):=gn_head hp (by rw [H0.out];exact decide_eq_false (fun h=>h3 h.1))
  have h3' : ((s[0]'hp).toNat : Int) < 97:=by omega
  go_enter Tryz.func65,Tryz.ntmps65
  go_wp2
  go_ret
  exact ⟨ret_bool HG.out.symm,rfl⟩
 by_cases h4 : ((s[0]'hp).toNat : Int) <= 122
 case neg=>
  have HG : Hid (gn s = false):=gn_head hp (by rw [H0.out];exact decide_eq_false (fun h=>h4 h.2))
  have h4' : 122 < ((s[0]'hp).toNat : Int):=by omega
  go_enter Tryz.func65,Tryz.ntmps65
  go_wp2
  go_ret
  exact ⟨ret_bool HG.out.symm,rfl⟩
 have Hs : Hid (sl ((s[0]'hp).toNat : Int) = true):=by rw [H0.out];exact decide_eq_true ⟨h3,h4⟩
 go_enter Tryz.func65,Tryz.ntmps65
 go_wp2
 go_loop [3] (fun i=>∃ k : Nat,k <= s.size /\ i = .int .i64 k /\ Hid (∀ j (h : j < s.size),j < k -> wb (s[j].toNat : Int) = true)) (fun i=>s.size - (intOf i).toNat)
 case atStart=>exact ⟨0,Nat.zero_le _,rfl,fun j _ h=>absurd h (Nat.not_lt_zero _)⟩
 case round=>
  obtain ⟨k,hk,rfl,HA⟩:=hrel
  by_cases hlt : k < s.size
  ·cases hw : wb (s[k].toNat : Int)
   ·have HG : Hid (gn s = false):=gn_byte k hlt hw
    go_wp2_with (go_at_call 93;refine (g39 _ _).mono ?_;rintro e w' ⟨rfl,rfl⟩)
    go_ret
    exact ⟨ret_bool HG.out.symm,rfl⟩
   ·have HW : Hid (wb (s[k].toNat : Int) = true):=hw
    go_wp2_with (go_at_call 93;refine (g39 _ _).mono ?_;rintro e w' ⟨rfl,rfl⟩)
    go_round
    case rel=>exact ⟨k + 1,by omega,by go_num,fun j h hj=>by
     by_cases e : j = k
     ·subst e;exact HW.out
     ·exact HA.out j h (by omega)⟩
    case measure=>simp [intOf];omega
  ·have HE : Hid (gn s = !rsv s.toList):=gn_end (by omega) (by omega) Hs.out (fun j h=>HA.out j h (by omega))
   go_wp2_with (go_at_call 94;refine (g40 _ _).mono ?_;rintro e w' ⟨rfl,rfl⟩)
   go_ret
   exact ⟨ret_bool HE.out.symm,rfl⟩
set_option maxHeartbeats 1000000 in
theorem g41 (s : ByteArray) (w : World) (_hs : s.size <= 9223372036854775807) :
  Calls Tryz.prog 96 #[.string s] w fun e w'=>e = .returned (.bool (gn s)) /\ w' = w:=by
 by_cases h1 : s.size = 0
 ·have HG : Hid (gn s = false):=gn_short (s:=s) (Or.inl (by omega))
  go_enter Tryz.func96,Tryz.ntmps96
  go_wp2
  go_ret
  exact ⟨ret_bool HG.out.symm,rfl⟩
 by_cases h2 : 12 < s.size
 ·have HG : Hid (gn s = false):=gn_short (s:=s) (Or.inr h2)
  have h1' : ((s.size : Int) == 0) = false:=beq_eq_false_iff_ne.2 (by omega)
  go_enter Tryz.func96,Tryz.ntmps96
  go_wp2
  go_ret
  exact ⟨ret_bool HG.out.symm,rfl⟩
 have hp : 0 < s.size:=by omega
 have h1' : ((s.size : Int) == 0) = false:=beq_eq_false_iff_ne.2 (by omega)
 cases h3 : sl ((s[0]'hp).toNat : Int)
 ·have HG : Hid (gn s = false):=gn_head hp h3
  go_enter Tryz.func96,Tryz.ntmps96
  go_wp2_with (go_at_call 114;refine (g42 _ _).mono ?_;rintro e w' ⟨rfl,rfl⟩)
  go_ret
  exact ⟨ret_bool HG.out.symm,rfl⟩
 have Hs : Hid (sl ((s[0]'hp).toNat : Int) = true):=h3
 go_enter Tryz.func96,Tryz.ntmps96
 go_wp2_with (go_at_call 114;refine (g42 _ _).mono ?_;rintro e w' ⟨rfl,rfl⟩)
 clear h3
 go_loop [3] (fun i=>∃ k : Nat,1 <= k /\ k <= s.size /\ i = .int .i64 k /\ Hid (∀ j (h : j < s.size),j < k -> wb (s[j].toNat : Int) = true)) (fun i=>s.size - (intOf i).toNat)
 case atStart=>exact ⟨1,Nat.le_refl _,by omega,rfl,fun j _ h=>by
  have : j = 0:=by omega
  subst this;exact wb_of_sl Hs.out⟩
 case round=>
  obtain ⟨k,hk1,hk,rfl,HA⟩:=hrel
  by_cases hlt : k < s.size
  ·cases hw : wb (s[k].toNat : Int)
   ·have HG : Hid (gn s = false):=gn_byte k hlt hw
    go_wp2_with (go_at_call 115;refine (g43 _ _).mono ?_;rintro e w' ⟨rfl,rfl⟩)
    go_ret
    exact ⟨ret_bool HG.out.symm,rfl⟩
   ·have HW : Hid (wb (s[k].toNat : Int) = true):=hw
    go_wp2_with (go_at_call 115;refine (g43 _ _).mono ?_;rintro e w' ⟨rfl,rfl⟩)
    go_round
    case rel=>exact ⟨k + 1,by omega,by omega,by go_num,fun j h hj=>by
     by_cases e : j = k
     ·subst e;exact HW.out
     ·exact HA.out j h (by omega)⟩
    case measure=>simp [intOf];omega
  ·have HE : Hid (gn s = !rsv s.toList):=gn_end (by omega) (by omega) Hs.out (fun j h=>HA.out j h (by omega))
   go_wp2_with (go_at_call 116;refine (g44 _ _).mono ?_;rintro e w' ⟨rfl,rfl⟩)
   go_ret
   exact ⟨ret_bool HE.out.symm,rfl⟩
set_option maxHeartbeats 1000000 in
theorem g33 (a b : ByteArray) (w : World) (_ha : a.size <= 9223372036854775807) (_hb : b.size <= 9223372036854775807) :
  Calls Tryz.prog 66 #[.string a,.string b] w fun e w'=>e = .returned (.bool (lt a b)) /\ ∃ n,w' = w.drewN n:=by
 go_enter Tryz.func66,Tryz.ntmps66
 go_wp2
 go_loopw [5] (fun i wr=>∃ k : Nat,k <= a.size /\ k <= b.size /\ i = .int .i64 k /\ Hid (∀ j (h1 : j < a.size) (h2 : j < b.size),j < k -> a[j] = b[j]) /\ ∃ m,wr = w.drewN m) (fun i _=>a.size - (intOf i).toNat)
 case atStart=>exact ⟨0,Nat.zero_le _,Nat.zero_le _,rfl,fun j _ _ h=>absurd h (Nat.not_lt_zero _),0,rfl⟩
 case round=>
  obtain ⟨k,hka,hkb,rfl,HA,m,rfl⟩:=hrel
  by_cases h1 : k < a.size
  ·by_cases h2 : k < b.size
   ·by_cases h3 : a[k].toNat = b[k].toNat
    ·have H3 : Hid (a[k] = b[k]):=UInt8.toNat_inj.1 h3
     have h3' : ((a[k].toNat : Int) != (b[k].toNat : Int)) = false:=by rw [bne_eq_false_iff_eq];omega
     clear h3
     go_wp2
     go_quiet (fail)
     go_wp2
     go_roundw
     case rel=>exact ⟨k + 1,by omega,by omega,by go_num,fun j q1 q2 hj=>by
      by_cases e : j = k
      ·subst e;exact H3.out
      ·exact HA.out j q1 q2 (by omega),_,rfl⟩
     case measure=>simp [intOf];omega
    ·have HE : Hid (lt a b = decide ((a[k].toNat : Int) < (b[k].toNat : Int))):=lt_at h1 h2 HA.out (fun e=>h3 (by rw [e]))
     have h3' : ((a[k].toNat : Int) != (b[k].toNat : Int)) = true:=by rw [bne_iff_ne];omega
     clear h3
     go_wp2
     go_quiet (fail)
     go_wp2
     go_quiet (fail)
     go_wp2
     go_ret
     exact ⟨ret_bool (by rw [HE.out];simp),_,by rw [World.drewN_drewN,World.drewN_drewN]⟩
   ·have HE : Hid (lt a b = decide ((a.size : Int) < (b.size : Int))):=lt_end hka hkb HA.out (Or.inr (by omega))
    go_wp2
    go_ret
    exact ⟨ret_bool (by rw [HE.out];simp),_,rfl⟩
  ·have HE : Hid (lt a b = decide ((a.size : Int) < (b.size : Int))):=lt_end hka hkb HA.out (Or.inl (by omega))
   go_wp2
   go_ret
   exact ⟨ret_bool (by rw [HE.out];simp),_,rfl⟩
set_option maxHeartbeats 1000000 in
theorem g15 (ga : Option Addr) (N gc : Nat) (ao : Option Addr) (b o n c : Nat) (D : Nat -> Int) (w : World) (h1 : IntsAt w ao b o n D) (_hN : N <= 9223372036854775807) :
  Calls Tryz.prog 33 #[.agg #[.slice ga N gc],.slice ao n c] w fun e w'=>e = .returned (.bool (kok n D N)) /\ Below w.heap.size w w':=by
 have hlen:=h1.len
 have HB : Hid (∀ w',Below w.heap.size w w' -> IntsAt w' ao b o n D):=fun w' hb=>h1.below hb
 have A1:=h1.at_
 clear h1
 go_enter Tryz.func33,Tryz.ntmps33
 go_wp2
 go_loop [9] (fun i=>∃ k : Nat,k <= n /\ i = .int .i64 k /\ Hid (∀ j,j < k -> decide (0 <= D j /\ D j < N) = true)) (fun i=>n - (intOf i).toNat)
 case atStart=>exact ⟨0,Nat.zero_le _,rfl,fun j h=>absurd h (Nat.not_lt_zero _)⟩
 case round=>
  obtain ⟨k,hk,rfl,HA⟩:=hrel
  by_cases hlt : k < n
  ·have e1:=A1 (by omega)
   have g1:=(HB.out _ (bel1 w (.cells #[.slice ga N gc] 29))).cell k hlt
   subst e1
   by_cases h2 : D k < 0
   ·have HF : Hid (kok n D N = false):=allTo_false k hlt (decide_eq_false (by omega))
    go_wp2
    go_ret
    exact ⟨ret_bool HF.out.symm,bel1 _ _⟩
   ·by_cases h3 : D k < N
    ·have HK : Hid (decide (0 <= D k /\ D k < N) = true):=decide_eq_true ⟨by omega,h3⟩
     go_wp2
     go_round
     case rel=>exact ⟨k + 1,by omega,by go_num,fun j hj=>by
      by_cases e : j = k
      ·subst e;exact HK.out
      ·exact HA.out j (by omega)⟩
     case measure=>simp [intOf];omega
    ·have HF : Hid (kok n D N = false):=allTo_false k hlt (decide_eq_false (by omega))
     go_wp2
     go_ret
     exact ⟨ret_bool HF.out.symm,bel1 _ _⟩
  ·have HF : Hid (kok n D N = true):=allTo_true (fun j hj=>HA.out j (by omega))
   go_wp2
   go_ret
   exact ⟨ret_bool HF.out.symm,bel1 _ _⟩
set_option maxHeartbeats 2000000 in
theorem g36 (ao : Option Addr) (b o n c : Nat) (S : Nat -> ByteArray) (w : World) (h1 : StrsAt w ao b o n S) :
  Calls Tryz.prog 77 #[.slice ao n c] w fun e w'=>e = .returned (.bool (gio n S)) /\ w' = w:=by
 have hlen:=h1.len
 go_enter Tryz.func77,Tryz.ntmps77
 go_wp2
 go_loop [7] (fun i=>∃ k : Nat,k <= n /\ i = .int .i64 k /\ Hid (∀ j,j < k -> (gn (S j) && (decide (j = 0) || lt (S (j - 1)) (S j))) = true)) (fun i=>n - (intOf i).toNat)
 case atStart=>exact ⟨0,Nat.zero_le _,rfl,fun j h=>absurd h (Nat.not_lt_zero _)⟩
 case round=>
  obtain ⟨k,hk,rfl,HA⟩:=hrel
  by_cases hlt : k < n
  ·have e1:=h1.at_ (by omega)
   have g1:=h1.cell k hlt
   have hs:=h1.size k hlt
   subst e1
   cases hg : gn (S k)
   ·have HF : Hid (gio n S = false):=allTo_false k hlt (by rw [hg];rfl)
    go_wp2_with (go_at_call 96;refine (g41 _ _ hs).mono ?_;rintro e w' ⟨rfl,rfl⟩)
    go_ret
    exact ⟨ret_bool HF.out.symm,rfl⟩
   ·by_cases h0 : k = 0
    ·subst h0
     have g1' : w.cell? ⟨b,o,none⟩ = some (.string (S 0)):=g1
     have HK : Hid ((gn (S 0) && (decide (0 = 0) || lt (S (0 - 1)) (S 0))) = true):=by rw [hg];rfl
     go_wp2_with (go_at_call 96;refine (g41 _ _ hs).mono ?_;rintro e w' ⟨rfl,rfl⟩)
     go_round
     case rel=>exact ⟨1,by omega,by go_num,fun j hj=>by
      have : j = 0:=by omega
      subst this;exact HK.out⟩
     case measure=>simp [intOf];omega
    ·obtain ⟨q,rfl⟩ : ∃ q,k = q + 1:=⟨k - 1,by omega⟩
     have g2:=h1.cell q (by omega)
     cases hl : lt (S q) (S (q + 1))
     ·have HF : Hid (gio n S = false):=allTo_false (q + 1) hlt (by rw [hg];simp [hl])
      have hl' : Op.bytesLess (S q).toList (S (q + 1)).toList = false:=hl
      go_wp2_with (go_at_call 96;refine (g41 _ _ hs).mono ?_;rintro e w' ⟨rfl,rfl⟩)
      go_ret
      exact ⟨ret_bool HF.out.symm,rfl⟩
     ·have HK : Hid ((gn (S (q + 1)) && (decide (q + 1 = 0) || lt (S (q + 1 - 1)) (S (q + 1)))) = true):=by show (_ && _) = true;rw [hg];simp [hl]
      have hl' : Op.bytesLess (S q).toList (S (q + 1)).toList = true:=hl
      go_wp2_with (go_at_call 96;refine (g41 _ _ hs).mono ?_;rintro e w' ⟨rfl,rfl⟩)
      go_round
      case rel=>exact ⟨q + 1 + 1,by omega,by go_num,fun j hj=>by
       by_cases e : j = q + 1
       ·subst e;exact HK.out
       ·exact HA.out j (by omega)⟩
      case measure=>simp [intOf];omega
  ·have HF : Hid (gio n S = true):=allTo_true (fun j hj=>HA.out j (by omega))
   go_wp2
   go_ret
   exact ⟨ret_bool HF.out.symm,rfl⟩
theorem shp4 {d : ND} (h : d.kind = 4) : shp d = decide (d.nn = 0 /\ d.nk = 2):=by unfold shp;rw [if_pos h]
theorem shp3 {d : ND} (h : d.kind = 3) : shp d = (decide (d.nn = d.nk) && gio d.nn d.nm):=by unfold shp;rw [if_neg (by omega),if_pos h]
theorem shp012 {d : ND} (h : d.kind = 0 \/ d.kind = 1 \/ d.kind = 2) : shp d = decide (d.nn = 0 /\ d.nk = 0):=by unfold shp;rw [if_neg (by omega),if_neg (by omega),if_pos h]
theorem shpno {d : ND} (h : d.kind ≠ 0 /\ d.kind ≠ 1 /\ d.kind ≠ 2 /\ d.kind ≠ 3 /\ d.kind ≠ 4) : shp d = false:=by unfold shp;rw [if_neg (by omega),if_neg (by omega),if_neg (by omega)]
theorem fin2 {nn nk : Nat} {m : Nat} (x : Bool) (hx : x = decide (nk = m)) (h : nn = 0) : x = decide (nn = 0 /\ nk = m):=by rw [hx,decide_eq_decide];exact ⟨fun e=>⟨h,e⟩,fun e=>e.2⟩
theorem fin3 {nn nk : Nat} {m : Nat} (h : ¬ nn = 0) : false = decide (nn = 0 /\ nk = m):=(decide_eq_false (fun e=>h e.1)).symm
theorem beq_cast (n m : Nat) : ((n : Int) == (m : Int)) = decide (n = m):=by rw [Bool.eq_iff_iff];simp;omega
set_option maxHeartbeats 4000000 in
theorem g24 (p : NP) (d : ND) (w : World) (h1 : NodeAt w p d) :
  Calls Tryz.prog 54 #[ndv p d] w fun e w'=>e = .returned (.bool (shp d)) /\ Below w.heap.size w w':=by
 have HB : Hid (∀ w',Below w.heap.size w w' -> NodeAt w' p d):=fun w' hb=>h1.below hb
 clear h1
 unfold ndv
 by_cases k3 : d.kind = 3
 ·have HS : Hid (shp d = (decide (d.nn = d.nk) && gio d.nn d.nm)):=shp3 k3
  have b0 : (d.kind == 0) = false:=beq_eq_false_iff_ne.2 (by omega)
  have b1 : (d.kind == 1) = false:=beq_eq_false_iff_ne.2 (by omega)
  have b2 : (d.kind == 2) = false:=beq_eq_false_iff_ne.2 (by omega)
  have b3 : (d.kind == 3) = true:=beq_iff_eq.2 k3
  clear k3
  by_cases e : d.nn = d.nk
  ·have he : Hid (d.nn = d.nk):=e
   have b : ((d.nn : Int) == (d.nk : Int)) = true:=by rw [beq_iff_eq];omega
   clear e
   go_enter Tryz.func54,Tryz.ntmps54
   go_wp2_with fail
   refine (g36 p.a1 p.b1 p.o1 d.nn p.c1 d.nm _ (by exact (HB.out _ (bel1 _ _)).names)).mono ?_
   rintro e w' ⟨rfl,rfl⟩
   go_wp2
   go_ret
   exact ⟨ret_bool (by rw [HS.out,decide_eq_true he.out,Bool.true_and]),bel1 _ _⟩
  ·have he : Hid (¬ d.nn = d.nk):=e
   have b : ((d.nn : Int) == (d.nk : Int)) = false:=beq_eq_false_iff_ne.2 (by omega)
   clear e
   go_enter Tryz.func54,Tryz.ntmps54
   go_wp2
   go_ret
   exact ⟨ret_bool (by rw [HS.out,decide_eq_false he.out,Bool.false_and]),bel1 _ _⟩
 by_cases k4 : d.kind = 4
 ·have HS : Hid (shp d = decide (d.nn = 0 /\ d.nk = 2)):=shp4 k4
  have b0 : (d.kind == 0) = false:=beq_eq_false_iff_ne.2 (by omega)
  have b1 : (d.kind == 1) = false:=beq_eq_false_iff_ne.2 (by omega)
  have b2 : (d.kind == 2) = false:=beq_eq_false_iff_ne.2 (by omega)
  have b3 : (d.kind == 3) = false:=beq_eq_false_iff_ne.2 (by omega)
  have b4 : (d.kind == 4) = true:=beq_iff_eq.2 k4
  clear k4 k3
  by_cases e : d.nn = 0
  ·have he : Hid (d.nn = 0):=e
   have b : ((d.nn : Int) == 0) = true:=by rw [beq_iff_eq];omega
   clear e
   go_enter Tryz.func54,Tryz.ntmps54
   go_wp2
   go_ret
   exact ⟨ret_bool (by rw [HS.out];exact fin2 _ (beq_cast _ _) he.out),bel1 _ _⟩
  ·have he : Hid (¬ d.nn = 0):=e
   have b : ((d.nn : Int) == 0) = false:=beq_eq_false_iff_ne.2 (by omega)
   clear e
   go_enter Tryz.func54,Tryz.ntmps54
   go_wp2
   go_ret
   exact ⟨ret_bool (by rw [HS.out];exact fin3 he.out),bel1 _ _⟩
 by_cases k5 : d.kind = 0 \/ d.kind = 1 \/ d.kind = 2
 ·have HS : Hid (shp d = decide (d.nn = 0 /\ d.nk = 0)):=shp012 k5
  have hex : ∃ x y z : Bool,(d.kind == 0) = x /\ (d.kind == 1) = y /\ (d.kind == 2) = z /\ (x || y || z) = true:=⟨_,_,_,rfl,rfl,rfl,by simpa [or_assoc] using k5⟩
  obtain ⟨x,y,z,b0,b1,b2,hxyz⟩:=hex
  clear k5 k4 k3
  by_cases e : d.nn = 0
  ·have he : Hid (d.nn = 0):=e
   have b : ((d.nn : Int) == 0) = true:=by rw [beq_iff_eq];omega
   clear e
   cases x <;> cases y <;> cases z <;> first
    | (exfalso;revert hxyz;decide)
    | (clear hxyz
       go_enter Tryz.func54,Tryz.ntmps54
       go_wp2
       go_ret
       exact ⟨ret_bool (by rw [HS.out];exact fin2 _ (beq_cast _ _) he.out),bel1 _ _⟩)
  ·have he : Hid (¬ d.nn = 0):=e
   have b : ((d.nn : Int) == 0) = false:=beq_eq_false_iff_ne.2 (by omega)
   clear e
   cases x <;> cases y <;> cases z <;> first
    | (exfalso;revert hxyz;decide)
    | (clear hxyz
       go_enter Tryz.func54,Tryz.ntmps54
       go_wp2
       go_ret
       exact ⟨ret_bool (by rw [HS.out];exact fin3 he.out),bel1 _ _⟩)
 ·have HS : Hid (shp d = false):=shpno (by omega)
  have b0 : (d.kind == 0) = false:=beq_eq_false_iff_ne.2 (by omega)
  have b1 : (d.kind == 1) = false:=beq_eq_false_iff_ne.2 (by omega)
  have b2 : (d.kind == 2) = false:=beq_eq_false_iff_ne.2 (by omega)
  have b3 : (d.kind == 3) = false:=beq_eq_false_iff_ne.2 (by omega)
  have b4 : (d.kind == 4) = false:=beq_eq_false_iff_ne.2 (by omega)
  clear k3 k4 k5
  go_enter Tryz.func54,Tryz.ntmps54
  go_wp2
  go_ret
  exact ⟨ret_bool HS.out.symm,bel1 _ _⟩
theorem vgr_big {N : Nat} {G : Nat -> ND} (h : 4000 < N) : vgr N G = false:=by unfold vgr;rw [decide_eq_false (by omega),Bool.false_and]
theorem vgr_no {N : Nat} {G : Nat -> ND} (k : Nat) (hk : k < N) (h : nok (G k) N = false) : vgr N G = false:=by unfold vgr;rw [allTo_false k hk h,Bool.and_false]
theorem vgr_yes {N : Nat} {G : Nat -> ND} (hN : N <= 4000) (h : ∀ j,j < N -> nok (G j) N = true) : vgr N G = true:=by unfold vgr;rw [decide_eq_true hN,allTo_true h];rfl
theorem nok_s {d : ND} {N : Int} (h : shp d = false) : nok d N = false:=by unfold nok;rw [h,Bool.false_and]
theorem nok_k {d : ND} {N : Int} (h : kok d.nk d.kd N = false) : nok d N = false:=by unfold nok;rw [h,Bool.and_false]
theorem nok_y {d : ND} {N : Int} (h : shp d = true) (h' : kok d.nk d.kd N = true) : nok d N = true:=by unfold nok;rw [h,h'];rfl
set_option maxHeartbeats 2000000 in
theorem g14 (ao : Option Addr) (b o N c : Nat) (p : Nat -> NP) (G : Nat -> ND) (w : World) (h1 : NodesAt w ao b o N p G) :
  Calls Tryz.prog 32 #[.agg #[.slice ao N c]] w fun e w'=>e = .returned (.bool (vgr N G)) /\ Below w.heap.size w w':=by
 have HB : Hid (∀ w',Below w.heap.size w w' -> NodesAt w' ao b o N p G):=fun w' hb=>h1.below hb
 have A1:=h1.at_
 have hlen:=h1.len
 clear h1
 by_cases hbig : 4000 < N
 ·have HV : Hid (vgr N G = false):=vgr_big hbig
  go_enter Tryz.func32,Tryz.ntmps32
  go_wp2
  go_ret
  exact ⟨ret_bool HV.out.symm,bel1 _ _⟩
 go_enter Tryz.func32,Tryz.ntmps32
 go_wp2
 go_loopw [12] (fun i wr=>∃ k : Nat,k <= N /\ i = .int .i64 k /\ Below w.heap.size w wr /\ w.heap.size < wr.heap.size /\ wr.cell? ⟨w.heap.size,0,none⟩ = some (.slice ao N c) /\ Hid (∀ j,j < k -> nok (G j) N = true)) (fun i _=>N - (intOf i).toNat)
 case atStart=>exact ⟨0,Nat.zero_le _,rfl,bel1 _ _,by simp,by simp,fun j h=>absurd h (Nat.not_lt_zero _)⟩
 case round=>
  obtain ⟨k,hk,rfl,hb,hz,hc,HA⟩:=hrel
  by_cases hlt : k < N
  ·have e1:=A1 (by omega)
   have q1:=HB.out wr hb
   have g0:=q1.c0 k hlt
   have g1:=q1.c1 k hlt
   have g2:=q1.c2 k hlt
   have N1:=q1.node k hlt
   clear q1 HB
   subst e1
   go_wp2_with fail
   refine (g24 (p k) (G k) _ (by exact N1.below (bel1 _ _))).mono ?_
   rintro e w' ⟨rfl,hb'⟩
   have B1 : Below wr.heap.size wr w':=(bel1 wr _).trans (hb'.mono (by simp))
   have B2 : Below w.heap.size w w':=hb.trans (B1.mono hb.size)
   have hc' : w'.cell? ⟨w.heap.size,0,none⟩ = some (.slice (some ⟨b,o,none⟩) N c):=by rw [B1.cell (p:=⟨w.heap.size,0,none⟩) hz];exact hc
   have hk' : w'.cell? ⟨wr.heap.size,2,none⟩ = some (.slice (p k).a2 (G k).nk (p k).c2):=by rw [hb'.cell (p:=⟨wr.heap.size,2,none⟩) (by simp)];simp
   have K2 : IntsAt w' (p k).a2 (p k).b2 (p k).o2 (G k).nk (G k).kd:=(N1.below B1).kids
   have hz' : w.heap.size < w'.heap.size:=by have:=B1.size;omega
   clear hb' N1
   cases hs : shp (G k)
   ·have HF : Hid (vgr N G = false):=vgr_no k hlt (nok_s hs)
    go_wp2
    go_ret
    exact ⟨ret_bool HF.out.symm,B2⟩
   ·have HSS : Hid (shp (G k) = true):=hs
    go_wp2_with fail
    refine (g15 (some ⟨b,o,none⟩) N c (p k).a2 (p k).b2 (p k).o2 (G k).nk (p k).c2 (G k).kd _ K2 hlen).mono ?_
    rintro e w'' ⟨rfl,hb''⟩
    have B3 : Below w.heap.size w w'':=B2.trans (hb''.mono B2.size)
    have hc'' : w''.cell? ⟨w.heap.size,0,none⟩ = some (.slice (some ⟨b,o,none⟩) N c):=by rw [hb''.cell (p:=⟨w.heap.size,0,none⟩) hz'];exact hc'
    have hz'' : w.heap.size < w''.heap.size:=by have:=hb''.size;omega
    clear hb'' K2
    cases hkk : kok (G k).nk (G k).kd N
    ·have HF : Hid (vgr N G = false):=vgr_no k hlt (nok_k hkk)
     go_wp2
     go_ret
     exact ⟨ret_bool HF.out.symm,B3⟩
    ·have HK : Hid (nok (G k) N = true):=nok_y HSS.out hkk
     go_wp2
     go_roundw
     case rel=>exact ⟨k + 1,by omega,by go_num,B3,hz'',hc'',fun j hj=>by
      by_cases e : j = k
      ·subst e;exact HK.out
      ·exact HA.out j (by omega)⟩
     case measure=>simp [intOf];omega
  ·have HF : Hid (vgr N G = true):=vgr_yes (by omega) (fun j hj=>HA.out j (by omega))
   go_wp2
   go_ret
   exact ⟨ret_bool HF.out.symm,hb⟩
end Go.Proofs.YtpbpbppimkeodaaGreatDoor
