/-
  QbA QbD QbE QbF
-/
import Derived.Test.YtcehppndpccldaaGreatDoorSD
import Derived.Laws.Bits64
import Derived.Test.YtcehppndpccldaaGreatDoorT9
import Derived.BigRegion
set_option maxHeartbeats 4000000
set_option maxRecDepth 100000
namespace Go.Proofs.YtcehppndpccldaaGreatDoor
open Go.RowKit
structure BytesAt (w : World) (ao : Option Addr) (b o n : Nat) (C : Nat -> Nat) : Prop where
 at_ : 0 < n -> ao = some ⟨b,o,none⟩
 cell : ∀ i,i < n -> w.cell? ⟨b,o + i,none⟩ = some (.int .u8 (C i : Int))
 rng : ∀ i,i < n -> C i <= 255
 len : n <= 9223372036854775807
theorem BytesAt.below {w w' : World} {ao : Option Addr} {b o n : Nat} {C : Nat -> Nat} (h : BytesAt w ao b o n C) (hb : Bw w w') : BytesAt w' ao b o n C:=
 ⟨h.at_,fun i hi=>by rw [hb.cell (p:=⟨b,o + i,none⟩) (blt (h.cell i hi))];exact h.cell i hi,h.rng,h.len⟩
theorem xor_i64 (a b : Nat) (ha : a < 4611686018427387904) (hb : b < 4611686018427387904) : bits .xor .i64 (a : Int) (b : Int) = ((a ^^^ b : Nat) : Int) /\ a ^^^ b < 4611686018427387904:=by
 have hx : a ^^^ b < 2 ^ 62:=Nat.xor_lt_two_pow (by omega) (by omega)
 have h1 : (BitVec.ofInt 64 (a : Int)).toNat = a:=by
  rw [BitVec.ofInt_natCast,BitVec.toNat_ofNat];exact Nat.mod_eq_of_lt (by omega)
 have h2 : (BitVec.ofInt 64 (b : Int)).toNat = b:=by
  rw [BitVec.ofInt_natCast,BitVec.toNat_ofNat];exact Nat.mod_eq_of_lt (by omega)
 refine ⟨?_,by omega⟩
 show IntKind.i64.wrap ((BitVec.ofInt 64 (a : Int) ^^^ BitVec.ofInt 64 (b : Int)).toNat : Int) = _
 rw [BitVec.toNat_xor,h1,h2]
 rw [IntKind.wrap_i64];omega
def mixv (C : Nat -> Nat) (L p : Nat) : Nat:=C (p % L) * 131 + C ((p * 7 + 3) % L) * 1117 + p * 29 + p / L * 53
def tk (C : Nat -> Nat) (L p n : Nat) : Nat:=if n < 1 \/ L = 0 then 0 else if p < L then C p % n else (mixv C L p ^^^ (mixv C L p / 64)) % n
theorem tk_lt {C : Nat -> Nat} {L p n : Nat} (h : 0 < n) : tk C L p n < n:=by
 unfold tk
 split
 ·exact h
 ·split
  ·exact Nat.mod_lt _ h
  ·exact Nat.mod_lt _ h
theorem tmodN (a b : Nat) : Int.tmod (a : Int) (b : Int) = ((a % b : Nat) : Int):=rfl
theorem tdivN (a b : Nat) : Int.tdiv (a : Int) (b : Int) = ((a / b : Nat) : Int):=rfl
theorem d_take (ca : Option Addr) (cb co L cc p n : Nat) (C : Nat -> Nat) (w : World) (h : BytesAt w ca cb co L C) (hL : L <= 1048576) (hp : p <= 1073741824) (hn : n <= 1073741824) :
  Calls Tryz.prog 42 #[.slice ca L cc,.int .i64 (p : Int),.int .i64 (n : Int)] w fun e w'=>e = .returned (.tuple #[.int .i64 (tk C L p n : Int),.int .i64 ((p + 1 : Nat) : Int)]) /\ w = w':=by
 by_cases h0 : n < 1
 ·have ht : Hid (tk C L p n = 0):=by unfold tk;exact (if_pos (Or.inl h0))
  clear h
  go_enter Tryz.func42,Tryz.ntmps42
  go_wp2
  exact bodyPost_ret (v:=.tuple #[.int .i64 0,.int .i64 ((p : Int) + 1)]) (by simp [results,Tryz.results42,go_sem]) rfl ⟨by rw [ht.out] <;> rfl,rfl⟩
 by_cases h1 : L = 0
 ·have ht : Hid (tk C L p n = 0):=by unfold tk;exact (if_pos (Or.inr h1))
  subst h1
  clear h
  go_enter Tryz.func42,Tryz.ntmps42
  go_wp2
  exact bodyPost_ret (v:=.tuple #[.int .i64 0,.int .i64 ((p : Int) + 1)]) (by simp [results,Tryz.results42,go_sem]) rfl ⟨by rw [ht.out] <;> rfl,rfl⟩
 have hne : ¬ (n : Int) = 0:=by omega
 have hLe : ¬ (L : Int) = 0:=by omega
 have bL : ((L : Int) == 0) = false:=bn2 hLe
 have e1:=h.at_ (by omega)
 have hl:=h.len
 subst e1
 by_cases h2 : p < L
 ·have ht : Hid (tk C L p n = C p % n):=by show tk C L p n = _;unfold tk;rw [if_neg (by omega),if_pos h2]
  have c0:=h.cell p h2
  have hr:=h.rng p h2
  have h2' : (p : Int) < (L : Int):=by omega
  obtain ⟨x,hx⟩:=xe (C p)
  rw [<- hx] at c0 hr ht
  clear h hx
  have hm:=tmodN x n
  go_enter Tryz.func42,Tryz.ntmps42
  go_wp2
  exact bodyPost_ret (v:=.tuple #[.int .i64 ((x % n : Nat) : Int),.int .i64 ((p : Int) + 1)]) (by simp [results,Tryz.results42,go_sem]) rfl ⟨by rw [ht.out] <;> rfl,rfl⟩
 ·have ht : Hid (tk C L p n = (mixv C L p ^^^ (mixv C L p / 64)) % n):=by show tk C L p n = _;unfold tk;rw [if_neg (by omega),if_neg h2]
  have h2' : ¬ (p : Int) < (L : Int):=by omega
  obtain ⟨q,hq⟩:=xe (p % L)
  obtain ⟨q2,hq2⟩:=xe ((p * 7 + 3) % L)
  have l1 : q < L:=by rw [hq];exact Nat.mod_lt _ (by omega)
  have l2 : q2 < L:=by rw [hq2];exact Nat.mod_lt _ (by omega)
  have c1:=h.cell q l1
  have c2:=h.cell q2 l2
  have r1:=h.rng q l1
  have r2:=h.rng q2 l2
  have m1 : Int.tmod (p : Int) (L : Int) = (q : Int):=by rw [tmodN,hq]
  have m2 : Int.tmod ((p : Int) * 7 + 3) (L : Int) = (q2 : Int):=by rw [hq2,<- tmodN];rfl
  obtain ⟨dv,hdv⟩:=xe (p / L)
  have m3 : Int.tdiv (p : Int) (L : Int) = (dv : Int):=by rw [tdivN,hdv]
  have hd : dv <= p:=by rw [hdv];exact Nat.div_le_self _ _
  obtain ⟨x,hx⟩:=xe (mixv C L p)
  have hx' : x = C q * 131 + C q2 * 1117 + p * 29 + dv * 53:=by rw [hx,hq,hq2,hdv];rfl
  obtain ⟨a,ha⟩:=xe (C q)
  obtain ⟨b,hb⟩:=xe (C q2)
  rw [<- ha] at c1 r1 hx'
  rw [<- hb] at c2 r2 hx'
  rw [<- hx] at ht
  have ex : (a : Int) * 131 + (b : Int) * 1117 + (p : Int) * 29 + (dv : Int) * 53 = (x : Int):=by rw [hx'];omega
  have hxl : x < 4611686018427387904:=by omega
  have m4 : Int.tdiv (x : Int) 64 = ((x / 64 : Nat) : Int):=rfl
  obtain ⟨hb1,hb2⟩:=xor_i64 x (x / 64) hxl (by omega)
  obtain ⟨y,hy⟩:=xe (x ^^^ (x / 64))
  rw [<- hy] at hb1 hb2 ht
  have hb1' : bits .xor .i64 (x : Int) ((x : Int) / 64) = (y : Int):=by
   have e : ((x : Int) / 64) = ((x / 64 : Nat) : Int):=by omega
   rw [e];exact hb1
  have m5:=tmodN y n
  have l1' : (q : Int) < (L : Int):=by omega
  have l2' : (q2 : Int) < (L : Int):=by omega
  clear h hq hq2 hdv hx ha hb hy hx'
  go_enter Tryz.func42,Tryz.ntmps42
  go_wp2
  exact bodyPost_ret (v:=.tuple #[.int .i64 ((y % n : Nat) : Int),.int .i64 ((p : Int) + 1)]) (by simp [results,Tryz.results42,go_sem]) rfl ⟨by rw [ht.out] <;> rfl,rfl⟩
def letters : ByteArray:=⟨#[97,98,99,100,101,102,103,104,120,121,122]⟩
def letr (i : Nat) : ByteArray:=letters.extract i (i + 1)
theorem letr_all : ∀ i : Fin 11,gn (letr i.val) = true /\ (letr i.val).size = 1:=by decide
theorem letr_xy : ∀ i : Fin 7,letr i.val ≠ ⟨#[120]⟩ /\ letr i.val ≠ ⟨#[121]⟩:=by decide
theorem d_letter (i : Nat) (w : World) (hi : i < 11) : Calls Tryz.prog 120 #[.int .i64 (i : Int)] w fun e w'=>e = .returned (.string (letr i)) /\ w' = w:=by
 have a1 : Int.tmod (i : Int) 11 = (i : Int):=by rw [show (11 : Int) = ((11 : Nat) : Int) from rfl,tmodN,Nat.mod_eq_of_lt hi]
 have a2 : ¬ (11 : Int) <= (i : Int):=by omega
 have a3 : IntKind.i64.wrap (i : Int) = (i : Int):=wk (by omega)
 have a4 : IntKind.i64.wrap ((i : Int) + 1) = (i : Int) + 1:=wk (by omega)
 go_enter Tryz.func120,Tryz.ntmps120
 go_wp2
 go_ret
 exact ⟨rfl,rfl⟩
def fldN (i k : Nat) : ByteArray:=if k = 0 then ⟨#[120]⟩ else if k = 1 then ⟨#[121]⟩ else letr (i % 7)
theorem fldN_ok (i k : Nat) : gn (fldN i k) = true /\ (fldN i k).size = 1:=by
 unfold fldN
 split
 ·decide
 ·split
  ·decide
  ·have h:=letr_all ⟨i % 7,by omega⟩
   exact h
theorem fldN_ne (i j : Nat) : fldN i 0 ≠ fldN j 1 /\ fldN i 0 ≠ fldN j 2 /\ fldN i 1 ≠ fldN j 2:=by
 have h:=letr_xy ⟨j % 7,by omega⟩
 exact ⟨show (⟨#[120]⟩ : ByteArray) ≠ ⟨#[121]⟩ by decide,fun e=>h.1 e.symm,fun e=>h.2 e.symm⟩
theorem d_field (i k : Nat) (w : World) : Calls Tryz.prog 118 #[.int .i64 (i : Int),.int .i64 (k : Int)] w fun e w'=>e = .returned (.string (fldN i k)) /\ w' = w:=by
 by_cases h0 : k = 0
 ·subst h0
  go_enter Tryz.func118,Tryz.ntmps118
  go_wp2
  go_ret
  exact ⟨rfl,rfl⟩
 ·by_cases h1 : k = 1
  ·subst h1
   go_enter Tryz.func118,Tryz.ntmps118
   go_wp2
   go_ret
   exact ⟨rfl,rfl⟩
  ·have HN : Hid (fldN i k = letr (i % 7)):=by show _ = _;unfold fldN;rw [if_neg h0,if_neg h1]
   have b0 : ((k : Int) == 0) = false:=bn2 (by omega)
   have b1 : ((k : Int) == 1) = false:=bn2 (by omega)
   have a1 : Int.tmod (i : Int) 7 = ((i % 7 : Nat) : Int):=tmodN i 7
   have a2 : IntKind.i64.wrap ((i % 7 : Nat) : Int) = ((i % 7 : Nat) : Int):=wk (by omega)
   have C:=d_letter (i % 7) w (by omega)
   clear h0 h1
   go_enter Tryz.func118,Tryz.ntmps118
   go_wp2_with fail
   refine C.mono ?_
   rintro e w' ⟨rfl,rfl⟩
   go_wp2
   go_ret
   exact ⟨by rw [HN.out];rfl,rfl⟩
def nam1 : ByteArray:=⟨#[116,117,119,114,121,122]⟩
def nam2 : ByteArray:=⟨#[102,103,104,107,100,101]⟩
def dclN (i : Nat) (b : Bool) : ByteArray:=if b then nam2.extract (i % 6) (i % 6 + 1) else nam1.extract (i % 6) (i % 6 + 1)
theorem dcl_all : ∀ i : Fin 6,(gn (nam1.extract i.val (i.val + 1)) = true /\ (nam1.extract i.val (i.val + 1)).size = 1) /\ gn (nam2.extract i.val (i.val + 1)) = true /\ (nam2.extract i.val (i.val + 1)).size = 1:=by decide
theorem dclN_ok (i : Nat) (b : Bool) : gn (dclN i b) = true /\ (dclN i b).size = 1:=by
 have h:=dcl_all ⟨i % 6,by omega⟩
 cases b
 ·exact h.1
 ·exact h.2
theorem d_dclN (i : Nat) (b : Bool) (w : World) : Calls Tryz.prog 89 #[.int .i64 (i : Int),.bool b] w fun e w'=>e = .returned (.string (dclN i b)) /\ w' = w:=by
 have a1 : Int.tmod (i : Int) 6 = ((i % 6 : Nat) : Int):=tmodN i 6
 obtain ⟨m,hm⟩:=xe (i % 6)
 have hml : m < 6:=by omega
 have HM : Hid (m = i % 6):=hm
 rw [<- hm] at a1
 have a2 : IntKind.i64.wrap (m : Int) = (m : Int):=wk (by omega)
 have a3 : IntKind.i64.wrap ((m : Int) + 1) = (m : Int) + 1:=wk (by omega)
 clear hm
 cases b <;>
 ·go_enter Tryz.func89,Tryz.ntmps89
  go_wp2
  go_ret
  exact ⟨by unfold dclN;rw [<- HM.out];rfl,rfl⟩
end Go.Proofs.YtcehppndpccldaaGreatDoor
namespace Go.Proofs.YtcehppndpccldaaGreatDoor
theorem aT_left {a b : List TI} {i : Nat} (h : i < a.length) : aT (a ++ b) i = aT a i:=by
 unfold aT
 rw [List.getElem?_append_left h]
theorem aT_right (a b : List TI) (j : Nat) : aT (a ++ b) (a.length + j) = aT b j:=by
 unfold aT
 rw [List.getElem?_append_right (by omega),Nat.add_sub_cancel_left]
theorem vld_left {a b : List TI} : ∀ k,k <= a.length -> vld (aT (a ++ b)) k = vld (aT a) k
 | 0,_=>rfl
 | k + 1,h=>by
   rw [vld,vld,vld_left k (by omega),aT_left (by omega)]
theorem vld_app {a b : List TI} {h : Nat} (ha : vld (aT a) a.length = some h) : ∀ (j g : Nat),vld (aT b) j = some g -> vld (aT (a ++ b)) (a.length + j) = some (h + g)
 | 0,g,hb=>by
   cases hb
   rw [Nat.add_zero,vld_left _ (nlr _),ha]
   rfl
 | j + 1,g,hb=>by
   rw [vld] at hb
   show vld (aT (a ++ b)) (a.length + j + 1) = _
   rw [vld,aT_right]
   cases hv : vld (aT b) j with
   | none=>rw [hv] at hb;cases hb
   | some g0=>
     rw [hv] at hb
     rw [vld_app ha j g0 hv]
     cases ht : aT b j with
     | none=>rw [ht] at hb;cases hb
     | some m=>
       rw [ht] at hb
       dsimp only at hb ⊢
       split at hb
       ·rename_i hm
        cases hb
        rw [if_pos (by omega)]
        congr 1
        omega
       ·cases hb
theorem ok_vld {a : List TI} (h : okT a = true) : vld (aT a) a.length = some 1:=by
 unfold okT at h
 exact beq_iff_eq.1 h
theorem hv_app {a b : List TI} {h : Nat} (ha : vld (aT a) a.length = some h) (hb : okT b = true) : vld (aT (a ++ b)) (a ++ b).length = some (h + 1):=by
 rw [lap]
 exact vld_app ha b.length 1 (ok_vld hb)
theorem hv_last {a : List TI} {h : Nat} (ha : vld (aT a) a.length = some h) {t : TI} {f : Fm} (hf : fT t = some f) (hn : f.needs.length = h) : okT (a ++ [t]) = true:=by
 unfold okT
 have e : (a ++ [t]).length = a.length + 1:=by rw [lap];rfl
 rw [e,vld,vld_left _ (nlr _),ha]
 have e2 : aT (a ++ [t]) a.length = some f.needs.length:=by
  have:=aT_right a [t] 0
  rw [Nat.add_zero] at this
  rw [this]
  unfold aT
  show ((some t).bind fT).map _ = _
  rw [Option.bind_some,hf]
  rfl
 rw [e2]
 dsimp only
 rw [if_pos (by omega)]
 have : h - f.needs.length + 1 = 1:=by omega
 rw [this]
 rfl
theorem ok_one {t : TI} {f : Fm} (hf : fT t = some f) (hn : f.needs.length = 0) : okT [t] = true:=hv_last (a:=[]) (h:=0) rfl hf hn
theorem ok_int : okT [tyO 1] = true /\ okT [tyO 2] = true /\ okT [tyO 3] = true:=⟨ok_one (f:=⟨1,[],[xInt]⟩) rfl rfl,ok_one (f:=⟨1,[],[xBool]⟩) rfl rfl,ok_one (f:=⟨1,[],[xAny]⟩) rfl rfl⟩
theorem ok_fun {a b : List TI} (ha : okT a = true) (hb : okT b = true) : okT (a ++ b ++ [tyO 6]) = true:=hv_last (hv_app (ok_vld ha) hb) (f:=⟨0,[1,0],[e0,xArr,e0]⟩) rfl rfl
theorem ok_rec {a : List TI} {ns : List ByteArray} (ha : vld (aT a) a.length = some ns.length) (hn : nmOk ns = true) : okT (a ++ [⟨5,e0,e0,ns⟩]) = true:=by
 have hf : fT ⟨5,e0,e0,ns⟩ = some (brc ns xCs 1):=by
  unfold fT
  show (if (5 : Int) = 4 then _ else if e0.size = 0 /\ e0.size = 0 then _ else _) = _
  rw [if_neg (by decide),if_pos ⟨rfl,rfl⟩,if_pos rfl,if_pos hn]
 exact hv_last ha hf (brc_ok _ _ _).2.1
theorem ok_name {md nm : ByteArray} (h : gPth md nm = true) : okT [⟨4,md,nm,[]⟩] = true:=by
 have hf : fT ⟨4,md,nm,[]⟩ = some ⟨1,[],[pth md nm]⟩:=by
  unfold fT
  show (if (4 : Int) = 4 then (if gPth md nm && decide (([] : List ByteArray).length = 0) then _ else _) else _) = _
  rw [if_pos rfl,h]
  rfl
 exact ok_one hf rfl
end Go.Proofs.YtcehppndpccldaaGreatDoor
namespace Go.Proofs.YtcehppndpccldaaGreatDoor
open Go.RowKit
structure SmG (x : TI × NPl) : Prop where
 cap : x.1.ns.length <= x.2.c
 len : x.1.ns.length <= 3
 md : x.1.md.size <= 12
 nm : x.1.nm.size <= 12
 nms : ∀ s,s ∈ x.1.ns -> s.size <= 12
structure GT (B : Nat) (w : World) (va : Option Addr) (n c L : Nat) (xs : List (TI × NPl)) : Prop where
 rt : RT B w (.slice va n c) xs
 len : n = xs.length
 pos : 1 <= n
 le : n <= L
 ok : okT (xs.map Prod.fst) = true
 sm : ∀ x,x ∈ xs -> SmG x
def LL : Nat -> Nat
 | 0=>1
 | d + 1=>3 * LL d + 1
def PP : Nat -> Nat
 | 0=>2
 | d + 1=>2 + 3 * PP d
def GnT (w : World) (d p : Nat) (e : Ending) (w' : World) : Prop:=(∃ (va : Option Addr) (n c q : Nat),e = .returned (.tuple #[.slice va n c,.int .i64 (q : Int)]) /\ p <= q /\ q <= p + PP d /\ Hid (∃ xs,GT w.heap.size w' va n c (LL d) xs)) /\ Hid (Bw w w')
structure Sc (w : World) (T V M : List ByteArray) (tp vp mp : NPl) : Prop where
 t : NsA w tp T
 v : NsA w vp V
 m : NsA w mp M
 gt : ∀ s,s ∈ T -> gn s = true
 gv : ∀ s,s ∈ V -> gn s = true
 gm : ∀ s,s ∈ M -> gn s = true
 lt : T.length <= 1000 /\ T.length <= tp.c
 lv : V.length <= 1000 /\ V.length <= vp.c
 lm : M.length <= 1000 /\ M.length <= mp.c
theorem Sc.below {w w' : World} {T V M : List ByteArray} {tp vp mp : NPl} (h : Sc w T V M tp vp mp) (hb : Bw w w') : Sc w' T V M tp vp mp:=⟨h.t.below hb,h.v.below hb,h.m.below hb,h.gt,h.gv,h.gm,h.lt,h.lv,h.lm⟩
theorem gn_12 {s : ByteArray} (h : gn s = true) : s.size <= 12:=(gn_size h).2
theorem sm_lit (op : Int) {md nm : ByteArray} (h1 : md.size <= 12) (h2 : nm.size <= 12) : SmG (⟨op,md,nm,[]⟩,⟨none,0,0⟩):=⟨nlr _,Nat.zero_le _,h1,h2,fun _ h=>by cases h⟩
theorem gt_lit (w : World) {B L : Nat} (hB : B <= w.heap.size) (hL : 1 <= L) (op : Int) {md nm : ByteArray} (h1 : md.size <= 12) (h2 : nm.size <= 12) (ok : okT [⟨op,md,nm,[]⟩] = true) : GT B (w.alloc (.cells #[.int .i64 op,.string md,.string nm,.slice none 0 0] 99)) (some ⟨w.heap.size,0,none⟩) 1 1 L [(⟨op,md,nm,[]⟩,⟨none,0,0⟩)]:=
 ⟨rt_lit w hB op md nm,rfl,nlr _,hL,ok,fun x hx=>by
  have : x = (⟨op,md,nm,[]⟩,⟨none,0,0⟩):=by simpa using hx
  rw [this]
  exact sm_lit op h1 h2⟩
theorem LL_pos : ∀ d,1 <= LL d
 | 0=>nlr _
 | d + 1=>by show 1 <= 3 * LL d + 1;omega
theorem PP_pos : ∀ d,2 <= PP d
 | 0=>nlr _
 | d + 1=>by show 2 <= 2 + 3 * PP d;omega
theorem g_T_lit (w : World) (d : Nat) {ca : Option Addr} {cb co Ln cc p : Nat} {C : Nat -> Nat} (hC : BytesAt w ca cb co Ln C) (hLn : Ln <= 1048576) (hp : p <= 1000000) {T V M : List ByteArray} {tp vp mp : NPl} (hS : Sc w T V M tp vp mp) (hd : d <= 100)
  (hcase : tk C Ln p 16 < 5 \/ (tk C Ln p 16 < 8 /\ 0 < T.length) \/ (tk C Ln p 16 < 10 /\ 0 < T.length /\ 0 < M.length) \/ d = 0) :
  Calls Tryz.prog 90 #[.slice ca Ln cc,.int .i64 (p : Int),.agg #[.slice tp.a T.length tp.c,.slice vp.a V.length vp.c,.slice mp.a M.length mp.c],.int .i64 (d : Int)] w (GnT w d p):=by
 have hL1:=LL_pos d
 have hP2:=PP_pos d
 obtain ⟨W1,hW1⟩:=xe (w.alloc (.cells #[.slice tp.a T.length tp.c,.slice vp.a V.length vp.c,.slice mp.a M.length mp.c] 111))
 have B1 : Bw w W1:=by rw [hW1];exact bel1 _ _
 have HB1 : Hid (Bw w W1):=B1
 have HS1 : Hid (Sc W1 T V M tp vp mp):=hS.below B1
 have C1:=d_take ca cb co Ln cc p 16 C W1 (hC.below B1) hLn (by omega) (by omega)
 have C2:=d_take ca cb co Ln cc (p + 1) 64 C W1 (hC.below B1) hLn (by omega) (by omega)
 obtain ⟨a,ha⟩:=xe (tk C Ln p 16)
 obtain ⟨b,hb⟩:=xe (tk C Ln (p + 1) 64)
 have ha16 : a < 16:=by rw [ha];exact tk_lt (by omega)
 have hb64 : b < 64:=by rw [hb];exact tk_lt (by omega)
 rw [<- ha] at C1 hcase
 rw [<- hb] at C2
 have HX : Hid (W1.rowIs w.heap.size 111 3 (v3 (.slice tp.a T.length tp.c) (.slice vp.a V.length vp.c) (.slice mp.a M.length mp.c))):=by rw [hW1];exact row3 w _ _ _ _
 have x0 : W1.cell? ⟨w.heap.size,0,none⟩ = some (.slice tp.a T.length tp.c):=HX.out.cell (i:=0) (by omega)
 have x2 : W1.cell? ⟨w.heap.size,2,none⟩ = some (.slice mp.a M.length mp.c):=HX.out.cell (i:=2) (by omega)
 clear hC hS ha hb B1
 go_enter Tryz.func90,Tryz.ntmps90
 go_wp2_with fail
 rw [<- hW1]
 clear hW1
 refine C1.mono ?_
 rintro e w' ⟨rfl,rfl⟩
 go_wp2_with fail
 refine C2.mono ?_
 rintro e w' ⟨rfl,rfl⟩
 clear C1 C2
 have HEND : Hid (∀ (op : Int) (md nm : ByteArray) (V : World),V = W1.alloc (.cells #[.int .i64 op,.string md,.string nm,.slice none 0 0] 99) \/ V = (W1.alloc (.cells #[.int .i64 op,.string md,.string nm,.slice none 0 0] 99)).drew -> md.size <= 12 -> nm.size <= 12 -> okT [⟨op,md,nm,[]⟩] = true -> GnT w d p (.returned (.tuple #[.slice (some ⟨W1.heap.size,0,none⟩) 1 1,.int .i64 ((p + 1 + 1 : Nat) : Int)])) V):=fun op md nm V hV h1 h2 ok=>by
  have G:=gt_lit W1 (B:=w.heap.size) (L:=LL d) HB1.out.size hL1 op h1 h2 ok
  have hbw:=HB1.out.alloc HB1.out.size (.cells #[.int .i64 op,.string md,.string nm,.slice none 0 0] 99)
  rcases hV with rfl | rfl
  ·exact ⟨⟨_,_,_,p + 1 + 1,rfl,by omega,by omega,_,G⟩,hbw⟩
  ·exact ⟨⟨_,_,_,p + 1 + 1,rfl,by omega,by omega,_,⟨G.rt.drew,G.len,G.pos,G.le,G.ok,G.sm⟩⟩,hbw.drew⟩
 by_cases a3 : a < 3
 ·have q3 : (a : Int) < 3:=by omega
  go_wp2
  go_ret2
  exact HEND.out 1 ⟨#[]⟩ ⟨#[]⟩ _ (.inl rfl) (by decide) (by decide) ok_int.1
 have q3 : ¬ (a : Int) < 3:=by omega
 by_cases a4 : a = 3
 ·subst a4
  go_wp2
  go_ret2
  exact HEND.out 2 ⟨#[]⟩ ⟨#[]⟩ _ (.inl rfl) (by decide) (by decide) ok_int.2.1
 have q4 : ((a : Int) == 3) = false:=bn2 (by omega)
 by_cases a5 : a = 4
 ·subst a5
  go_wp2
  go_ret2
  exact HEND.out 3 ⟨#[]⟩ ⟨#[]⟩ _ (.inl rfl) (by decide) (by decide) ok_int.2.2
 have q5 : ((a : Int) == 4) = false:=bn2 (by omega)
 by_cases a8 : a < 8 /\ 0 < T.length
 ·have q8 : (a : Int) < 8:=by omega
  have q9 : (0 : Int) < (T.length : Int):=by omega
  have hT0 : ¬ (T.length : Int) = 0:=by omega
  obtain ⟨k,hk⟩:=xe (b % T.length)
  have hkl : k < T.length:=by rw [hk];exact Nat.mod_lt _ a8.2
  have m1 : Int.tmod (b : Int) (T.length : Int) = (k : Int):=by rw [tmodN,hk]
  have m2 : (k : Int) < (T.length : Int):=by omega
  have m3 : (0 : Int) <= (k : Int):=by omega
  have ea:=HS1.out.t.at_ a8.2
  have y0:=HS1.out.t.cell k hkl
  have hgn:=HS1.out.gt (T.getD k e0) (by rw [List.getD_eq_getElem?_getD,List.getElem?_eq_getElem hkl];exact List.getElem_mem hkl)
  obtain ⟨s,hs⟩:=xe (T.getD k e0)
  rw [<- hs] at y0 hgn
  have HGN : Hid (gn s = true):=hgn
  obtain ⟨tl,htl⟩:=xe (T.length)
  have htb : tl <= 1000:=by rw [htl];exact HS1.out.lt.1
  rw [ea] at x0
  rw [<- htl] at x0 q9 hT0 m1 m2
  rw [ea,<- htl]
  clear hk hs ea hgn htl
  go_wp2
  go_region
  all_goals
   go_wp2
   go_ret2
   exact HEND.out 4 ⟨#[]⟩ s _ (.inr rfl) (by decide) (gn_12 HGN.out) (ok_name (by unfold gPth;rw [HGN.out];rfl))
 by_cases a10 : a < 10 /\ 0 < M.length /\ 0 < T.length
 ·have q8 : ¬ (a : Int) < 8:=by omega
  have q10 : (a : Int) < 10:=by omega
  have q9 : (0 : Int) < (T.length : Int):=by omega
  have q11 : (0 : Int) < (M.length : Int):=by omega
  have hT0 : ¬ (T.length : Int) = 0:=by omega
  have hM0 : ¬ (M.length : Int) = 0:=by omega
  obtain ⟨k,hk⟩:=xe ((b / 8) % T.length)
  have hkl : k < T.length:=by rw [hk];exact Nat.mod_lt _ a10.2.2
  obtain ⟨b8,hb8⟩:=xe (b / 8)
  have m0 : Int.tdiv (b : Int) 8 = (b8 : Int):=by rw [hb8];exact tdivN b 8
  have m1 : Int.tmod (b8 : Int) (T.length : Int) = (k : Int):=by rw [tmodN,hk,hb8]
  have m2 : (k : Int) < (T.length : Int):=by omega
  have m3 : (0 : Int) <= (k : Int):=by omega
  obtain ⟨l,hlm⟩:=xe (b % M.length)
  have hll : l < M.length:=by rw [hlm];exact Nat.mod_lt _ a10.2.1
  have m4 : Int.tmod (b : Int) (M.length : Int) = (l : Int):=by rw [tmodN,hlm]
  have m5 : (l : Int) < (M.length : Int):=by omega
  have m6 : (0 : Int) <= (l : Int):=by omega
  have ea:=HS1.out.t.at_ a10.2.2
  have ea2:=HS1.out.m.at_ a10.2.1
  have y0:=HS1.out.t.cell k hkl
  have y1:=HS1.out.m.cell l hll
  have hgn:=HS1.out.gt (T.getD k e0) (by rw [List.getD_eq_getElem?_getD,List.getElem?_eq_getElem hkl];exact List.getElem_mem hkl)
  have hgm:=HS1.out.gm (M.getD l e0) (by rw [List.getD_eq_getElem?_getD,List.getElem?_eq_getElem hll];exact List.getElem_mem hll)
  obtain ⟨s,hs⟩:=xe (T.getD k e0)
  obtain ⟨s2,hs2⟩:=xe (M.getD l e0)
  rw [<- hs] at y0 hgn
  rw [<- hs2] at y1 hgm
  have HGN : Hid (gn s = true /\ gn s2 = true):=⟨hgn,hgm⟩
  obtain ⟨tl,htl⟩:=xe (T.length)
  obtain ⟨ml,hml⟩:=xe (M.length)
  have htb : tl <= 1000:=by rw [htl];exact HS1.out.lt.1
  have hmb : ml <= 1000:=by rw [hml];exact HS1.out.lm.1
  have hb8b : b8 <= 8:=by omega
  rw [ea] at x0
  rw [ea2] at x2
  rw [<- htl] at x0 q9 hT0 m1 m2
  rw [<- hml] at x2 q11 hM0 m4 m5
  rw [ea,ea2,<- htl,<- hml]
  clear hk hs hs2 ea ea2 hgn hgm htl hml hlm hb8 a8 a10
  go_wp2
  go_region
  all_goals
   go_wp2
   go_ret2
   exact HEND.out 4 s2 s _ (.inr rfl) (gn_12 HGN.out.2) (gn_12 HGN.out.1) (ok_name (by unfold gPth;rw [HGN.out.1,HGN.out.2];simp))
 ·have hd0 : d = 0:=by omega
  subst hd0
  clear hcase
  by_cases c8 : (a : Int) < 8 <;> by_cases cT : (0 : Int) < (T.length : Int) <;> by_cases c10 : (a : Int) < 10 <;> by_cases cM : (0 : Int) < (M.length : Int)
  all_goals first
   | (exfalso;omega)
   | (clear a8 a10;go_wp2;go_ret2;exact HEND.out 1 ⟨#[]⟩ ⟨#[]⟩ _ (.inl rfl) (by decide) (by decide) ok_int.1)
end Go.Proofs.YtcehppndpccldaaGreatDoor
