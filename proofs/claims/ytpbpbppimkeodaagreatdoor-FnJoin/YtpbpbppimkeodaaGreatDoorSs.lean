/-
  MD JoB
-/
import Derived.Test.YtpbpbppimkeodaaGreatDoorSe
import Derived.Laws.Bits64
import Derived.Deep.AppendLies
import Derived.Deep.RegionHeld3
import Derived.BigQuiet
import Derived.Deep.Upon
import Derived.Test.YtpbpbppimkeodaaGreatDoorSa
set_option maxRecDepth 100000
namespace Go.Proofs.YtpbpbppimkeodaaGreatDoor
open Go.RowKit Go.Maps
structure BytesAt (w : World) (ao : Option Addr) (b o n : Nat) (C : Nat -> Nat) : Prop where
 at_ : 0 < n -> ao = some ⟨b,o,none⟩
 cell : ∀ i,i < n -> w.cell? ⟨b,o + i,none⟩ = some (.int .u8 (C i : Int))
 rng : ∀ i,i < n -> C i <= 255
 len : n <= 9223372036854775807
theorem BytesAt.below {w w' : World} {ao : Option Addr} {b o n : Nat} {C : Nat -> Nat} (h : BytesAt w ao b o n C) (hb : Below w.heap.size w w') : BytesAt w' ao b o n C:=
 ⟨h.at_,fun i hi=>by rw [hb.cell (p:=⟨b,o + i,none⟩) (blt (h.cell i hi))];exact h.cell i hi,h.rng,h.len⟩
theorem xor_i64 (a b : Nat) (ha : a < 4611686018427387904) (hb : b < 4611686018427387904) : bits .xor .i64 (a : Int) (b : Int) = ((a ^^^ b : Nat) : Int) /\ a ^^^ b < 4611686018427387904:=by
 have hx : a ^^^ b < 2 ^ 62:=Nat.xor_lt_two_pow (by omega) (by omega)
 have h1 : (BitVec.ofInt 64 (a : Int)).toNat = a:=by
  rw [BitVec.ofInt_natCast,BitVec.toNat_ofNat];exact Nat.mod_eq_of_lt (by omega)
 have h2 : (BitVec.ofInt 64 (b : Int)).toNat = b:=by
  rw [BitVec.ofInt_natCast,BitVec.toNat_ofNat];exact Nat.mod_eq_of_lt (by omega)
 refine ⟨?_,by omega⟩
 show IntKind.i64.wrap ((BitVec.ofInt 64 (a : Int) ^^^ BitVec.ofInt 64 (b : Int)).toNat : Int) = _
 rw [BitVec.toNat_xor,h1,h2]
 rw [IntKind.wrap_i64];omega
def mixv (C : Nat -> Nat) (L p : Nat) : Nat:=C (p % L) * 131 + C ((p * 7 + 3) % L) * 1117 + p * 29 + p / L * 53
def tk (C : Nat -> Nat) (L p n : Nat) : Nat:=if n < 1 \/ L = 0 then 0 else if p < L then C p % n else (mixv C L p ^^^ (mixv C L p / 64)) % n
theorem tk_lt {C : Nat -> Nat} {L p n : Nat} (h : 0 < n) : tk C L p n < n:=by
 unfold tk
 split
 ·exact h
 ·split
  ·exact Nat.mod_lt _ h
  ·exact Nat.mod_lt _ h
theorem tk_le (C : Nat -> Nat) (L p n : Nat) : tk C L p n <= n:=by
 by_cases h : 0 < n
 ·exact Nat.le_of_lt (tk_lt h)
 ·unfold tk;rw [if_pos (Or.inl (by omega))];omega
theorem tmodN (a b : Nat) : Int.tmod (a : Int) (b : Int) = ((a % b : Nat) : Int):=rfl
theorem tdivN (a b : Nat) : Int.tdiv (a : Int) (b : Int) = ((a / b : Nat) : Int):=rfl
set_option maxHeartbeats 2000000 in
theorem d_take (ca : Option Addr) (cb co L cc p n : Nat) (C : Nat -> Nat) (w : World) (h : BytesAt w ca cb co L C) (hL : L <= 1048576) (hp : p <= 1073741824) (hn : n <= 1073741824) :
  Calls Tryz.prog 40 #[.slice ca L cc,.int .i64 (p : Int),.int .i64 (n : Int)] w fun e w'=>e = .returned (.tuple #[.int .i64 (tk C L p n : Int),.int .i64 ((p + 1 : Nat) : Int)]) /\ w = w':=by
 by_cases h0 : n < 1
 ·have ht : Hid (tk C L p n = 0):=by unfold tk;exact (if_pos (Or.inl h0))
  clear h
  go_enter Tryz.func40,Tryz.ntmps40
  go_wp2
  exact bodyPost_ret (v:=.tuple #[.int .i64 0,.int .i64 ((p : Int) + 1)]) (by simp [results,Tryz.results40,go_sem]) rfl ⟨by rw [ht.out] <;> rfl,rfl⟩
 by_cases h1 : L = 0
 ·have ht : Hid (tk C L p n = 0):=by unfold tk;exact (if_pos (Or.inr h1))
  subst h1
  clear h
  go_enter Tryz.func40,Tryz.ntmps40
  go_wp2
  exact bodyPost_ret (v:=.tuple #[.int .i64 0,.int .i64 ((p : Int) + 1)]) (by simp [results,Tryz.results40,go_sem]) rfl ⟨by rw [ht.out] <;> rfl,rfl⟩
 have hne : ¬ (n : Int) = 0:=by omega
 have hLe : ¬ (L : Int) = 0:=by omega
 have bL : ((L : Int) == 0) = false:=beq_eq_false_iff_ne.2 hLe
 have e1:=h.at_ (by omega)
 have hl:=h.len
 subst e1
 by_cases h2 : p < L
 ·have ht : Hid (tk C L p n = C p % n):=by show tk C L p n = _;unfold tk;rw [if_neg (by omega),if_pos h2]
  have c0:=h.cell p h2
  have hr:=h.rng p h2
  have h2' : (p : Int) < (L : Int):=by omega
  obtain ⟨x,hx⟩ : ∃ x,x = C p:=⟨_,rfl⟩
  rw [<- hx] at c0 hr ht
  clear h hx
  have hm:=tmodN x n
  go_enter Tryz.func40,Tryz.ntmps40
  go_wp2
  exact bodyPost_ret (v:=.tuple #[.int .i64 ((x % n : Nat) : Int),.int .i64 ((p : Int) + 1)]) (by simp [results,Tryz.results40,go_sem]) rfl ⟨by rw [ht.out] <;> rfl,rfl⟩
 ·have ht : Hid (tk C L p n = (mixv C L p ^^^ (mixv C L p / 64)) % n):=by show tk C L p n = _;unfold tk;rw [if_neg (by omega),if_neg h2]
  have h2' : ¬ (p : Int) < (L : Int):=by omega
  obtain ⟨q,hq⟩ : ∃ q,q = p % L:=⟨_,rfl⟩
  obtain ⟨q2,hq2⟩ : ∃ q,q = (p * 7 + 3) % L:=⟨_,rfl⟩
  have l1 : q < L:=by rw [hq];exact Nat.mod_lt _ (by omega)
  have l2 : q2 < L:=by rw [hq2];exact Nat.mod_lt _ (by omega)
  have c1:=h.cell q l1
  have c2:=h.cell q2 l2
  have r1:=h.rng q l1
  have r2:=h.rng q2 l2
  have m1 : Int.tmod (p : Int) (L : Int) = (q : Int):=by rw [tmodN,hq]
  have m2 : Int.tmod ((p : Int) * 7 + 3) (L : Int) = (q2 : Int):=by rw [hq2,<- tmodN];rfl
  obtain ⟨dv,hdv⟩ : ∃ d,d = p / L:=⟨_,rfl⟩
  have m3 : Int.tdiv (p : Int) (L : Int) = (dv : Int):=by rw [tdivN,hdv]
  have hd : dv <= p:=by rw [hdv];exact Nat.div_le_self _ _
  obtain ⟨x,hx⟩ : ∃ x,x = mixv C L p:=⟨_,rfl⟩
  have hx' : x = C q * 131 + C q2 * 1117 + p * 29 + dv * 53:=by rw [hx,hq,hq2,hdv];rfl
  obtain ⟨a,ha⟩ : ∃ a,a = C q:=⟨_,rfl⟩
  obtain ⟨b,hb⟩ : ∃ a,a = C q2:=⟨_,rfl⟩
  rw [<- ha] at c1 r1 hx'
  rw [<- hb] at c2 r2 hx'
  rw [<- hx] at ht
  have ex : (a : Int) * 131 + (b : Int) * 1117 + (p : Int) * 29 + (dv : Int) * 53 = (x : Int):=by rw [hx'];omega
  have hxl : x < 4611686018427387904:=by omega
  have m4 : Int.tdiv (x : Int) 64 = ((x / 64 : Nat) : Int):=rfl
  obtain ⟨hb1,hb2⟩:=xor_i64 x (x / 64) hxl (by omega)
  obtain ⟨y,hy⟩ : ∃ y,y = x ^^^ (x / 64):=⟨_,rfl⟩
  rw [<- hy] at hb1 hb2 ht
  have hb1' : bits .xor .i64 (x : Int) ((x : Int) / 64) = (y : Int):=by
   have e : ((x : Int) / 64) = ((x / 64 : Nat) : Int):=by omega
   rw [e];exact hb1
  have m5:=tmodN y n
  have l1' : (q : Int) < (L : Int):=by omega
  have l2' : (q2 : Int) < (L : Int):=by omega
  clear h hq hq2 hdv hx ha hb hy hx'
  go_enter Tryz.func40,Tryz.ntmps40
  go_wp2
  exact bodyPost_ret (v:=.tuple #[.int .i64 ((y % n : Nat) : Int),.int .i64 ((p : Int) + 1)]) (by simp [results,Tryz.results40,go_sem]) rfl ⟨by rw [ht.out] <;> rfl,rfl⟩
def cntL (L : Nat) : Nat:=if 24 < 4 + L / 6 then 24 else 4 + L / 6
theorem cntL_le (L : Nat) : cntL L <= 24:=by unfold cntL;split <;> omega
set_option maxHeartbeats 1000000 in
theorem d_count (ca : Option Addr) (L cc : Nat) (w : World) (hL : L <= 1048576) :
  Calls Tryz.prog 91 #[.slice ca L cc,.int .i64 6,.int .i64 4,.int .i64 24] w fun e w'=>e = .returned (.int .i64 (cntL L : Int)) /\ w = w':=by
 have m1 : Int.tdiv (L : Int) 6 = ((L / 6 : Nat) : Int):=rfl
 obtain ⟨d,hd⟩ : ∃ d,d = L / 6:=⟨_,rfl⟩
 have hdl : d <= 1048576:=by omega
 rw [<- hd] at m1
 by_cases h : 24 < 4 + d
 ·have ht : Hid (cntL L = 24):=by show cntL L = _;unfold cntL;rw [<- hd,if_pos h]
  have h' : (24 : Int) < 4 + (d : Int):=by omega
  clear hd
  go_enter Tryz.func91,Tryz.ntmps91
  go_wp2
  go_ret
  exact ⟨by rw [ht.out];first | rfl | go_num,rfl⟩
 ·have ht : Hid (cntL L = 4 + d):=by show cntL L = _;unfold cntL;rw [<- hd,if_neg h]
  have h' : ¬ (24 : Int) < 4 + (d : Int):=by omega
  clear hd
  go_enter Tryz.func91,Tryz.ntmps91
  go_wp2
  go_ret
  exact ⟨by rw [ht.out];first | rfl | go_num,rfl⟩
def ltr (i : Nat) : ByteArray:=if i = 0 then ⟨#[97]⟩ else if i = 1 then ⟨#[98]⟩ else ⟨#[99]⟩
set_option maxHeartbeats 1000000 in
theorem d_letter (i : Nat) (w : World) (hi : i < 3) :
  Calls Tryz.prog 113 #[.int .i64 (i : Int)] w fun e w'=>e = .returned (.string (ltr i)) /\ w = w':=by
 match i,hi with
 | 0,_=>
   go_enter Tryz.func113,Tryz.ntmps113
   go_wp2
   go_ret
   exact ⟨rfl,rfl⟩
 | 1,_=>
   go_enter Tryz.func113,Tryz.ntmps113
   go_wp2
   go_ret
   exact ⟨rfl,rfl⟩
 | 2,_=>
   go_enter Tryz.func113,Tryz.ntmps113
   go_wp2
   go_ret
   exact ⟨rfl,rfl⟩
def tcells (l : List ByteArray) : List Value:=l.map Value.string
def zcells (l : List Int) : List Value:=l.map (Value.int .i64)
theorem own_at {w : World} {base : Nat} {e : TypeId} {oa : Option Addr} {n cap : Nat} {xs : List Value} (h : w.ownsRow base e 1 (.slice oa n cap) n xs) :
  ∃ g,(0 < n -> oa = some ⟨g,0,none⟩ /\ base <= g /\ g < w.heap.size /\ (Value.slice oa n cap).ownBlock = some g) /\ (∀ i u,i < n -> xs[i]? = some u -> w.cell? ⟨g,i,none⟩ = some u) /\ n <= 9223372036854775807:=by
 obtain ⟨h1,h2⟩:=h
 rcases h2 with ⟨hv,hn⟩ | ⟨g,cap',cur,hv,hb,hh,hc,hm,hs,ht⟩
 ·exact ⟨0,fun q=>absurd q (by omega),fun i u q=>absurd q (by omega),by omega⟩
 ·simp only [Value.slice.injEq] at hv
  obtain ⟨rfl,_,rfl⟩:=hv
  refine ⟨g,fun _=>⟨rfl,hb,(Array.getElem?_eq_some_iff.1 hh).1,rfl⟩,fun i u hi e=>?_,by unfold maxLen at hm;omega⟩
  rw [<- ht] at e
  rw [List.getElem?_take,if_pos (by omega),Array.getElem?_toList] at e
  simp [World.cell?,hh,e]
theorem own_strs {w : World} {base : Nat} {oa : Option Addr} {n cap : Nat} {l : List ByteArray} (h : w.ownsRow base 9 1 (.slice oa n cap) n (tcells l)) (hz : ∀ s,s ∈ l -> s.size <= 9223372036854775807) :
  ∃ g,StrsAt w oa g 0 n (fun i=>l.getD i ByteArray.empty) /\ (0 < n -> base <= g /\ g < w.heap.size /\ (Value.slice oa n cap).ownBlock = some g):=by
 have hl : l.length = n:=by simpa [tcells] using h.1
 obtain ⟨g,a,b,c⟩:=own_at h
 refine ⟨g,⟨fun q=>(a q).1,fun i hi=>?_,fun i hi=>?_,c⟩,fun q=>(a q).2⟩
 ·rw [Nat.zero_add]
  refine b i _ hi ?_
  simp [tcells,List.getD,List.getElem?_eq_getElem (show i < l.length by omega)]
 ·have hi' : i < l.length:=by omega
  have : l.getD i ByteArray.empty = l[i]:=by simp [List.getD,List.getElem?_eq_getElem hi']
  rw [this];exact hz _ (List.getElem_mem _)
theorem own_zs {w : World} {base : Nat} {oa : Option Addr} {n cap : Nat} {l : List Int} (h : w.ownsRow base 3 1 (.slice oa n cap) n (zcells l)) :
  ∃ g,IntsAt w oa g 0 n (fun i=>l.getD i 0) /\ (0 < n -> base <= g /\ g < w.heap.size /\ (Value.slice oa n cap).ownBlock = some g):=by
 have hl : l.length = n:=by simpa [zcells] using h.1
 obtain ⟨g,a,b,c⟩:=own_at h
 refine ⟨g,⟨fun q=>(a q).1,fun i hi=>?_,c⟩,fun q=>(a q).2⟩
 rw [Nat.zero_add]
 refine b i _ hi ?_
 simp [zcells,List.getD,List.getElem?_eq_getElem (show i < l.length by omega)]
theorem StrsAt.congr {w : World} {ao : Option Addr} {b o n : Nat} {D D' : Nat -> ByteArray} (h : StrsAt w ao b o n D) (hd : ∀ i,i < n -> D i = D' i) : StrsAt w ao b o n D':=
 ⟨h.at_,fun i hi=>by rw [<- hd i hi];exact h.cell i hi,fun i hi=>by rw [<- hd i hi];exact h.size i hi,h.len⟩
def upS (S : Nat -> ByteArray) (k : Nat) : List ByteArray:=(List.range k).map S
theorem upS_succ (S : Nat -> ByteArray) (k : Nat) : upS S (k + 1) = upS S k ++ [S k]:=by simp [upS,List.range_succ]
theorem upS_get (S : Nat -> ByteArray) {k i : Nat} (h : i < k) : (upS S k).getD i ByteArray.empty = S i:=by simp [upS,List.getD,h]
def upZ (D : Nat -> Int) (k : Nat) : List Int:=(List.range k).map D
theorem upZ_succ (D : Nat -> Int) (k : Nat) : upZ D (k + 1) = upZ D k ++ [D k]:=by simp [upZ,List.range_succ]
theorem upZ_get (D : Nat -> Int) {k i : Nat} (h : i < k) : (upZ D k).getD i 0 = D i:=by simp [upZ,List.getD,h]
theorem below_grown {w w1 w2 : World} {base : Nat} {v : Value} {o : Obj} (hb : Below base w w1) (hs : base <= w1.heap.size) (hg : (w1.alloc o).grownBy w2 v.ownBlock) (hv : ∀ j,v.ownBlock = some j -> base <= j) : Below base w w2:=by
 refine ⟨hg.os.trans hb.os,hg.tape.trans hb.tape,hg.output.trans hb.output,?_,fun j hj=>?_⟩
 ·have h1:=hb.size
  have h2:=hg.size
  simp at h2
  omega
 ·rw [hg.block j (by simp;omega) (fun e=>by have:=hv j e.symm;omega),Below.heap_alloc _ _ _ (by omega)]
  exact hb.block j hj
set_option maxHeartbeats 4000000 in
theorem d_names (ao : Option Addr) (b o n c : Nat) (S : Nat -> ByteArray) (w : World) (h : StrsAt w ao b o n S) (hn : n <= 1048576) :
  Calls Tryz.prog 52 #[.slice ao n c] w fun e w'=>∃ oa cap,e = .returned (.slice oa n cap) /\ w'.ownsRow w.heap.size 9 1 (.slice oa n cap) n (tcells (upS S n)) /\ Below w.heap.size w w':=by
 have HB : Hid (∀ w',Below w.heap.size w w' -> StrsAt w' ao b o n S):=fun w' hb=>h.below hb
 have A1:=h.at_
 clear h
 obtain ⟨i0,hi0,hz0,hz1,hz2⟩:=info_parts Tryz.info9
 have ST : (w.alloc (.cells #[] 9)).ownsRow w.heap.size 9 1 (.slice (some ⟨w.heap.size,0,none⟩) 0 0) 0 (tcells (upS S 0)):=World.ownsRow_lit w #[] 0 (Nat.le_refl _) (by unfold maxLen;omega) (by rfl)
 go_enter Tryz.func52,Tryz.ntmps52
 go_wp2
 go_loopw [3,4] (fun v i wr=>∃ k : Nat,k <= n /\ i = .int .i64 k /\ wr.ownsRow w.heap.size 9 1 v k (tcells (upS S k)) /\ Below w.heap.size w wr) (fun _ i _=>n - (intOf i).toNat)
 case atStart=>exact ⟨0,Nat.zero_le _,rfl,ST,bel1 _ _⟩
 case round=>
  obtain ⟨k,hk,rfl,hO,hb⟩:=hrel
  clear ST
  obtain ⟨oa,cap,rfl⟩:=own_form hO
  by_cases hlt : k < n
  ·have e1:=A1 (by omega)
   have g1:=(HB.out _ hb).cell k hlt
   have hbs:=hb.size
   subst e1
   go_wp2_with (first | (at_builtin;refine wpList_append_lies _ rfl _ _ 46 rfl w.heap.size 9 i0 _ 1 16 Tryz.underlying46 hi0 hz0 hz1 hz2 rfl (by omega) (.slice oa k cap) k (tcells (upS S k)) rfl (hO.alloc _) ⟨wr.heap.size,0,none⟩ 1 1 [.string (S k)] rfl rfl (cell_one_new _ _ _) (by simp [Value.oneCell']) (by omega) (by unfold maxLen;omega) (by omega) (by simp;omega) (wr.heap.size + 1) (by simp) ?_;intro gg cap3 w6 hown6 hg6 hat6 hlt6))
   have HN : Hid (w6.ownsRow w.heap.size 9 1 (.slice (some ⟨gg,0,none⟩) (k + 1) cap3) (k + 1) (tcells (upS S (k + 1))) /\ Below w.heap.size w w6):=
    ⟨by rw [upS_succ];unfold tcells;rw [List.map_append];exact hown6,below_grown hb hbs hg6 (fun j hj=>(hO.lt j hj).1)⟩
   clear hown6 hg6 hat6 hO hb g1
   go_wp2
   go_roundw
   case rel=>exact ⟨k + 1,by omega,by go_num,HN.out.1,HN.out.2⟩
   case measure=>simp [intOf];omega
  ·have hkn : k = n:=by omega
   subst hkn
   go_wp2
   go_ret
   exact ⟨oa,cap,rfl,hO,hb⟩
def mkN (k : Int) : ND:=⟨k,0,fun _=>ByteArray.empty,0,fun _=>0⟩
def gd (L : List ND) (i : Nat) : ND:=L.getD i (mkN 0)
theorem gd_old {L : List ND} {d : ND} {i : Nat} (h : i < L.length) : gd (L ++ [d]) i = gd L i:=by
 unfold gd;simp [List.getD,List.getElem?_append_left h]
theorem gd_new (L : List ND) (d : ND) : gd (L ++ [d]) L.length = d:=by
 unfold gd;simp [List.getD]
theorem ncells_cong {q q' : Nat -> NP} {G G' : Nat -> ND} : ∀ k,(∀ i,i < k -> q i = q' i /\ G i = G' i) -> ncells q G k = ncells q' G' k
 | 0,_=>rfl
 | k + 1,h=>by rw [ncells_succ,ncells_succ,ncells_cong k (fun i hi=>h i (by omega)),(h k (by omega)).1,(h k (by omega)).2]
structure Lq (X : Nat) (w1 wr : World) (v : Value) (q : Nat -> NP) (L : List ND) : Prop where
 own : wr.ownsRow w1.heap.size 48 3 v L.length (ncells q (gd L) L.length)
 below : Below w1.heap.size w1 wr
 box : X < wr.heap.size /\ some X ≠ v.ownBlock
 node : ∀ i,i < L.length -> NodeAt wr (q i) (gd L i) /\ (0 < (gd L i).nn -> (q i).b1 < wr.heap.size /\ some (q i).b1 ≠ v.ownBlock /\ (q i).b1 ≠ X) /\ (0 < (gd L i).nk -> (q i).b2 < wr.heap.size /\ some (q i).b2 ≠ v.ownBlock /\ (q i).b2 ≠ X)
theorem lq_step {X : Nat} {w1 wr w4 w5 : World} {oa : Option Addr} {k cap gg cap3 : Nat} {q : Nat -> NP} {L : List ND} {o2 : Obj} (h : Lq X w1 wr (.slice oa k cap) q L) (hk : L.length = k) (hb : Below wr.heap.size wr w4) (p : NP) (d : ND) (hp : NodeAt w4 p d)
  (h1 : 0 < d.nn -> p.b1 < w4.heap.size /\ some p.b1 ≠ (Value.slice oa k cap).ownBlock /\ p.b1 ≠ X) (h2 : 0 < d.nk -> p.b2 < w4.heap.size /\ some p.b2 ≠ (Value.slice oa k cap).ownBlock /\ p.b2 ≠ X)
  (hown : w5.ownsRow w1.heap.size 48 3 (.slice (some ⟨gg,0,none⟩) (k + 1) cap3) (k + 1) (ncells q (gd L) L.length ++ [.int .i64 d.kind,.slice p.a1 d.nn p.c1,.slice p.a2 d.nk p.c2]))
  (hg : (w4.alloc o2).grownBy w5 (Value.slice oa k cap).ownBlock) (hat : (Value.slice oa k cap).ownBlock = some gg \/ gg = w4.heap.size + 1) :
  Lq X w1 w5 (.slice (some ⟨gg,0,none⟩) (k + 1) cap3) (fun i=>if i = k then p else q i) (L ++ [d]):=by
 subst hk
 have hz:=hg.size
 have e4 : (w4.alloc o2).heap.size = w4.heap.size + 1:=by simp
 have b5 : ∀ j,j < w4.heap.size -> some j ≠ (Value.slice oa L.length cap).ownBlock -> w5.heap[j]? = w4.heap[j]?:=fun j hj hn=>(hg.block j (by rw [e4];omega) hn).trans (Below.heap_alloc _ _ _ hj)
 have hs:=hb.size
 have hs1:=h.below.size
 have hlen : (L ++ [d]).length = L.length + 1:=by simp
 have fr : ∀ x,x < w4.heap.size -> some x ≠ (Value.slice oa L.length cap).ownBlock -> some x ≠ (Value.slice (some ⟨gg,0,none⟩) (L.length + 1) cap3).ownBlock:=fun x hx hn e=>by
  have : x = gg:=by simpa [Value.ownBlock] using e
  subst this
  rcases hat with q | q
  ·exact hn q.symm
  ·omega
 obtain ⟨x1,x2⟩:=h.box
 refine ⟨?_,⟨hg.os.trans (hb.os.trans h.below.os),hg.tape.trans (hb.tape.trans h.below.tape),hg.output.trans (hb.output.trans h.below.output),by omega,fun j hj=>?_⟩,⟨by omega,fr X (by omega) x2⟩,fun i hi=>?_⟩
 ·rw [hlen,ncells_succ,if_pos rfl,gd_new,ncells_cong (q':=q) (G':=gd L) L.length (fun i hi=>⟨by rw [if_neg (by omega)],gd_old hi⟩)];exact hown
 ·rw [b5 j (by omega) (fun e=>by have:=(h.own.lt j e.symm).1;omega),hb.block j (by omega)]
  exact h.below.block j hj
 ·rw [hlen] at hi
  by_cases e : i = L.length
  ·subst e
   simp only [if_true]
   rw [gd_new]
   exact ⟨hp.later (fun z=>b5 _ (h1 z).1 (h1 z).2.1) (fun z=>b5 _ (h2 z).1 (h2 z).2.1),fun z=>⟨by have:=(h1 z).1;omega,fr _ (h1 z).1 (h1 z).2.1,(h1 z).2.2⟩,fun z=>⟨by have:=(h2 z).1;omega,fr _ (h2 z).1 (h2 z).2.1,(h2 z).2.2⟩⟩
  ·simp only [if_neg e]
   rw [gd_old (by omega)]
   obtain ⟨n0,n1,n2⟩:=h.node i (by omega)
   refine ⟨n0.later (fun z=>?_) (fun z=>?_),fun z=>?_,fun z=>?_⟩
   ·obtain ⟨a2,a3,_⟩:=n1 z
    exact (b5 _ (by omega) a3).trans (hb.block _ a2)
   ·obtain ⟨a2,a3,_⟩:=n2 z
    exact (b5 _ (by omega) a3).trans (hb.block _ a2)
   ·obtain ⟨a2,a3,a4⟩:=n1 z
    exact ⟨by omega,fr _ (by omega) a3,a4⟩
   ·obtain ⟨a2,a3,a4⟩:=n2 z
    exact ⟨by omega,fr _ (by omega) a3,a4⟩
theorem Lq.later {X : Nat} {w1 wr w' : World} {v : Value} {q : Nat -> NP} {L : List ND} (h : Lq X w1 wr v q L) (hb : Below wr.heap.size wr w') : Lq X w1 w' v q L:=by
 have hs:=hb.size
 obtain ⟨x1,x2⟩:=h.box
 refine ⟨own_block h.own (fun j e=>hb.block j (h.own.lt j e.symm).2),h.below.trans (hb.mono h.below.size),⟨by omega,x2⟩,fun i hi=>?_⟩
 obtain ⟨n0,n1,n2⟩:=h.node i hi
 exact ⟨n0.below hb,fun z=>⟨by have:=(n1 z).1;omega,(n1 z).2⟩,fun z=>⟨by have:=(n2 z).1;omega,(n2 z).2⟩⟩
theorem lq_nodes {X : Nat} {w1 wr : World} {oa : Option Addr} {cap k : Nat} {q : Nat -> NP} {L : List ND} (h : Lq X w1 wr (.slice oa k cap) q L) (hl : L.length = k) (hk : k <= 9223372036854775807) : ∃ b,NodesAt wr oa b 0 k q (gd L) /\ (0 < k -> w1.heap.size <= b /\ b < wr.heap.size /\ (Value.slice oa k cap).ownBlock = some b /\ b ≠ X):=by
 subst hl
 obtain ⟨x1,x2⟩:=h.box
 obtain ⟨h1,h2⟩:=h.own
 rcases h2 with ⟨hv,hn⟩ | ⟨g,cap',cur,hv,hb,hh,hc,hm,hs,ht⟩
 ·exact ⟨0,⟨fun z=>absurd z (by omega),fun i z=>absurd z (by omega),fun i z=>absurd z (by omega),fun i z=>absurd z (by omega),fun i z=>absurd z (by omega),hk⟩,fun z=>absurd z (by omega)⟩
 ·simp only [Value.slice.injEq] at hv
  have key : ∀ j u,j < L.length * 3 -> (ncells q (gd L) L.length)[j]? = some u -> wr.cell? ⟨g,0 + j,none⟩ = some u:=fun j u hj hu=>by
   rw [<- ht,List.getElem?_take,if_pos hj,Array.getElem?_toList] at hu
   simp [World.cell?,hh,hu]
  have eg : (Value.slice oa L.length cap).ownBlock = some g:=by rw [hv.1];rfl
  refine ⟨g,⟨fun _=>hv.1,fun i hi=>key (i * 3) _ (by omega) (ncells_at q (gd L) _ i hi).1,fun i hi=>key (i * 3 + 1) _ (by omega) (ncells_at q (gd L) _ i hi).2.1,fun i hi=>key (i * 3 + 2) _ (by omega) (ncells_at q (gd L) _ i hi).2.2,fun i hi=>(h.node i hi).1,hk⟩,fun _=>⟨hb,(Array.getElem?_eq_some_iff.1 hh).1,eg,fun e=>x2 (by rw [eg,e])⟩⟩
theorem lq_set {X : Nat} {w1 wr : World} {v : Value} {q : Nat -> NP} {L : List ND} (h : Lq X w1 wr v q L) (hX : w1.heap.size <= X) (o : Nat) (u : Value) : Lq X w1 (wr.setCell ⟨X,o,none⟩ u) v q L:=by
 obtain ⟨x1,x2⟩:=h.box
 have hb : ∀ j,j ≠ X -> (wr.setCell ⟨X,o,none⟩ u).heap[j]? = wr.heap[j]?:=fun j hj=>Below.heap_setCell _ _ _ _ hj
 have hz : (wr.setCell ⟨X,o,none⟩ u).heap.size = wr.heap.size:=by simp
 refine ⟨own_block h.own (fun j e=>hb j (fun e'=>x2 (by rw [<- e',e]))),h.below.setCell hX _,⟨by omega,x2⟩,fun i hi=>?_⟩
 obtain ⟨n0,n1,n2⟩:=h.node i hi
 exact ⟨n0.later (fun z=>hb _ (n1 z).2.2) (fun z=>hb _ (n2 z).2.2),fun z=>⟨by rw [hz];exact (n1 z).1,(n1 z).2⟩,fun z=>⟨by rw [hz];exact (n2 z).1,(n2 z).2⟩⟩
theorem lq_out {X : Nat} {w1 wr : World} {oa : Option Addr} {cap k : Nat} {q : Nat -> NP} {L : List ND} (h : Lq X w1 wr (.slice oa k cap) q L) (hl : L.length = k) (hk : k <= 9223372036854775807) (o : Nat) (u : Value) : ∃ b,NodesAt (wr.setCell ⟨X,o,none⟩ u) oa b 0 k q (gd L):=by
 obtain ⟨b,NN,NB⟩:=lq_nodes h hl hk
 have hb : ∀ j,j ≠ X -> (wr.setCell ⟨X,o,none⟩ u).heap[j]? = wr.heap[j]?:=fun j hj=>Below.heap_setCell _ _ _ _ hj
 refine ⟨b,⟨NN.at_,fun i hi=>?_,fun i hi=>?_,fun i hi=>?_,fun i hi=>?_,NN.len⟩⟩
 ·exact (World.cell?_of_block (hb _ (NB (by omega)).2.2.2)).trans (NN.c0 i hi)
 ·exact (World.cell?_of_block (hb _ (NB (by omega)).2.2.2)).trans (NN.c1 i hi)
 ·exact (World.cell?_of_block (hb _ (NB (by omega)).2.2.2)).trans (NN.c2 i hi)
 ·obtain ⟨n0,n1,n2⟩:=h.node i (by omega)
  exact n0.later (fun z=>hb _ (n1 z).2.2) (fun z=>hb _ (n2 z).2.2)
def np0 : NP:=⟨none,0,0,0,none,0,0,0⟩
theorem node_mk (w : World) (k : Int) : NodeAt w np0 (mkN k):=
 ⟨⟨fun h=>absurd h (Nat.lt_irrefl _),fun _ h=>absurd h (Nat.not_lt_zero _),fun _ h=>absurd h (Nat.not_lt_zero _),Nat.zero_le _⟩,⟨fun h=>absurd h (Nat.lt_irrefl _),fun _ h=>absurd h (Nat.not_lt_zero _),Nat.zero_le _⟩⟩
theorem none_strs (w : World) (ao : Option Addr) (b o : Nat) (S : Nat -> ByteArray) : StrsAt w ao b o 0 S:=⟨fun h=>absurd h (Nat.lt_irrefl _),fun _ h=>absurd h (Nat.not_lt_zero _),fun _ h=>absurd h (Nat.not_lt_zero _),Nat.zero_le _⟩
def recTo (C : Nat -> Nat) (L n p : Nat) : Nat -> List ByteArray × List Int
 | 0=>([],[])
 | j + 1=>if 0 < tk C L (p + 2 * j) 3 then ((recTo C L n p j).1 ++ [ltr j],(recTo C L n p j).2 ++ [(tk C L (p + 2 * j + 1) n : Int)]) else recTo C L n p j
def nodeL (k : Int) (ns : List ByteArray) (ks : List Int) : ND:=⟨k,ns.length,fun i=>ns.getD i ByteArray.empty,ks.length,fun i=>ks.getD i 0⟩
def copyK (x : ND) (k : Int) : Nat -> Int:=fun j=>if j = x.nk - 1 then k else x.kd j
def nextN (C : Nat -> Nat) (L n i p : Nat) (G : List ND) : ND × Nat:=
 if tk C L p 16 < 2 then (mkN 1,1) else
 if tk C L p 16 = 2 then (mkN 2,1) else
 if tk C L p 16 = 3 then (mkN 0,1) else
 if tk C L p 16 < 7 /\ 0 < i then
  if tk C L (p + 2) 3 = 0 /\ 0 < (gd G (tk C L (p + 1) i)).nk then
   (⟨(gd G (tk C L (p + 1) i)).kind,(gd G (tk C L (p + 1) i)).nn,(gd G (tk C L (p + 1) i)).nm,(gd G (tk C L (p + 1) i)).nk,copyK (gd G (tk C L (p + 1) i)) (tk C L (p + 3) n : Int)⟩,4)
  else (gd G (tk C L (p + 1) i),3) else
 if tk C L p 16 < 10 then (nodeL 4 [] [(tk C L (p + 1) n : Int),(tk C L (p + 2) n : Int)],3) else
 (nodeL 3 (recTo C L n (p + 2) (tk C L (p + 1) 3 + 1)).1 (recTo C L n (p + 2) (tk C L (p + 1) 3 + 1)).2,2 + 2 * (tk C L (p + 1) 3 + 1))
def drawN (C : Nat -> Nat) (L n p : Nat) : Nat -> List ND × Nat
 | 0=>([],p)
 | i + 1=>((drawN C L n p i).1 ++ [(nextN C L n i (drawN C L n p i).2 (drawN C L n p i).1).1],(drawN C L n p i).2 + (nextN C L n i (drawN C L n p i).2 (drawN C L n p i).1).2)
theorem drawN_len (C : Nat -> Nat) (L n p : Nat) : ∀ i,(drawN C L n p i).1.length = i
 | 0=>rfl
 | i + 1=>by show (_ ++ [_]).length = _;rw [List.length_append,drawN_len C L n p i];rfl
structure Few (m : Nat) (d : ND) : Prop where
 nn : d.nn <= m
 nk : d.nk <= m
 kind : 0 <= d.kind /\ d.kind <= 4
 kd : ∀ j,j < d.nk -> 0 <= d.kd j /\ d.kd j <= 1073741824
 size : ∀ j,j < d.nn -> (d.nm j).size <= 12
theorem few_mk {m : Nat} {k : Int} (h : 0 <= k /\ k <= 4) : Few m (mkN k):=⟨Nat.zero_le _,Nat.zero_le _,h,fun _ hj=>absurd hj (Nat.not_lt_zero _),fun _ hj=>absurd hj (Nat.not_lt_zero _)⟩
theorem getD_memB {l : List ByteArray} {i : Nat} (h : i < l.length) : l.getD i ByteArray.empty ∈ l:=by
 simp [List.getD,List.getElem?_eq_getElem h]
theorem getD_memZ {l : List Int} {i : Nat} (h : i < l.length) : l.getD i 0 ∈ l:=by
 simp [List.getD,List.getElem?_eq_getElem h]
theorem few_nodeL {m : Nat} {k : Int} {ns : List ByteArray} {ks : List Int} (h : 0 <= k /\ k <= 4) (h1 : ns.length <= m) (h2 : ks.length <= m) (h3 : ∀ x,x ∈ ks -> 0 <= x /\ x <= 1073741824) (h4 : ∀ x,x ∈ ns -> x.size <= 12) : Few m (nodeL k ns ks):=
 ⟨h1,h2,h,fun _ hj=>h3 _ (getD_memZ hj),fun _ hj=>h4 _ (getD_memB hj)⟩
theorem ltr_size (i : Nat) : (ltr i).size <= 12:=by unfold ltr;split;· decide
                                                    split <;> decide
theorem recTo_few (C : Nat -> Nat) (L n p : Nat) (hn : n <= 1073741824) : ∀ j,(recTo C L n p j).1.length <= j /\ (recTo C L n p j).2.length <= j /\ (recTo C L n p j).2.length = (recTo C L n p j).1.length /\ (∀ x,x ∈ (recTo C L n p j).2 -> 0 <= x /\ x <= 1073741824) /\ ∀ x,x ∈ (recTo C L n p j).1 -> x.size <= 12
 | 0=>⟨Nat.le_refl _,Nat.le_refl _,rfl,fun x h=>absurd h List.not_mem_nil,fun x h=>absurd h List.not_mem_nil⟩
 | j + 1=>by
   obtain ⟨a,b,e,c,d⟩:=recTo_few C L n p hn j
   unfold recTo
   split
   ·have:=tk_le C L (p + 2 * j + 1) n
    refine ⟨by simp;omega,by simp;omega,by simp [e],fun x hx=>?_,fun x hx=>?_⟩
    ·rcases List.mem_append.1 hx with h | h
     ·exact c x h
     ·rw [List.mem_singleton] at h;subst h;exact ⟨by omega,by omega⟩
    ·rcases List.mem_append.1 hx with h | h
     ·exact d x h
     ·rw [List.mem_singleton] at h;subst h;exact ltr_size j
   ·exact ⟨by omega,by omega,e,c,d⟩
theorem next_few {C : Nat -> Nat} {L n i p : Nat} {G : List ND} (hn : n <= 1073741824) (hG : ∀ j,j < G.length -> Few 3 (gd G j)) (hi : G.length = i) : Few 3 (nextN C L n i p G).1 /\ (nextN C L n i p G).2 <= 8:=by
 unfold nextN
 split
 ·exact ⟨few_mk (by omega),by decide⟩
 split
 ·exact ⟨few_mk (by omega),by decide⟩
 split
 ·exact ⟨few_mk (by omega),by decide⟩
 split
 ·rename_i h4
  have hb : tk C L (p + 1) i < G.length:=by rw [hi];exact tk_lt h4.2
  have F:=hG _ hb
  split
  ·have:=tk_le C L (p + 3) n
   refine ⟨⟨F.nn,F.nk,F.kind,fun j hj=>?_,F.size⟩,by show 4 <= 8;omega⟩
   show 0 <= copyK _ _ j /\ copyK _ _ j <= _
   unfold copyK
   split
   ·exact ⟨by omega,by omega⟩
   ·exact F.kd j hj
  ·exact ⟨F,by show 3 <= 8;omega⟩
 split
 ·have h1:=tk_le C L (p + 1) n
  have h2:=tk_le C L (p + 2) n
  refine ⟨few_nodeL (by omega) (by simp) (by simp) (fun x hx=>?_) (fun x h=>absurd h List.not_mem_nil),by show 3 <= 8;omega⟩
  simp only [List.mem_cons,List.not_mem_nil,or_false] at hx
  rcases hx with rfl | rfl
  ·exact ⟨by omega,by omega⟩
  ·exact ⟨by omega,by omega⟩
 ·have h1 : tk C L (p + 1) 3 < 3:=tk_lt (by omega)
  obtain ⟨a,b,_,c,d⟩:=recTo_few C L n (p + 2) hn (tk C L (p + 1) 3 + 1)
  exact ⟨few_nodeL (by omega) (by omega) (by omega) c d,by show 2 + 2 * (tk C L (p + 1) 3 + 1) <= 8;omega⟩
theorem drawN_few {C : Nat -> Nat} {L n p : Nat} (hn : n <= 1073741824) : ∀ i,(∀ j,j < (drawN C L n p i).1.length -> Few 3 (gd (drawN C L n p i).1 j)) /\ p <= (drawN C L n p i).2 /\ (drawN C L n p i).2 <= p + 8 * i
 | 0=>⟨fun j hj=>absurd hj (Nat.not_lt_zero _),Nat.le_refl _,Nat.le_refl _⟩
 | i + 1=>by
   obtain ⟨h1,h2,h3⟩:=drawN_few (C:=C) (L:=L) (p:=p) hn i
   obtain ⟨g1,g2⟩:=next_few (C:=C) (L:=L) (p:=(drawN C L n p i).2) hn h1 (drawN_len C L n p i)
   refine ⟨fun j hj=>?_,by show p <= _ + _;omega,by show _ + _ <= _;omega⟩
   have hl:=drawN_len C L n p i
   have hj' : j < (drawN C L n p i).1.length + 1:=by simpa [drawN] using hj
   show Few 3 (gd (_ ++ [_]) j)
   by_cases e : j = (drawN C L n p i).1.length
   ·subst e;rw [gd_new];exact g1
   ·rw [gd_old (by omega)];exact h1 j (by omega)
def GraphPost (w : World) (N : Nat) (G : List ND) (p : Nat) (e : Ending) (w' : World) : Prop:=
 ∃ (oa : Option Addr) (cap b : Nat) (q : Nat -> NP),e = .returned (.tuple #[.agg #[.slice oa N cap],.int .i64 (p : Int)]) /\ NodesAt w' oa b 0 N q (gd G) /\ Below w.heap.size w w'
theorem own_ne {w : World} {base : Nat} {e : TypeId} {size : Nat} {v : Value} {n : Nat} {xs : List Value} (h : w.ownsRow base e size v n xs) {x : Nat} (hx : w.heap.size <= x) : some x ≠ v.ownBlock:=fun e=>by have:=(h.lt x e.symm).2;omega
structure RecAt (wr wx : World) (v1 v2 : Value) (ns : List ByteArray) (ks : List Int) : Prop where
 o1 : wx.ownsRow wr.heap.size 9 1 v1 ns.length (tcells ns)
 o2 : wx.ownsRow wr.heap.size 3 1 v2 ks.length (zcells ks)
 ne : ∀ b,v1.ownBlock = some b -> v2.ownBlock ≠ some b
 below : Below wr.heap.size wr wx
theorem rec_start (wr : World) : RecAt wr ((wr.alloc (.cells #[] 9)).alloc (.cells #[] 3)) (.slice (some ⟨wr.heap.size,0,none⟩) 0 0) (.slice (some ⟨wr.heap.size + 1,0,none⟩) 0 0) [] []:=by
 have a:=(World.ownsRow_lit (base:=wr.heap.size) (e:=9) (size:=1) wr #[] 0 (Nat.le_refl _) (by unfold maxLen;omega) (by rfl)).alloc (.cells #[] 3)
 have b:=World.ownsRow_lit (base:=wr.heap.size) (e:=3) (size:=1) (wr.alloc (.cells #[] 9)) #[] 0 (by simp) (by unfold maxLen;omega) (by rfl)
 simp only [World.size_alloc] at b
 exact ⟨a,b,fun x h1 h2=>by simp [Value.ownBlock] at h1 h2;omega,bel2 _ _ _⟩
theorem rec_mid {wr wx w6 : World} {v1 v2 : Value} {ns : List ByteArray} {ks : List Int} {o : Obj} (h : RecAt wr wx v1 v2 ns ks) (hg : (wx.alloc o).grownBy w6 v1.ownBlock) : w6.ownsRow wr.heap.size 3 1 v2 ks.length (zcells ks):=
 own_block h.o2 (fun k e=>(hg.block k (by have:=(h.o2.lt k e.symm).2;simp;omega) (fun e'=>h.ne k e'.symm e.symm)).trans (Below.heap_alloc _ _ _ (h.o2.lt k e.symm).2))
theorem rec_push {wr wx w6 w7 : World} {v1 v2 : Value} {ns : List ByteArray} {ks : List Int} {o o' : Obj} {g1 g2 m1 m2 c1 c2 : Nat} {s : ByteArray} {k : Int} (h : RecAt wr wx v1 v2 ns ks) (hn1 : ns.length = m1) (hn2 : ks.length = m2)
  (hg : (wx.alloc o).grownBy w6 v1.ownBlock) (ha : v1.ownBlock = some g1 \/ g1 = wx.heap.size + 1) (h6 : w6.ownsRow wr.heap.size 9 1 (.slice (some ⟨g1,0,none⟩) (m1 + 1) c1) (m1 + 1) (tcells ns ++ [.string s]))
  (hg' : (w6.alloc o').grownBy w7 v2.ownBlock) (ha' : v2.ownBlock = some g2 \/ g2 = w6.heap.size + 1) (h7 : w7.ownsRow wr.heap.size 3 1 (.slice (some ⟨g2,0,none⟩) (m2 + 1) c2) (m2 + 1) (zcells ks ++ [.int .i64 k])) :
  RecAt wr w7 (.slice (some ⟨g1,0,none⟩) (m1 + 1) c1) (.slice (some ⟨g2,0,none⟩) (m2 + 1) c2) (ns ++ [s]) (ks ++ [k]):=by
 subst hn1 hn2
 have l6:=hg.size
 simp at l6
 have g1lt : g1 < w6.heap.size:=(h6.lt g1 rfl).2
 have NE : some g1 ≠ v2.ownBlock:=fun e=>by
  rcases ha with q | q
  ·exact h.ne g1 q e.symm
  ·have:=(h.o2.lt g1 e.symm).2
   omega
 refine ⟨?_,?_,fun b e1 e2=>?_,?_⟩
 ·have r:=own_block h6 (w':=w7) (fun j e=>by
   have ej : j = g1:=by simpa [Value.ownBlock] using e
   subst ej
   exact (hg'.block j (by simp;omega) NE).trans (Below.heap_alloc _ _ _ g1lt))
  simpa [tcells] using r
 ·simpa [zcells] using h7
 ·simp [Value.ownBlock] at e1 e2
  subst e1
  rcases ha' with q | q
  ·exact NE (by rw [q,e2])
  ·omega
 ·have b1:=below_grown (base:=wr.heap.size) h.below h.below.size hg (fun j hj=>(h.o1.lt j hj).1)
  exact below_grown b1 b1.size hg' (fun j hj=>(h.o2.lt j hj).1)
theorem copy_set (x : ND) {K r : Nat} {v : Int} (hK : x.nk = K) (hr : K = r + 1) {j : Nat} (hj : j < K) : ((upZ x.kd K).set r v).getD j 0 = copyK x v j:=by
 unfold copyK
 rw [hK]
 by_cases e : j = K - 1
 ·rw [if_pos e]
  have : j = r:=by omega
  subst this
  simp [List.getD,upZ,hj]
 ·rw [if_neg e]
  have hne : r ≠ j:=by omega
  simp [List.getD,upZ,hj,hne]
def upN (f : Nat -> ND) (k : Nat) : List ND:=(List.range k).map f
theorem upN_len (f : Nat -> ND) (k : Nat) : (upN f k).length = k:=by simp [upN]
theorem upN_succ (f : Nat -> ND) (k : Nat) : upN f (k + 1) = upN f k ++ [f k]:=by simp [upN,List.range_succ]
theorem gd_upN (f : Nat -> ND) {k i : Nat} (h : i < k) : gd (upN f k) i = f i:=by simp [gd,upN,List.getD,h]
abbrev sA : ByteArray:=⟨#[97]⟩
abbrev sB : ByteArray:=⟨#[98]⟩
abbrev sIf : ByteArray:=⟨#[105,102]⟩
def spoilD (N a : Nat) (x : ND) : ND:=
 if a = 0 then ⟨5,x.nn,x.nm,x.nk,x.kd⟩ else if a = 1 then ⟨x.kind,x.nn,x.nm,1 + x.nk,fun j=>((N : Int) :: upZ x.kd x.nk).getD j 0⟩ else if a = 2 then ⟨x.kind - 1,x.nn,x.nm,x.nk,x.kd⟩ else
 if a = 3 then nodeL 3 [sB,sA] [0,0] else if a = 4 then nodeL 3 [sA,sA] [0,0] else if a = 5 then nodeL 3 [sIf] [0] else nodeL 4 [] [0,-1]
def spoilF (C : Nat -> Nat) (L q : Nat) (G : List ND) (i : Nat) : ND:=if i = tk C L (q + 1) G.length then spoilD G.length (tk C L q 7) (gd G i) else gd G i
def spoilL (C : Nat -> Nat) (L q : Nat) (G : List ND) : List ND:=upN (spoilF C L q G) G.length
theorem wpList_append_zero {P : Program} (w : World) {ops : Array Oper} {rest : List Oper} {o : Oper} {a : Act} {Q : Exit -> Act -> World -> Prop} (hgd : o.guard = none) (s x : Operand) (t : TypeId)
  (ho : o.op = .call { callee:=.builtin .append,args:=#[s,x],argTypes:=#[t,t] }) {e : TypeId} (i : TypeInfo) (ht : P.underlying t = some (.slice e)) (hi : P.info? e = some i)
  (base : Option Addr) (sl sc : Nat) (hle : sl <= sc) (xv : Value) (hsv : a.eval s = .slice base sl sc) (hx : a.eval x = xv) (hs : Src P i.size t xv 0 [] w)
  (hK : wpList P ops Q rest (a.put o.dst (.slice base sl sc)) w) : wpList P ops Q (o :: rest) a w:=by
 refine wpList_plain hgd fun K hK'=>?_
 have hrun:=run_append_nothing (P:=P) w t t o.type e i ht hi base sl sc hle xv hs
 unfold Oper.wp
 simp [execOp,ho,resolve,invoke,builtin,hsv,hx,hrun,Result.andThen]
 exact hK' _ _ hK
theorem src_zero {P : Program} {size : Nat} {tx e' : TypeId} {w : World} (hk : P.underlying tx = some (.slice e')) (ao : Option Addr) (c : Nat) : Src P size tx (.slice ao 0 c) 0 [] w:=by
 cases ao with
 | none=>exact Src.ofNil w hk c
 | some a=>exact Src.ofSlice w hk a 0 c [] (by simp) (fun j u h=>by simp at h) (fun u h=>by cases h)
theorem two_strs (w : World) (a b : ByteArray) (ha : a.size <= 12) (hb : b.size <= 12) : StrsAt (w.alloc (.cells #[.string a,.string b] 9)) (some ⟨w.heap.size,0,none⟩) w.heap.size 0 2 (fun i=>[a,b].getD i ByteArray.empty):=by
 have R:=row2 w (.string a) (.string b) 9
 refine ⟨fun _=>rfl,fun j hj=>?_,fun j hj=>?_,by omega⟩
 ·rw [Nat.zero_add]
  refine (R.cell (i:=j) hj).trans ?_
  match j,hj with
  | 0,_=>rfl
  | 1,_=>rfl
 ·match j,hj with
  | 0,_=>show a.size <= _;omega
  | 1,_=>show b.size <= _;omega
theorem one_strs (w : World) (a : ByteArray) (ha : a.size <= 12) : StrsAt (w.alloc (.cells #[.string a] 9)) (some ⟨w.heap.size,0,none⟩) w.heap.size 0 1 (fun i=>[a].getD i ByteArray.empty):=by
 have R:=row1 w (.string a) 9
 refine ⟨fun _=>rfl,fun j hj=>?_,fun j hj=>?_,by omega⟩
 ·rw [Nat.zero_add]
  refine (R.cell (i:=j) hj).trans ?_
  match j,hj with
  | 0,_=>rfl
 ·match j,hj with
  | 0,_=>show a.size <= _;omega
theorem two_ints (w : World) (a b : Int) : IntsAt (w.alloc (.cells #[.int .i64 a,.int .i64 b] 3)) (some ⟨w.heap.size,0,none⟩) w.heap.size 0 2 (fun i=>[a,b].getD i 0):=by
 have R:=row2 w (.int .i64 a) (.int .i64 b) 3
 refine ⟨fun _=>rfl,fun j hj=>?_,by omega⟩
 rw [Nat.zero_add]
 refine (R.cell (i:=j) hj).trans ?_
 match j,hj with
 | 0,_=>rfl
 | 1,_=>rfl
theorem one_ints (w : World) (a : Int) : IntsAt (w.alloc (.cells #[.int .i64 a] 3)) (some ⟨w.heap.size,0,none⟩) w.heap.size 0 1 (fun i=>[a].getD i 0):=by
 have R:=row1 w (.int .i64 a) 3
 refine ⟨fun _=>rfl,fun j hj=>?_,by omega⟩
 rw [Nat.zero_add]
 refine (R.cell (i:=j) hj).trans ?_
 match j,hj with
 | 0,_=>rfl
theorem set3 {w : World} {B : Nat} {v0 v1 v2 : Value} (X : Nat) (hX : X ≠ B) : ((((w.setCell ⟨B,0,none⟩ v0).setCell ⟨B,1,none⟩ v1).setCell ⟨B,2,none⟩ v2)).heap[X]? = w.heap[X]?:=by
 rw [Below.heap_setCell _ _ _ _ (by exact hX),Below.heap_setCell _ _ _ _ (by exact hX),Below.heap_setCell _ _ _ _ (by exact hX)]
def GraphPost1 (w : World) (N : Nat) (G : List ND) (e : Ending) (w' : World) : Prop:=
 ∃ (oa : Option Addr) (cap b : Nat) (q : Nat -> NP),e = .returned (.agg #[.slice oa N cap]) /\ NodesAt w' oa b 0 N q (gd G) /\ Below w.heap.size w w'
def kcell : Kq -> List Value
 | .ty a=>[.int .i64 (a : Int),.int .i64 (-1),.bool false]
 | .qn q=>[.int .i64 (q.a : Int),.int .i64 (q.b : Int),.bool q.up]
def kcells (ks : List Kq) : List Value:=ks.flatMap kcell
structure BlAt (w : World) (ao : Option Addr) (g n : Nat) (K : Nat -> Kq) : Prop where
 at_ : 0 < n -> ao = some ⟨g,0,none⟩
 c : ∀ i,i < n -> ∀ j,j < 3 -> w.cell? ⟨g,i * 3 + j,none⟩ = (kcell (K i))[j]?
 len : n <= 9223372036854775807
theorem BlAt.below {w w' : World} {ao : Option Addr} {g n : Nat} {K : Nat -> Kq} (h : BlAt w ao g n K) (hb : Below w.heap.size w w') : BlAt w' ao g n K:=
 ⟨h.at_,fun i hi j hj=>by
  have h1:=h.c i hi j hj
  have h2 : ∃ v,(kcell (K i))[j]? = some v:=by
   cases K i <;> (match j,hj with
    | 0,_=>exact ⟨_,rfl⟩
    | 1,_=>exact ⟨_,rfl⟩
    | 2,_=>exact ⟨_,rfl⟩)
  obtain ⟨v,hv⟩:=h2
  rw [hv] at h1 ⊢
  exact (hb.cell (p:=⟨g,i * 3 + j,none⟩) (blt h1)).trans h1,h.len⟩
theorem BlAt.qn {w : World} {ao : Option Addr} {g n : Nat} {K : Nat -> Kq} (h : BlAt w ao g n K) {i : Nat} (hi : i < n) {q : Qn} (e : K i = .qn q) : w.cell? ⟨g,i * 3,none⟩ = some (.int .i64 (q.a : Int)) /\ w.cell? ⟨g,i * 3 + 1,none⟩ = some (.int .i64 (q.b : Int)) /\ w.cell? ⟨g,i * 3 + 2,none⟩ = some (.bool q.up):=by
 have h0:=h.c i hi 0 (by omega)
 have h1:=h.c i hi 1 (by omega)
 have h2:=h.c i hi 2 (by omega)
 rw [e] at h0 h1 h2
 exact ⟨h0,h1,h2⟩
theorem BlAt.ty {w : World} {ao : Option Addr} {g n : Nat} {K : Nat -> Kq} (h : BlAt w ao g n K) {i : Nat} (hi : i < n) {a : Nat} (e : K i = .ty a) : w.cell? ⟨g,i * 3,none⟩ = some (.int .i64 (a : Int)) /\ w.cell? ⟨g,i * 3 + 1,none⟩ = some (.int .i64 (-1)) /\ w.cell? ⟨g,i * 3 + 2,none⟩ = some (.bool false):=by
 have h0:=h.c i hi 0 (by omega)
 have h1:=h.c i hi 1 (by omega)
 have h2:=h.c i hi 2 (by omega)
 rw [e] at h0 h1 h2
 exact ⟨h0,h1,h2⟩
def plQ (L : List Qn) (q : Qn) : Int:=if q ∈ L then (L.idxOf q : Int) else -1
theorem plQ_at {L : List Qn} {q : Qn} {k : Nat} (hk : k < L.length) (e : L[k] = q) (hb : ∀ j (h : j < k),L[j] ≠ q) : plQ L q = (k : Int):=by
 unfold plQ
 rw [if_pos (by rw [<- e];exact List.getElem_mem _)]
 congr 1
 have h1 : L.idxOf q < L.length:=List.idxOf_lt_length_of_mem (by rw [<- e];exact List.getElem_mem _)
 rcases Nat.lt_trichotomy (L.idxOf q) k with h | h | h
 ·exact absurd (List.getElem_idxOf h1) (hb _ h)
 ·exact h
 ·have:=List.not_of_lt_findIdx (p:=fun x=>x == q) (xs:=L) (i:=k) h
  simp [e] at this
theorem plQ_no {L : List Qn} {q : Qn} (hb : ∀ j (h : j < L.length),L[j] ≠ q) : plQ L q = -1:=by
 unfold plQ
 rw [if_neg (fun hm=>by obtain ⟨j,h,e⟩:=List.mem_iff_getElem.1 hm;exact hb j h e)]
set_option maxHeartbeats 4000000 in
theorem m_blend (ao : Option Addr) (g n cap : Nat) (L : List Qn) (q : Qn) (w : World) (h1 : BlAt w ao g n (fun i=>.qn (L.getD i q))) (hl : L.length = n) :
  Calls Tryz.prog 61 #[.slice ao n cap,.agg #[.int .i64 (q.a : Int),.int .i64 (q.b : Int),.bool q.up]] w fun e w'=>e = .returned (.int .i64 (plQ L q)) /\ Below w.heap.size w w':=by
 have HB : Hid (∀ w',Below w.heap.size w w' -> BlAt w' ao g n (fun i=>.qn (L.getD i q))):=fun w' hb=>h1.below hb
 have A1:=h1.at_
 have hlen:=h1.len
 have HL : Hid (L.length = n):=hl
 clear h1 hl
 have RO:=row3 w (.int .i64 (q.a : Int)) (.int .i64 (q.b : Int)) (.bool q.up) 81
 have o0:=RO.cell (i:=0) (by omega)
 have o1:=RO.cell (i:=1) (by omega)
 have o2:=RO.cell (i:=2) (by omega)
 have HO : Hid (∀ W,Below (w.alloc (.cells #[.int .i64 (q.a : Int),.int .i64 (q.b : Int),.bool q.up] 81)).heap.size (w.alloc (.cells #[.int .i64 (q.a : Int),.int .i64 (q.b : Int),.bool q.up] 81)) W -> W.cell? ⟨w.heap.size,0,none⟩ = some (.int .i64 (q.a : Int)) /\ W.cell? ⟨w.heap.size,1,none⟩ = some (.int .i64 (q.b : Int)) /\ W.cell? ⟨w.heap.size,2,none⟩ = some (.bool q.up) /\ Below w.heap.size w W):=fun W hW=>
  ⟨(hW.cell (p:=⟨w.heap.size,0,none⟩) (by simp)).trans o0,(hW.cell (p:=⟨w.heap.size,1,none⟩) (by simp)).trans o1,(hW.cell (p:=⟨w.heap.size,2,none⟩) (by simp)).trans o2,(bel1 _ _).trans (hW.mono (by simp))⟩
 clear RO o0 o1 o2
 obtain ⟨W0,hW0⟩ : ∃ W0,W0 = w.alloc (.cells #[.int .i64 (q.a : Int),.int .i64 (q.b : Int),.bool q.up] 81):=⟨_,rfl⟩
 go_enter Tryz.func61,Tryz.ntmps61
 go_wp2
 rw [<- hW0] at HO ⊢
 clear hW0
 go_loopw [5] (fun i wr=>∃ k : Nat,k <= n /\ i = .int .i64 k /\ Hid (∀ j,j < k -> L.getD j q ≠ q) /\ Below W0.heap.size W0 wr) (fun i _=>n - (intOf i).toNat)
 case atStart=>exact ⟨0,Nat.zero_le _,rfl,fun j hj=>absurd hj (Nat.not_lt_zero _),Below.refl _ _⟩
 case round=>
  obtain ⟨k,hk,rfl,HJ,hb⟩:=hrel
  obtain ⟨o0,o1,o2,BW⟩:=HO.out wr hb
  by_cases hlt : k < n
  ·have e1:=A1 (by omega)
   subst e1
   obtain ⟨c0,c1,c2⟩:=(HB.out wr BW).qn hlt rfl
   obtain ⟨z,hz⟩ : ∃ z,z = L.getD k q:=⟨_,rfl⟩
   have HZ : Hid (L.getD k q = z):=hz.symm
   rw [<- hz] at c0 c1 c2
   clear hz
   have lk : (k : Int) < (n : Int):=by omega
   have HSTEP : Hid (z ≠ q -> ∀ j,j < k + 1 -> L.getD j q ≠ q):=fun hne j hj=>by
    by_cases e : j = k
    ·rw [e,HZ.out];exact hne
    ·exact HJ.out j (by omega)
   by_cases ha : z.a = q.a
   ·by_cases hbb : z.b = q.b
    ·by_cases hu : z.up = q.up
     ·have HE : Hid (plQ L q = (k : Int)):=by
       have hkl : k < L.length:=by rw [HL.out];exact hlt
       have gd : ∀ j (h : j < L.length),L.getD j q = L[j]:=fun j h=>by simp [List.getD,List.getElem?_eq_getElem h]
       refine plQ_at hkl ?_ (fun j h=>?_)
       ·rw [<- gd k hkl,HZ.out]
        cases z;cases q;simp_all
       ·rw [<- gd j (by omega)];exact HJ.out j h
      rw [ha] at c0
      rw [hbb] at c1
      rw [hu] at c2
      clear HSTEP
      go_wp2
      go_quiet (fail)
      go_wp2
      go_ret
      exact ⟨by rw [HE.out];rfl,below_drewN BW _⟩
     ·have HN : Hid (∀ j,j < k + 1 -> L.getD j q ≠ q):=HSTEP.out (fun e=>hu (by rw [e]))
      rw [ha] at c0
      rw [hbb] at c1
      have hu2 : (z.up == q.up) = false:=by rw [beq_eq_false_iff_ne];exact hu
      clear HSTEP HJ
      go_wp2
      go_quiet (fail)
      go_wp2
      go_roundw
      case rel=>exact ⟨k + 1,by omega,by go_num,HN,below_drewN hb _⟩
      case measure=>simp [intOf];omega
    ·have HN : Hid (∀ j,j < k + 1 -> L.getD j q ≠ q):=HSTEP.out (fun e=>hbb (by rw [e]))
     rw [ha] at c0
     have hb2 : ((z.b : Int) == (q.b : Int)) = false:=by rw [beq_eq_false_iff_ne];omega
     clear HSTEP HJ
     go_wp2
     go_quiet (fail)
     go_wp2
     go_roundw
     case rel=>exact ⟨k + 1,by omega,by go_num,HN,below_drewN hb _⟩
     case measure=>simp [intOf];omega
   ·have HN : Hid (∀ j,j < k + 1 -> L.getD j q ≠ q):=HSTEP.out (fun e=>ha (by rw [e]))
    have ha2 : ((z.a : Int) == (q.a : Int)) = false:=by rw [beq_eq_false_iff_ne];omega
    clear HSTEP HJ
    go_wp2
    go_quiet (fail)
    go_wp2
    go_roundw
    case rel=>exact ⟨k + 1,by omega,by go_num,HN,below_drewN hb _⟩
    case measure=>simp [intOf];omega
  ·have hkn : k = n:=by omega
   subst hkn
   have HE : Hid (plQ L q = -1):=plQ_no (fun j h=>by
    have:=HJ.out j (by rw [<- HL.out];exact h)
    simpa [List.getD,List.getElem?_eq_getElem h] using this)
   go_wp2
   go_ret
   exact ⟨by rw [HE.out];rfl,BW⟩
end Go.Proofs.YtpbpbppimkeodaaGreatDoor
