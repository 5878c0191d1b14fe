/-
  SubWalk SubWill SubSmall
-/
import Derived.Test.YtpbpbppimkeodaaGreatDoorTe
import Derived.Test.YtpbpbppimkeodaaGreatDoorSr
import Derived.Test.YtpbpbppimkeodaaGreatDoorSo
set_option maxRecDepth 100000
namespace Go.Proofs.YtpbpbppimkeodaaGreatDoor
open Go.RowKit Go.Maps
theorem StepEnd.back {G : Nat -> ND} {a b : Nat} {ord : List (Nat × Nat)} {kb mb : Nat} {keep : Nat -> Prop} {w w1 : World} {e : Ending} {w' : World} (h : StepEnd G a b ord kb mb keep w1 e w') (hk : Kept keep w w1) : StepEnd G a b ord kb mb keep w e w':=by
 obtain ⟨r,e,h⟩:=h
 exact ⟨r,e,h.kn,hk.trans h.kept,h.no⟩
set_option maxHeartbeats 4000000 in
theorem w44 {N gb go : Nat} {p : Nat -> NP} {G : Nat -> ND} (ao : Option Addr) (gc : Nat) (M : Nat) (kb mb : Nat) (ov : Value) (D : DataW Unit) (ord : List (Nat × Nat)) (keep : Nat -> Prop) (a b : Nat) (w : World) (h : Kn w kb mb ov D ord keep) (hG : ∀ w',Kept keep w w' -> NodesAt w' ao gb go N p G) (hM : w.cell? ⟨M,0,none⟩ = some (.slice ao N gc)) (ha : a < N) (hb : b < N) (hK : Kids N G) (hP : ∀ x,x < N -> Plain (G x)) (hS : ∀ x,x < N -> Srt (G x)) (hN : N <= 500000) (ho : ord.length + (G b).nn + 2 <= 100000000) :
  Calls Tryz.prog 67 #[.agg #[.int .i64 (a : Int),.int .i64 (b : Int)],.pointer (some ⟨kb,0,none⟩),.pointer (some ⟨M,0,none⟩)] w (StepEnd G a b ord kb mb keep w):=by
 obtain ⟨W0,hW0⟩ : ∃ W0,W0 = w.alloc (.cells #[.int .i64 (a : Int),.int .i64 (b : Int)] 69):=⟨_,rfl⟩
 have BW : Below w.heap.size w W0:=by rw [hW0];exact bel1 _ _
 have KW : ∀ W,Below w.heap.size w W -> Kept keep w W:=fun W hb'=>⟨hb'.os,hb'.tape,hb'.output,hb'.size,fun k hk=>hb'.block k ((h.far k hk).1)⟩
 have C : Hid (∀ W,Below W0.heap.size W0 W -> Calls Tryz.prog 68 #[.agg #[.slice ao N gc],.agg #[.int .i64 (a : Int),.int .i64 (b : Int)],.pointer (some ⟨kb,0,none⟩)] W (StepEnd G a b ord kb mb keep w)):=fun W hW=>by
  have B:=BW.trans (hW.mono BW.size)
  exact (w45 ao gc kb mb ov D ord keep a b W (h.below B) (fun w' hk=>hG w' ((KW W B).trans hk)) ha hb hK hP hS hN ho).mono (fun e w' z=>z.back (KW W B))
 have RP : W0.rowIs w.heap.size 69 2 (v2 (.int .i64 (a : Int)) (.int .i64 (b : Int))):=by rw [hW0];exact row2 w _ _ 69
 have s1 : W0.cell? ⟨w.heap.size,0,none⟩ = some (.int .i64 (a : Int)):=RP.cell (i:=0) (by omega)
 have s2 : W0.cell? ⟨w.heap.size,1,none⟩ = some (.int .i64 (b : Int)):=RP.cell (i:=1) (by omega)
 have s3 : W0.cell? ⟨M,0,none⟩ = some (.slice ao N gc):=(BW.cell (p:=⟨M,0,none⟩) (blt hM)).trans hM
 clear h hG hM hK hP hS KW BW RP
 subst hW0
 go_enter Tryz.func67,Tryz.ntmps67
 go_wp2_with (first | (go_at_call 68;(first | (with_reducible refine (C.out _ (Below.refl _ _)).mono ?_) | (with_reducible refine (C.out _ (Below.refl _ _).drew).mono ?_))))
 intro e w5 hE
 obtain ⟨r,rfl,hO⟩:=hE
 have FH : Hid (StepEnd G a b ord kb mb keep w (.returned (.bool r)) w5):=⟨r,rfl,hO⟩
 clear hO C
 go_wp2
 go_ret
 exact FH.out
structure SInv (N : Nat) (G : Nat -> ND) (a b : Nat) (ord : List (Nat × Nat)) (i : Nat) : Prop where
 first : (a,b) ∈ ord
 bound : ∀ q,q ∈ ord -> q.1 < N /\ q.2 < N
 nodup : ord.Nodup
 done : ∀ j q,j < i -> ord[j]? = some q -> q.1 = q.2 \/ (Can (G q.1) (G q.2) /\ ∀ d,d ∈ demP (G q.1) (G q.2) -> atP (G q.1) (G q.2) d ∈ ord)
 forced : Forced G a b ord
theorem SInv.start {N : Nat} {G : Nat -> ND} {a b : Nat} (ha : a < N) (hb : b < N) : SInv N G a b [(a,b)] 0:=
 ⟨by simp,fun q h=>by simp at h;subst h;exact ⟨ha,hb⟩,by simp,fun j q h=>absurd h (Nat.not_lt_zero _),forced_start G a b⟩
theorem SInv.len {N : Nat} {G : Nat -> ND} {a b i : Nat} {ord : List (Nat × Nat)} (h : SInv N G a b ord i) : ord.length <= N * N:=by
 rw [<- pairs_len N]
 refine nodup_len h.nodup (fun q hq=>?_)
 obtain ⟨h1,h2⟩:=h.bound q hq
 simp only [List.mem_flatMap,List.mem_map,List.mem_range]
 exact ⟨q.1,h1,q.2,h2,rfl⟩
theorem SInv.end {N : Nat} {G : Nat -> ND} {a b i : Nat} {ord : List (Nat × Nat)} (h : SInv N G a b ord i) (hi : ord.length <= i) (hK : Kids N G) (hP : ∀ x,x < N -> Plain (G x)) (hS : ∀ x,x < N -> Srt (G x)) : SubP G a b:=
 sub_done hK hP hS h.bound (fun q hq=>by
  obtain ⟨j,hj,e⟩:=List.getElem_of_mem hq
  exact h.done j q (by omega) (by rw [List.getElem?_eq_getElem hj,e])) (a,b) h.first
theorem SInv.no {N : Nat} {G : Nat -> ND} {a b i x y : Nat} {ord : List (Nat × Nat)} (h : SInv N G a b ord i) (hq : ord[i]? = some (x,y)) (hc : ¬ Can (G x) (G y)) : ¬ SubP G a b:=
 forced_no h.forced (List.mem_of_getElem? hq) hc
theorem SInv.step {N : Nat} {G : Nat -> ND} {a b i x y : Nat} {ord ord' : List (Nat × Nat)} (h : SInv N G a b ord i) (hK : Kids N G) (hP : ∀ x,x < N -> Plain (G x)) (hq : ord[i]? = some (x,y))
  (hs : (∃ t,ord' = ord ++ t) /\ (x = y \/ (Can (G x) (G y) /\ ∀ d,d ∈ demP (G x) (G y) -> atP (G x) (G y) d ∈ ord')) /\ (∀ q,q ∈ ord' -> q ∈ ord \/ ∃ d,d ∈ demP (G x) (G y) /\ q = atP (G x) (G y) d) /\ (ord.Nodup -> ord'.Nodup)) : SInv N G a b ord' (i + 1) /\ ord.length <= ord'.length:=by
 obtain ⟨⟨t,rfl⟩,hc,hm,hn⟩:=hs
 have hxy:=h.bound _ (List.mem_of_getElem? hq)
 have hC : Can (G x) (G y):=by
  rcases hc with e | ⟨c,_⟩
  ·subst e;exact can_refl _
  ·exact c
 refine ⟨⟨List.mem_append_left _ h.first,fun q hq'=>?_,hn h.nodup,fun j q hj hq'=>?_,fun hsub q hq'=>?_⟩,by simp⟩
 ·rcases hm q hq' with c | ⟨d,hd,rfl⟩
  ·exact h.bound q c
  ·obtain ⟨d1,d2⟩:=dem_lt (hP x hxy.1) (hP y hxy.2) hC hd
   unfold atP
   split
   ·exact ⟨hK.lt hxy.2 d2,hK.lt hxy.1 d1⟩
   ·exact ⟨hK.lt hxy.1 d1,hK.lt hxy.2 d2⟩
 ·have hil : i < ord.length:=(List.getElem?_eq_some_iff.1 hq).1
  rw [List.getElem?_append_left (by omega)] at hq'
  by_cases e : j = i
  ·subst e
   rw [hq] at hq'
   have e2 : (x,y) = q:=by simpa using hq'
   subst e2
   exact hc
  ·exact (h.done j q (by omega) hq').imp id (fun z=>⟨z.1,fun d hd=>List.mem_append_left _ (z.2 d hd)⟩)
 ·rcases hm q hq' with c | ⟨d,hd,rfl⟩
  ·exact h.forced hsub q c
  ·exact (h.forced hsub _ (List.mem_of_getElem? hq)).dem hd
def WillPost (G : Nat -> ND) (a b : Nat) (keep : Nat -> Prop) (w : World) (e : Ending) (w' : World) : Prop:=
 ((e = .returned (.bool false) /\ ¬ SubP G a b) \/ (e = .returned (.bool true) /\ SubP G a b)) /\ Kept keep w w'
theorem order_at {w : World} {kb mb : Nat} {ov : Value} {D : DataW Unit} {ord : List (Nat × Nat)} {keep : Nat -> Prop} (h : Kn w kb mb ov D ord keep) {i : Nat} {q : Nat × Nat} (hq : ord[i]? = some q) :
  ∃ g cap,ov = .slice (some ⟨g,0,none⟩) ord.length cap /\ w.cell? ⟨g,i * 2,none⟩ = some (.int .i64 (q.1 : Int)) /\ w.cell? ⟨g,i * 2 + 1,none⟩ = some (.int .i64 (q.2 : Int)):=by
 obtain ⟨hlt,_⟩:=List.getElem?_eq_some_iff.1 hq
 rcases h.own.2 with ⟨_,h0⟩ | ⟨g,cap,_,rfl,_⟩
 ·omega
 ·have hc:=pcells_at hq
  exact ⟨g,cap,rfl,by rw [h.own.cellAt _ (by omega)];exact hc.1,by rw [h.own.cellAt _ (by omega)];exact hc.2⟩
set_option maxHeartbeats 8000000 in
theorem w36 {N gb go : Nat} {p : Nat -> NP} {G : Nat -> ND} (ao : Option Addr) (gc : Nat) (M : Nat) (keep : Nat -> Prop) (a b : Nat) (w : World) (hk : ∀ k,keep k -> k < w.heap.size) (hG : ∀ w',Kept keep w w' -> NodesAt w' ao gb go N p G) (hM : ∀ w',Kept keep w w' -> w'.cell? ⟨M,0,none⟩ = some (.slice ao N gc)) (ha : a < N) (hb : b < N) (hK : Kids N G) (hP : ∀ x,x < N -> Plain (G x)) (hS : ∀ x,x < N -> Srt (G x)) (hN : N <= 4000) (hn : ∀ i,i < N -> (G i).nn <= 1048576) :
  Calls Tryz.prog 47 #[.agg #[.int .i64 (a : Int),.int .i64 (b : Int)],.int .i64 9223372036854775807,.func (.func 67) #[] #[.pointer (some ⟨M,0,none⟩)]] w (WillPost G a b keep w):=by
 have HK : Hid (Kids N G):=hK
 have HP : Hid (∀ x,x < N -> Plain (G x)):=hP
 have HS : Hid (∀ x,x < N -> Srt (G x)):=hS
 have HG : Hid (∀ w',Kept keep w w' -> NodesAt w' ao gb go N p G):=hG
 have HM : Hid (∀ w',Kept keep w w' -> w'.cell? ⟨M,0,none⟩ = some (.slice ao N gc)):=hM
 have HNN : Hid (∀ i,i < N -> (G i).nn <= 1048576):=hn
 clear hK hP hS hG hM hn
 go_enter Tryz.func47,Tryz.ntmps47
 go_wp2_with fail
 refine (c45 _ (fun k=>keep k \/ k = w.heap.size) (fun k h=>by rcases h with h | h;(have:=hk k h;simp;omega);(subst h;simp))).mono ?_
 rintro e w1 ⟨rfl,hKn1,hKp1⟩
 have R0:=(row2 w (.int .i64 (a : Int)) (.int .i64 (b : Int)) 69).of_block (hKp1.block w.heap.size (Or.inr rfl))
 have x0 : w1.cell? ⟨w.heap.size,0,none⟩ = some (.int .i64 (a : Int)):=R0.cell (i:=0) (by omega)
 have x1 : w1.cell? ⟨w.heap.size,1,none⟩ = some (.int .i64 (b : Int)):=R0.cell (i:=1) (by omega)
 have p1 : Kept keep w w1:=Kept.trans (show Kept keep w (w.alloc (.cells #[.int .i64 (a : Int),.int .i64 (b : Int)] 69)) from ⟨rfl,rfl,rfl,by simp,fun k h=>Below.heap_alloc _ _ _ (hk k h)⟩) ⟨hKp1.os,hKp1.tape,hKp1.output,hKp1.size,fun k h=>hKp1.block k (Or.inl h)⟩
 obtain ⟨kb,hkb⟩ : ∃ kb,kb = (w.alloc (.cells #[.int .i64 (a : Int),.int .i64 (b : Int)] 69)).heap.size + 1:=⟨_,rfl⟩
 obtain ⟨mb,hmb⟩ : ∃ mb,mb = (w.alloc (.cells #[.int .i64 (a : Int),.int .i64 (b : Int)] 69)).heap.size:=⟨_,rfl⟩
 rw [<- hmb] at hkb hKn1 ⊢
 rw [<- hkb] at hKn1 ⊢
 clear hkb hmb hKp1 R0
 go_wp2_with fail
 refine (c46 kb mb _ _ _ _ a b _ hKn1 (by omega) (by omega) (by simp)).mono ?_
 rintro e w2 ⟨xx,ov2,D2,rfl,hKn2,hKp2⟩
 have hAdd : addP [] (a,b) = [(a,b)]:=rfl
 rw [hAdd] at hKn2
 have HK2 : Hid (Kn w2 kb mb ov2 D2 [(a,b)] keep):=⟨hKn2.row,hKn2.mlt,hKn2.map,hKn2.has,hKn2.own,fun k h=>hKn2.far k (Or.inl h)⟩
 have HP2 : Hid (Kept keep w w2):=p1.trans ⟨hKp2.os,hKp2.tape,hKp2.output,hKp2.size,fun k h=>hKp2.block k (Or.inl h)⟩
 clear hAdd hKn1 hKn2 hKp2 p1 x0 x1
 have hsq : N * N <= 16000000:=Nat.mul_le_mul hN hN
 go_wp2
 go_loopw [8] (fun s wr=>∃ (i : Nat) (ov : Value) (D : DataW Unit) (ord : List (Nat × Nat)),s = .int .i64 i /\ i <= ord.length /\ Hid (Kn wr kb mb ov D ord keep) /\ Hid (Kept keep w wr) /\ Hid (SInv N G a b ord i) /\ ord.length <= N * N) (fun s _=>16000001 - (intOf s).toNat)
 case atStart=>exact ⟨0,ov2,D2,[(a,b)],rfl,by simp,HK2,HP2,SInv.start ha hb,(SInv.start (G:=G) ha hb).len⟩
 case round=>
  obtain ⟨i,ov,D,ord,rfl,hi,HKN,HKP,HI,hol⟩:=hrel
  clear HK2 HP2
  have RK:=HKN.out.row
  have o1 : wr.cell? ⟨kb,1,none⟩ = some ov:=RK.cell (i:=1) (by omega)
  by_cases hlt : i < ord.length
  case neg=>
   obtain ⟨oa,cap,hov⟩:=own_form HKN.out.own
   rw [hov] at o1
   have FIN : Hid (WillPost G a b keep w (.returned (.bool true)) wr):=⟨Or.inr ⟨rfl,HI.out.end (by omega) HK.out HP.out HS.out⟩,HKP.out⟩
   clear HKN HI RK hov
   go_wp2
   go_ret
   exact FIN.out
  obtain ⟨q,hq⟩ : ∃ q,ord[i]? = some q:=⟨ord[i],List.getElem?_eq_getElem hlt⟩
  obtain ⟨g,cap,hov,c1,c2⟩:=order_at HKN.out hq
  have hqb:=HI.out.bound q (List.mem_of_getElem? hq)
  obtain ⟨qx,qy⟩:=q
  have HQ : Hid (ord[i]? = some (qx,qy)):=hq
  simp only at c1 c2 hqb
  obtain ⟨hqx,hqy⟩:=hqb
  rw [hov] at o1
  have lz : (i : Int) < (ord.length : Int):=by omega
  have lm : ¬ ((9223372036854775807 : Int) < (ord.length : Int)):=by omega
  clear hq RK
  go_wp2_with fail
  refine (w44 ao gc M kb mb ov D ord keep qx qy wr HKN.out (fun w' hk'=>HG.out w' (HKP.out.trans hk')) (HM.out _ HKP.out) hqx hqy HK.out HP.out HS.out (by omega) (by have:=HNN.out qy hqy;omega)).mono ?_
  rintro e w' ⟨r,rfl,hO⟩
  cases r with
  | false=>
    have FIN : Hid (WillPost G a b keep w (.returned (.bool false)) w'):=⟨Or.inl ⟨rfl,HI.out.no HQ.out (hO.no rfl)⟩,HKP.out.trans hO.kept⟩
    clear hO HKN
    go_wp2
    go_ret
    exact FIN.out
  | true=>
    have HO : Hid (StepOut G qx qy ord kb mb keep wr true w'):=hO
    obtain ⟨ov',D',ord',hKn',hst⟩:=hO.kn
    have HKN' : Hid (Kn w' kb mb ov' D' ord' keep):=hKn'
    have HKP' : Hid (Kept keep w w'):=HKP.out.trans hO.kept
    have HI' : Hid (SInv N G a b ord' (i + 1) /\ ord.length <= ord'.length):=HI.out.step HK.out HP.out HQ.out (hst rfl)
    clear hst hKn' hO HO HKN HI o1 c1 c2
    go_wp2
    go_roundw
    case rel=>
     obtain ⟨hI',hle⟩:=HI'.out
     exact ⟨i + 1,ov',D',ord',by go_num,by omega,HKN',HKP',hI',hI'.len⟩
    case measure=>simp [intOf];omega
set_option maxHeartbeats 8000000 in
theorem w26 {N gb go : Nat} {p : Nat -> NP} {G : Nat -> ND} (ao : Option Addr) (gc : Nat) (keep : Nat -> Prop) (a b : Nat) (w : World) (hk : ∀ k,keep k -> k < w.heap.size) (hG : ∀ w',Kept keep w w' -> NodesAt w' ao gb go N p G) (ha : a < N) (hb : b < N) (hK : Kids N G) (hP : ∀ x,x < N -> Plain (G x)) (hS : ∀ x,x < N -> Srt (G x)) (hN : N <= 4000) (hn : ∀ i,i < N -> (G i).nn <= 1048576) :
  Calls Tryz.prog 44 #[.agg #[.slice ao N gc],.int .i64 (a : Int),.int .i64 (b : Int)] w (WillPost G a b keep w):=by
 have hmf : ∀ (fn : Fn) (first cap : Array Value) (w : World),(Instr.makeFunc fn first cap).run Tryz.prog w = .ok (.func fn first cap) w:=fun _ _ _ _=>rfl
 obtain ⟨W0,hW0⟩ : ∃ W0,W0 = w.alloc (.cells #[.slice ao N gc] 29):=⟨_,rfl⟩
 have BW : Below w.heap.size w W0:=by rw [hW0];exact bel1 _ _
 have C : Hid (∀ W,Below W0.heap.size W0 W -> Calls Tryz.prog 47 #[.agg #[.int .i64 (a : Int),.int .i64 (b : Int)],.int .i64 9223372036854775807,.func (.func 67) #[] #[.pointer (some ⟨w.heap.size,0,none⟩)]] W (WillPost G a b keep w)):=fun W hW=>by
  have B:=BW.trans (hW.mono BW.size)
  have KW : Kept keep w W:=⟨B.os,B.tape,B.output,B.size,fun k hk'=>B.block k (hk k hk')⟩
  have RG : W0.rowIs w.heap.size 29 1 (fun _=>.slice ao N gc):=by rw [hW0];exact row1 w (.slice ao N gc) 29
  have RW:=RG.of_block (hW.block w.heap.size RG.lt)
  refine (w36 ao gc w.heap.size (fun k=>keep k \/ k = w.heap.size) a b W (fun k h=>?_) (fun w' h=>hG w' (KW.trans ⟨h.os,h.tape,h.output,h.size,fun k hk'=>h.block k (Or.inl hk')⟩)) (fun w' h=>(RW.of_block (h.block w.heap.size (Or.inr rfl))).cell (i:=0) (by omega)) ha hb hK hP hS hN hn).mono (fun e w' z=>⟨z.1,KW.trans ⟨z.2.os,z.2.tape,z.2.output,z.2.size,fun k hk'=>z.2.block k (Or.inl hk')⟩⟩)
  rcases h with h | h
  ·have:=hk k h;have:=B.size;omega
  ·subst h;exact RW.lt
 clear hG hK hP hS hn BW
 subst hW0
 go_enter Tryz.func44,Tryz.ntmps44
 go_wp2_with (first | (go_at_call 47;(first | (with_reducible refine (C.out _ (Below.refl _ _)).mono ?_) | (with_reducible refine (C.out _ (Below.refl _ _).drew).mono ?_))))
 intro e w5 hE
 obtain ⟨r,rfl⟩ : ∃ r,e = .returned (.bool r):=by
  rcases hE.1 with ⟨z,_⟩ | ⟨z,_⟩
  ·exact ⟨_,z⟩
  ·exact ⟨_,z⟩
 have FH : Hid (WillPost G a b keep w (.returned (.bool r)) w5):=hE
 clear hE C
 go_wp2
 go_ret
 exact FH.out
end Go.Proofs.YtpbpbppimkeodaaGreatDoor
namespace Go.Proofs.YtpbpbppimkeodaaGreatDoor
def Cong (N : Nat) (G : Nat -> ND) (cl : Nat -> Nat) : Prop:=∀ x y,x < N -> y < N -> cl x = cl y -> Lab (G x) (G y) /\ ∀ j,j < (G x).nk -> cl (kid (G x) j) = cl (kid (G y) j)
theorem cong_id (N : Nat) (G : Nat -> ND) : Cong N G (fun i=>i):=by
 intro x y _ _ e
 have e' : x = y:=e
 subst e'
 exact ⟨Lab.refl _,fun _ _=>rfl⟩
theorem cong_same {N : Nat} {G : Nat -> ND} {cl : Nat -> Nat} (hK : Kids N G) (h : ∀ x y,x < N -> y < N -> (cl x = cl y ↔ Same N G x y)) : Cong N G cl:=by
 intro x y hx hy e
 have hs:=(h x y hx hy).1 e
 have hl:=hs.lab hx hy
 exact ⟨hl,fun j hj=>(h _ _ (hK.lt hx hj) (hK.lt hy (by rw [<- hl.nk];exact hj))).2 (hs.kid hx hy hj)⟩
theorem numOf_cl {cl : Nat -> Nat} {S : List Nat} {n : Nat} (h : stands cl S n = true) : cl (S.getD (numOf cl S n) 0) = cl n:=by
 have hlt:=numOf_lt h
 have h' : (S.map cl).idxOf (cl n) < (S.map cl).length:=by rw [List.length_map];exact hlt
 have e:=List.getElem_idxOf h'
 rw [List.getElem_map] at e
 have : S.getD (numOf cl S n) 0 = S[(S.map cl).idxOf (cl n)]'(by rw [List.length_map] at h';exact h'):=by
  unfold numOf
  rw [List.getD_eq_getElem?_getD,List.getElem?_eq_getElem]
  rfl
 rw [this];exact e
def Num1 (N : Nat) (cl : Nat -> Nat) (S : List Nat) : Nat -> Nat -> Prop:=fun i x=>i < S.length /\ x < N /\ cl (S.getD i 0) = cl x
theorem across_G2 {N : Nat} {G : Nat -> ND} {cl : Nat -> Nat} {S : List Nat} (hK : Kids N G) (hc : Cong N G cl) (hP : ∀ x,x < N -> Plain (G x)) (hS : ∀ s,s ∈ S -> s < N) (hC : ∀ s,s ∈ S -> Covered G cl S s) : Across (G2 G cl S) G (Num1 N cl S):=by
 rintro i x ⟨hi,hx,e⟩
 have hs:=getD_mem hi
 obtain ⟨hl,hk⟩:=hc _ _ (hS _ hs) hx e
 refine ⟨⟨hl.kind,hl.nn,hl.nm,hl.nk⟩,plain_G2 hS hP i hi,hP x hx,fun j hj=>?_⟩
 have hst:=hC _ hs j hj
 have hkx : kid (G x) j < N:=hK.lt hx (by rw [<- hl.nk];exact hj)
 have ek : kid (G2 G cl S i) j = numOf cl S (kid (G (S.getD i 0)) j):=by
  show ((numOf cl S (kid (G (S.getD i 0)) j) : Nat) : Int).toNat = _
  omega
 rw [ek]
 exact ⟨numOf_lt hst,hkx,(numOf_cl hst).trans (hk j hj)⟩
theorem Across.trans {G2' G1' G0 : Nat -> ND} {B C : Nat -> Nat -> Prop} (h : Across G2' G1' B) (k : Across G1' G0 C) : Across G2' G0 (fun i x=>∃ u,B i u /\ C u x):=by
 rintro i x ⟨u,h1,h2⟩
 obtain ⟨l1,p1,_,k1⟩:=h i u h1
 obtain ⟨l2,_,p2,k2⟩:=k u x h2
 exact ⟨l1.trans l2,p1,p2,fun j hj=>⟨_,k1 j hj,k2 j (by rw [<- l1.nk];exact hj)⟩⟩
theorem sub_small {N R : Nat} {G : Nat -> ND} {ns cl : Nat -> Nat} (hK : Kids N G) (hP : ∀ x,x < N -> Plain (G x)) (hns : ∀ i,i < R -> ns i < N)
  (hcl : ∀ x y,x < (S1 N R G ns).length -> y < (S1 N R G ns).length -> (cl x = cl y ↔ Same (S1 N R G ns).length (G1 N R G ns) x y)) {a b : Nat} (ha : a < R) (hb : b < R) :
  SubP G (ns a) (ns b) ↔ SubP (G2 (G1 N R G ns) cl (allTill (G1 N R G ns) cl ((S1 N R G ns).length + 1) (ns1 N R G ns) [] R))
   (numOf cl (allTill (G1 N R G ns) cl ((S1 N R G ns).length + 1) (ns1 N R G ns) [] R) (ns1 N R G ns a)) (numOf cl (allTill (G1 N R G ns) cl ((S1 N R G ns).length + 1) (ns1 N R G ns) [] R) (ns1 N R G ns b)):=by
 obtain ⟨f1,f2,f3⟩:=allTill_full (G:=G) (cl:=fun i=>i) hK (f:=N + 1) (ns:=ns) (m:=R) hns (by omega) R (Nat.le_refl _)
 have K1 : Kids (S1 N R G ns).length (G1 N R G ns):=kids_G2 f3
 have P1:=plain_G2 (G:=G) (cl:=fun i=>i) f1 hP
 have n1 : ∀ i,i < R -> ns1 N R G ns i < (S1 N R G ns).length:=fun i hi=>numOf_lt (f2 i hi)
 obtain ⟨g1,g2,g3⟩:=allTill_full (G:=G1 N R G ns) (cl:=cl) K1 (f:=(S1 N R G ns).length + 1) (ns:=ns1 N R G ns) (m:=R) n1 (by omega) R (Nat.le_refl _)
 have A1:=across_G2 hK (cong_id N G) hP f1 f3
 have A2:=across_G2 K1 (cong_same K1 hcl) P1 g1 g3
 have B : ∀ i,i < R -> (fun u x=>∃ z,Num1 (S1 N R G ns).length cl (allTill (G1 N R G ns) cl ((S1 N R G ns).length + 1) (ns1 N R G ns) [] R) u z /\ Num1 N (fun i=>i) (S1 N R G ns) z x) (numOf cl (allTill (G1 N R G ns) cl ((S1 N R G ns).length + 1) (ns1 N R G ns) [] R) (ns1 N R G ns i)) (ns i):=fun i hi=>
  ⟨ns1 N R G ns i,⟨numOf_lt (g2 i hi),n1 i hi,numOf_cl (g2 i hi)⟩,⟨numOf_lt (f2 i hi),hns i hi,numOf_cl (f2 i hi)⟩⟩
 exact sub_across (A2.trans A1) (B a ha) (B b hb)
end Go.Proofs.YtpbpbppimkeodaaGreatDoor
