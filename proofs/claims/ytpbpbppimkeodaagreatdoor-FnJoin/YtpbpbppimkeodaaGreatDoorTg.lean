/-
  SubGood SubImpl JrP
-/
import Derived.Test.YtpbpbppimkeodaaGreatDoorTf
import Derived.Test.YtpbpbppimkeodaaGreatDoorSp
import Derived.Test.YtpbpbppimkeodaaGreatDoorSd
import Derived.Test.YtpbpbppimkeodaaGreatDoorTc
set_option maxRecDepth 100000
namespace Go.Proofs.YtpbpbppimkeodaaGreatDoor
open Go.RowKit Go.Maps
theorem gio_next {n : Nat} {S : Nat -> ByteArray} (h : gio n S = true) {i : Nat} (hi : i + 1 < n) : lt (S i) (S (i + 1)) = true:=by
 have:=allTo_get h hi
 rw [Bool.and_eq_true,Bool.or_eq_true] at this
 rcases this.2 with c | c
 ·exact absurd (of_decide_eq_true c) (by omega)
 ·simpa using c
theorem gio_lt {n : Nat} {S : Nat -> ByteArray} (h : gio n S = true) {i : Nat} : ∀ {k : Nat},i < k -> k < n -> lt (S i) (S k) = true
 | 0,hk,_=>absurd hk (Nat.not_lt_zero _)
 | k + 1,hk,hn=>by
   by_cases e : i = k
   ·subst e;exact gio_next h hn
   ·exact lt_trans' (gio_lt h (k:=k) (by omega) (by omega)) (gio_next h hn)
theorem srt_of {d : ND} (h : shp d = true) : Srt d:=fun i k hi hk=>by
 rcases shp_cases h with ⟨_,n,_⟩ | ⟨_,_,g⟩ | ⟨_,n,_⟩
 ·omega
 ·exact gio_lt g hi hk
 ·omega
theorem srt_G2 {N : Nat} {G : Nat -> ND} {cl : Nat -> Nat} {S : List Nat} (hS : ∀ s,s ∈ S -> s < N) (hP : ∀ x,x < N -> Srt (G x)) : ∀ x,x < S.length -> Srt (G2 G cl S x):=fun _ hx=>hP _ (hS _ (getD_mem hx))
theorem nn_G2 {N : Nat} {G : Nat -> ND} {cl : Nat -> Nat} {S : List Nat} (hS : ∀ s,s ∈ S -> s < N) (hP : ∀ x,x < N -> (G x).nn <= 1048576) : ∀ x,x < S.length -> (G2 G cl S x).nn <= 1048576:=fun _ hx=>hP _ (hS _ (getD_mem hx))
theorem len_all {N : Nat} {G : Nat -> ND} {cl ns : Nat -> Nat} {R : Nat} (hK : Kids N G) (hn : ∀ i,i < R -> ns i < N) : (allTill G cl (N + 1) ns [] R).length <= N:=by
 have:=allTill_ok (G:=G) (cl:=cl) hK (f:=N + 1) (ns:=ns) (st:=[]) (m:=R) hn (by rw [List.length_nil];have:=miss_le N cl [];omega) (by have:=miss_le N cl [];omega) R (Nat.le_refl _)
 have:=this.1
 omega
theorem small_keeps {N R : Nat} {G : Nat -> ND} {ns cl : Nat -> Nat} (hK : Kids N G) (hP : ∀ x,x < N -> Plain (G x)) (hS : ∀ x,x < N -> Srt (G x)) (hn : ∀ x,x < N -> (G x).nn <= 1048576) (hns : ∀ i,i < R -> ns i < N) {S : List Nat} (hSe : S = allTill (G1 N R G ns) cl ((S1 N R G ns).length + 1) (ns1 N R G ns) [] R) :
  Kids S.length (G2 (G1 N R G ns) cl S) /\ (∀ x,x < S.length -> Plain (G2 (G1 N R G ns) cl S x)) /\ (∀ x,x < S.length -> Srt (G2 (G1 N R G ns) cl S x)) /\ (∀ x,x < S.length -> (G2 (G1 N R G ns) cl S x).nn <= 1048576) /\ S.length <= N /\ ∀ i,i < R -> numOf cl S (ns1 N R G ns i) < S.length:=by
 subst hSe
 obtain ⟨f1,f2,f3⟩:=allTill_full (G:=G) (cl:=fun i=>i) hK (f:=N + 1) (ns:=ns) (m:=R) hns (by omega) R (Nat.le_refl _)
 have K1 : Kids (S1 N R G ns).length (G1 N R G ns):=kids_G2 f3
 have n1 : ∀ i,i < R -> ns1 N R G ns i < (S1 N R G ns).length:=fun i hi=>numOf_lt (f2 i hi)
 obtain ⟨g1,g2,g3⟩:=allTill_full (G:=G1 N R G ns) (cl:=cl) K1 (f:=(S1 N R G ns).length + 1) (ns:=ns1 N R G ns) (m:=R) n1 (by omega) R (Nat.le_refl _)
 exact ⟨kids_G2 g3,plain_G2 g1 (plain_G2 f1 hP),srt_G2 g1 (srt_G2 f1 hS),nn_G2 g1 (nn_G2 f1 hn),Nat.le_trans (len_all K1 n1) (len_all hK hns),fun i hi=>numOf_lt (g2 i hi)⟩
structure SubAns (N : Nat) (G : Nat -> ND) (a b : Int) : Prop where
 valid : vgr N G = true
 a0 : 0 <= a
 a1 : a < N
 b0 : 0 <= b
 b1 : b < N
 sub : SubP G a.toNat b.toNat
def SubPost (N : Nat) (G : Nat -> ND) (a b : Int) (w : World) (e : Ending) (w' : World) : Prop:=
 ((e = .returned (.bool false) /\ ¬ SubAns N G a b) \/ (e = .returned (.bool true) /\ SubAns N G a b)) /\ Below w.heap.size w w'
theorem kok2 {N : Nat} {a b : Int} {D : Nat -> Int} (h0 : D 0 = a) (h1 : D 1 = b) : kok 2 D N = true ↔ ((0 <= a /\ a < N) /\ (0 <= b /\ b < N)):=by
 constructor
 ·intro h
  have r0:=of_decide_eq_true (allTo_get h (j:=0) (by omega))
  have r1:=of_decide_eq_true (allTo_get h (j:=1) (by omega))
  rw [h0] at r0;rw [h1] at r1
  exact ⟨r0,r1⟩
 ·rintro ⟨h2,h3⟩
  refine allTo_true (fun j hj=>?_)
  match j,hj with
  | 0,_=>exact decide_eq_true (by rw [h0];exact h2)
  | 1,_=>exact decide_eq_true (by rw [h1];exact h3)
set_option maxHeartbeats 8000000 in
theorem w8 (ao : Option Addr) (gb go N gc : Nat) (p : Nat -> NP) (G : Nat -> ND) (a b : Int) (w : World) (h1 : NodesAt w ao gb go N p G) (hnk : ∀ i,i < N -> (G i).nk <= 1048576) (hnn : ∀ i,i < N -> (G i).nn <= 1048576) :
  Calls Tryz.prog 25 #[.agg #[.slice ao N gc],.int .i64 a,.int .i64 b] w (SubPost N G a b w):=by
 have HB : Hid (∀ w',Below w.heap.size w w' -> NodesAt w' ao gb go N p G):=fun w' hb=>h1.below hb
 have HNK : Hid (∀ i,i < N -> (G i).nk <= 1048576):=hnk
 have HNN : Hid (∀ i,i < N -> (G i).nn <= 1048576):=hnn
 have hlen:=h1.len
 clear h1 hnk hnn
 go_enter Tryz.func25,Tryz.ntmps25
 go_wp2_with fail
 refine (g14 ao gb go N gc p G _ (by exact HB.out _ (bel1 _ _))).mono ?_
 rintro e w1 ⟨rfl,hb1⟩
 have B1 : Below w.heap.size w w1:=(bel1 w _).trans (hb1.mono (by simp))
 have k1 : w1.cell? ⟨w.heap.size,0,none⟩ = some (.slice ao N gc):=by rw [hb1.cell (p:=⟨w.heap.size,0,none⟩) (by simp)];simp
 have z1 : w.heap.size < w1.heap.size:=by have:=hb1.size;simp at this;omega
 clear hb1
 cases hv : vgr N G
 ·have FIN : Hid (SubPost N G a b w (.returned (.bool false)) w1):=⟨Or.inl ⟨rfl,fun h=>by have:=h.valid;rw [hv] at this;cases this⟩,B1⟩
  clear hv
  go_wp2
  go_ret
  exact FIN.out
 have HV : Hid (vgr N G = true):=hv
 clear hv
 have hN:=vgr_len HV.out
 go_wp2_with fail
 have R1:=row2 w1 (.int .i64 a) (.int .i64 b) 3
 refine (g15 ao N gc (some ⟨w1.heap.size,0,none⟩) w1.heap.size 0 2 2 (fun i=>if i = 0 then a else b) _ ⟨fun _=>rfl,fun i hi=>(by rw [Nat.zero_add,R1.cell hi];match i,hi with | 0,_=>rfl | 1,_=>rfl),by omega⟩ hlen).mono ?_
 rintro e w2 ⟨rfl,hb2⟩
 have C2 : Below w1.heap.size w1 w2:=(bel1 w1 _).trans (hb2.mono (by simp))
 have B2 : Below w.heap.size w w2:=B1.trans (C2.mono B1.size)
 have k2 : w2.cell? ⟨w.heap.size,0,none⟩ = some (.slice ao N gc):=(C2.cell (p:=⟨w.heap.size,0,none⟩) z1).trans k1
 have z2 : w.heap.size < w2.heap.size:=by have:=C2.size;omega
 have HKK : Hid (kok 2 (fun i=>if i = 0 then a else b) N = true ↔ ((0 <= a /\ a < N) /\ (0 <= b /\ b < N))):=kok2 rfl rfl
 clear hb2 R1 C2 B1 k1 z1
 cases hk : kok 2 (fun i=>if i = 0 then a else b) N
 ·have FIN : Hid (SubPost N G a b w (.returned (.bool false)) w2):=⟨Or.inl ⟨rfl,fun h=>by have:=HKK.out.2 ⟨⟨h.a0,h.a1⟩,⟨h.b0,h.b1⟩⟩;rw [hk] at this;cases this⟩,B2⟩
  clear hk
  go_wp2
  go_ret
  exact FIN.out
 obtain ⟨⟨a0,a1⟩,b0,b1⟩:=HKK.out.1 hk
 clear hk HKK
 obtain ⟨x,rfl⟩:=Int.eq_ofNat_of_zero_le a0
 obtain ⟨y,rfl⟩:=Int.eq_ofNat_of_zero_le b0
 have hx : x < N:=by omega
 have hy : y < N:=by omega
 have hN1 : N <= 1048576:=by omega
 have R2:=row2 w2 (.int .i64 (x : Int)) (.int .i64 (y : Int)) 3
 have HP : Hid (∀ i,i < N -> Plain (G i)):=fun i hi=>plain_of (shp_of HV.out hi)
 have HS : Hid (∀ i,i < N -> Srt (G i)):=fun i hi=>srt_of (shp_of HV.out hi)
 have HK : Hid (Kids N G):=kids_of HV.out
 have HNS : Hid (∀ i,i < 2 -> (fun i=>if i = 0 then x else y) i < N):=fun i hi=>by show (if i = 0 then x else y) < N;split <;> assumption
 have BX : Below w.heap.size w (w2.alloc (.cells #[.int .i64 (x : Int),.int .i64 (y : Int)] 3)):=B2.trans ((bel1 w2 _).mono B2.size)
 go_wp2_with fail
 refine (c25 ao (some ⟨w2.heap.size,0,none⟩) gc 2 2 w2.heap.size 0 (fun i=>if i = 0 then x else y) _ (by omega) (by omega) HK.out HP.out (fun i hi=>⟨HNN.out i hi,fun j hj=>short_of (shp_of HV.out hi) hj⟩) HNK.out HNS.out (HB.out _ BX) ⟨fun _=>rfl,fun i hi=>(by rw [Nat.zero_add,R2.cell hi];match i,hi with | 0,_=>rfl | 1,_=>rfl),by omega⟩).mono ?_
 rintro e w3 ⟨cl,hcl,oa,b',cap,p',la,lb,lc,rfl,n3,i3,_,f3,_,_,b3⟩
 obtain ⟨S,hSe⟩ : ∃ S,S = allTill (G1 N 2 G (fun i=>if i = 0 then x else y)) cl ((S1 N 2 G (fun i=>if i = 0 then x else y)).length + 1) (ns1 N 2 G (fun i=>if i = 0 then x else y)) [] 2:=⟨_,rfl⟩
 have SK:=small_keeps (cl:=cl) HK.out HP.out HS.out HNN.out HNS.out hSe
 have SS:=sub_small HK.out HP.out HNS.out hcl (a:=0) (b:=1) (by omega) (by omega)
 rw [<- hSe] at SS n3 i3 f3 ⊢
 obtain ⟨H,hH⟩ : ∃ H,H = G2 (G1 N 2 G (fun i=>if i = 0 then x else y)) cl S:=⟨_,rfl⟩
 rw [<- hH] at SK SS n3 f3
 obtain ⟨u,hu⟩ : ∃ u,u = numOf cl S (ns1 N 2 G (fun i=>if i = 0 then x else y) 0):=⟨_,rfl⟩
 obtain ⟨v,hv⟩ : ∃ v,v = numOf cl S (ns1 N 2 G (fun i=>if i = 0 then x else y) 1):=⟨_,rfl⟩
 rw [<- hu,<- hv] at SS
 have SS' : SubP G x y ↔ SubP H u v:=SS
 have eL : la = some ⟨lb,0,none⟩:=i3.at_ (by omega)
 subst eL
 have t0 : w3.cell? ⟨lb,0,none⟩ = some (.int .i64 (u : Int)):=by rw [hu];exact i3.cell 0 (by omega)
 have t1 : w3.cell? ⟨lb,1,none⟩ = some (.int .i64 (v : Int)):=by rw [hv];have:=i3.cell 1 (by omega);rw [Nat.zero_add] at this;exact this
 have lu : u < S.length:=by rw [hu];exact SK.2.2.2.2.2 0 (by omega)
 have lv : v < S.length:=by rw [hv];exact SK.2.2.2.2.2 1 (by omega)
 have B3 : Below w.heap.size w w3:=BX.trans (b3.mono BX.size)
 have C26 : Hid (∀ W,Below w3.heap.size w3 W -> Calls Tryz.prog 44 #[.agg #[.slice oa S.length cap],.int .i64 (u : Int),.int .i64 (v : Int)] W (fun e w'=>SubPost N G (x : Int) (y : Int) w e w' /\ Below W.heap.size W w')):=fun W hW=>by
  have BB:=B3.trans (hW.mono B3.size)
  refine (w26 oa cap (fun k=>k < W.heap.size) u v W (fun k hk=>hk) (fun w' hk=>(n3.below hW).below ⟨hk.os,hk.tape,hk.output,hk.size,hk.block⟩) lu lv SK.1 SK.2.1 SK.2.2.1 (by have:=SK.2.2.2.2.1;omega) SK.2.2.2.1).mono ?_
  rintro e w' ⟨hc,hk⟩
  have bk : Below W.heap.size W w':=⟨hk.os,hk.tape,hk.output,hk.size,hk.block⟩
  refine ⟨⟨?_,BB.trans (bk.mono BB.size)⟩,bk⟩
  rcases hc with ⟨e1,e2⟩ | ⟨e1,e2⟩
  ·exact Or.inl ⟨e1,fun h=>e2 (SS'.1 (by have:=h.sub;simpa using this))⟩
  ·exact Or.inr ⟨e1,⟨HV.out,a0,a1,b0,b1,by simpa using SS'.2 e2⟩⟩
 clear SK SS SS' n3 i3 f3 b3 hH hu hv hSe hcl HK HP HS HNS BX R2 HV HNN HNK HB
 have t2 : (w3.alloc (.cells #[.slice oa S.length cap] 29)).cell? ⟨w3.heap.size,0,none⟩ = some (.slice oa S.length cap):=(row1 w3 (.slice oa S.length cap) 29).cell (i:=0) (by omega)
 have t3 : (w3.alloc (.cells #[.slice oa S.length cap] 29)).cell? ⟨lb,0,none⟩ = some (.int .i64 (u : Int)):=((bel1 w3 _).cell (p:=⟨lb,0,none⟩) (blt t0)).trans t0
 have t4 : (w3.alloc (.cells #[.slice oa S.length cap] 29)).cell? ⟨lb,1,none⟩ = some (.int .i64 (v : Int)):=((bel1 w3 _).cell (p:=⟨lb,1,none⟩) (blt t1)).trans t1
 go_wp2_with fail
 go_region_held3 (fun w'=>w'.cell? ⟨w3.heap.size,0,none⟩ = some (.slice oa S.length cap) /\ w'.cell? ⟨lb,0,none⟩ = some (.int .i64 (u : Int)) /\ w'.cell? ⟨lb,1,none⟩ = some (.int .i64 (v : Int))) (go_keep)
  (first | (go_at_call 44;(first | (with_reducible refine (C26.out _ (bel1 _ _)).mono ?_) | (with_reducible refine (C26.out _ (bel1 _ _).drew).mono ?_));rintro e w5 ⟨hE,hbe⟩;obtain ⟨r,rfl⟩ : ∃ r,e = .returned (.bool r):=(by rcases hE.1 with ⟨z,_⟩ | ⟨z,_⟩ <;> exact ⟨_,z⟩);have FH : Hid (SubPost N G (x : Int) (y : Int) w (.returned (.bool r)) w5):=hE;have y2:=(hbe.cell (p:=⟨w3.heap.size,0,none⟩) (by simp)).trans t2;have y3:=(hbe.cell (p:=⟨lb,0,none⟩) (by have:=blt t3;simpa using this)).trans t3;have y4:=(hbe.cell (p:=⟨lb,1,none⟩) (by have:=blt t4;simpa using this)).trans t4;clear hE hbe))
 all_goals
  clear C26
  go_wp2
  go_ret
  exact FH.out
end Go.Proofs.YtpbpbppimkeodaaGreatDoor
namespace Go.Proofs.YtpbpbppimkeodaaGreatDoor
theorem gio_list {l : List ByteArray} (hg : ∀ s,s ∈ l -> gn s = true) (hp : l.Pairwise (fun s t=>lt s t = true)) : gio l.length (fun i=>l.getD i ByteArray.empty) = true:=by
 unfold gio
 refine allTo_true fun i hi=>?_
 rw [Bool.and_eq_true,Bool.or_eq_true]
 refine ⟨hg _ (by simp [List.getD,List.getElem?_eq_getElem hi]),?_⟩
 by_cases h0 : i = 0
 ·exact Or.inl (decide_eq_true h0)
 ·refine Or.inr ?_
  have h1 : i - 1 < l.length:=by omega
  have e1 : l.getD i ByteArray.empty = l[i]:=by simp [List.getD,List.getElem?_eq_getElem hi]
  have e2 : l.getD (i - 1) ByteArray.empty = l[i - 1]:=by simp [List.getD,List.getElem?_eq_getElem h1]
  show lt (l.getD (i - 1) ByteArray.empty) (l.getD i ByteArray.empty) = true
  rw [e1,e2]
  exact List.pairwise_iff_getElem.1 hp (i - 1) i h1 hi (by omega)
theorem shp_name {d : ND} (h : shp d = true) {i : Nat} (hi : i < d.nn) : gn (d.nm i) = true:=by
 rcases shp_cases h with ⟨_,n,_⟩ | ⟨_,_,g⟩ | ⟨_,n,_⟩
 ·omega
 ·exact gio_good g hi
 ·omega
theorem mixD_shp {n : Nat} {H : Nat -> ND} (hs : ∀ t,t < n -> shp (H t) = true) {L : List Qn} {q : Qn} (ha : q.a < n) (hb : q.b < n) : shp (mixD n H L q) = true:=by
 have P:=mixD_plain (L:=L) hs ha hb
 have hk : mixK (H q.a) (H q.b) = 0 \/ mixK (H q.a) (H q.b) = (H q.a).kind:=by
  unfold mixK
  split
  ·exact Or.inr rfl
  ·exact Or.inl rfl
 have hr : 0 <= mixK (H q.a) (H q.b) /\ mixK (H q.a) (H q.b) <= 4:=by
  rcases shp_cases (hs _ ha) with ⟨k,_,_⟩ | ⟨k,_,_⟩ | ⟨k,_,_⟩ <;> omega
 have hn : gio (mixN (H q.a) (H q.b) q.up).length (fun i=>(mixN (H q.a) (H q.b) q.up).getD i ByteArray.empty) = true:=by
  refine gio_list (fun s h=>?_) ?_
  ·rcases mixN_mem h with ⟨c,hc,e⟩ | ⟨c,hc,e⟩
   ·rw [e];exact shp_name (hs _ ha) hc
   ·rw [e];exact shp_name (hs _ hb) hc
  ·unfold mixN
   split
   ·exact mixF_order (srt_of (hs _ ha)) (srt_of (hs _ hb)) _ _ _
   ·exact List.Pairwise.nil
 have pk : (mixD n H L q).nk = if mixK (H q.a) (H q.b) = 3 then (mixD n H L q).nn else if mixK (H q.a) (H q.b) = 4 then 2 else 0:=P.kids
 have pb : mixK (H q.a) (H q.b) ≠ 3 -> (mixD n H L q).nn = 0:=P.bare
 have e : (mixD n H L q).kind = mixK (H q.a) (H q.b):=rfl
 unfold shp
 rw [e]
 by_cases h4 : mixK (H q.a) (H q.b) = 4
 ·rw [if_pos h4]
  rw [if_neg (by omega),if_pos h4] at pk
  exact decide_eq_true ⟨pb (by omega),pk⟩
 ·rw [if_neg h4]
  by_cases h3 : mixK (H q.a) (H q.b) = 3
  ·rw [if_pos h3]
   rw [if_pos h3] at pk
   rw [decide_eq_true pk.symm,Bool.true_and]
   exact hn
  ·rw [if_neg h3,if_pos (by omega)]
   rw [if_neg h3,if_neg h4] at pk
   exact decide_eq_true ⟨pb h3,pk⟩
theorem mixG_shp {n : Nat} {H : Nat -> ND} (hs : ∀ t,t < n -> shp (H t) = true) {L : List Qn} {q0 : Qn} (hL : InQ n L) : ∀ x,x < n + L.length -> shp (mixG n H L q0 x) = true:=fun x hx=>by
 by_cases h : x < n
 ·rw [mixG_lt h];exact hs x h
 ·rw [mixG_ge h]
  have hm : L.getD (x - n) q0 ∈ L:=by
   have : x - n < L.length:=by omega
   simp [List.getD,List.getElem?_eq_getElem this]
  have hab:=hL _ hm
  exact mixD_shp hs hab.1 hab.2
theorem both_valid {N n : Nat} {G c : Nat -> ND} (hv : vgr N G = true) (hs : ∀ t,t < n -> shp (c t) = true) (hk : Kids n c) (h4 : N + n <= 4000) : vgr (N + n) (bothG N G c) = true:=by
 refine vgr_yes h4 fun j hj=>?_
 by_cases h : j < N
 ·have e : bothG N G c j = G j:=if_pos h
  rw [e]
  refine nok_y (shp_of hv h) (allTo_true fun i hi=>decide_eq_true ?_)
  have:=kids_of hv j h i hi
  omega
 ·have e : bothG N G c j = shN N (c (j - N)):=if_neg h
  rw [e]
  have ht : j - N < n:=by omega
  refine nok_y (hs _ ht) (allTo_true fun i hi=>decide_eq_true ?_)
  have:=hk _ ht i hi
  show 0 <= (c (j - N)).kd i + (N : Int) /\ (c (j - N)).kd i + (N : Int) < ((N + n : Nat) : Int)
  omega
structure Asks (N : Nat) (G : Nat -> ND) (a b : Nat) (up : Bool) (n : Nat) (c : Nat -> ND) : Prop where
 pos : 0 < n
 few : n <= N + 1000
 nn : ∀ i,i < n -> (c i).nn <= 1048576 /\ (c i).nk <= 1048576
 shp : ∀ i,i < n -> shp (c i) = true
 kids : Kids n c
 join : up = true -> SubP (bothG N G c) a N /\ SubP (bothG N G c) b N
 meet : up = false -> SubP (bothG N G c) N a /\ SubP (bothG N G c) N b
 same : Same N G a b -> 1 < n -> Same (N + n) (bothG N G c) a N
theorem asks_of {w w' : World} {N : Nat} {G : Nat -> ND} {A B : Int} {up : Bool} {e : Ending} (h2 : ∀ i,i < N -> (G i).nn + (G i).nk <= 1048576) (hok : okJ N G A B) (h : SJoin w N G A B up e w') :
  ∃ (n : Nat) (c : Nat -> ND),MixIs N G A B (!up) n c 0 /\ Asks N G A.toNat B.toNat up n c:=by
 rcases h with ⟨hn,_,_⟩ | ⟨_,cm,r,hcm,hr,hb,h⟩
 ·exact absurd hok hn
 ·obtain ⟨hv,ra,rb⟩:=hok
  have la : A.toNat < N:=by omega
  have lb : B.toNat < N:=by omega
  have hns : ∀ i,i < 2 -> ns2 A.toNat B.toNat i < N:=fun i _=>by unfold ns2;split <;> omega
  obtain ⟨gH,sH⟩:=goodH_mN hv hns h2 hcm hr
  have PM : ∀ (ao : Option Addr) (b o gc : Nat) (p : Nat -> NP) (w : World),NodesAt w ao b o N p G -> Calls Tryz.prog 62 #[.agg #[.slice ao N gc],.int .i64 A,.int .i64 B,.bool (!up)] w (PMixPost w (allTill G cm (N + 1) (ns2 A.toNat B.toNat) [] 2).length (mN G cm (allTill G cm (N + 1) (ns2 A.toNat B.toNat) [] 2) r) ⟨numOf cm (allTill G cm (N + 1) (ns2 A.toNat B.toNat) [] 2) A.toNat,numOf cm (allTill G cm (N + 1) (ns2 A.toNat B.toNat) [] 2) B.toNat,up⟩):=fun ao b o gc p w hG=>by
   have h9:=p_mixture ao gc A.toNat B.toNat up w hv h2 (by omega) (by omega) hG cm r hcm hr
   rw [show ((A.toNat : Nat) : Int) = A from by omega,show ((B.toNat : Nat) : Int) = B from by omega] at h9
   exact h9
  rcases h with ⟨k,hk,nb,rfl,hN⟩ | ⟨k,hk,n',G',e1,e2,c2,r2,h3,h4,oa,b',cap,q,rfl,hN⟩
  ·refine ⟨1,fun _=>mkN 0,p_mix (fun h=>absurd ⟨hv,ra,rb⟩ h) (fun _ ao b o gc p w hG=>(PM ao b o gc p w hG).mono ?_),⟨by omega,by omega,fun i _=>⟨Nat.zero_le _,Nat.zero_le _⟩,fun i _=>by decide,fun i _ j hj=>absurd hj (Nat.not_lt_zero _),fun _=>⟨(any_asks la).1,(any_asks lb).1⟩,fun _=>⟨(any_asks la).2,(any_asks lb).2⟩,fun _ h=>absurd h (by omega)⟩⟩
   rintro e w2 (⟨l,hl,hJ⟩ | ⟨l,hl,_⟩)
   ·exact hJ
   ·exact (full_over hl hk).elim
  ·have hst : ∀ i,i < 2 -> numOf cm (allTill G cm (N + 1) (ns2 A.toNat B.toNat) [] 2) (ns2 A.toNat B.toNat i) < (allTill G cm (N + 1) (ns2 A.toNat B.toNat) [] 2).length:=fun i hi=>
    numOf_lt ((allTill_full (G:=G) (cl:=cm) (kids_of hv) (f:=N + 1) (ns:=ns2 A.toNat B.toNat) (m:=2) hns (by omega) 2 (Nat.le_refl _)).2.1 i hi)
   have hq0:=hst 0 (by omega)
   have hq1:=hst 1 (by omega)
   rw [show ns2 A.toNat B.toNat 0 = A.toNat from rfl] at hq0
   rw [show ns2 A.toNat B.toNat 1 = B.toNat from rfl] at hq1
   have hin:=qs_in gH (q0:=⟨numOf cm (allTill G cm (N + 1) (ns2 A.toNat B.toNat) [] 2) A.toNat,numOf cm (allTill G cm (N + 1) (ns2 A.toNat B.toNat) [] 2) B.toNat,up⟩) ⟨hq0,hq1⟩ k
   have gm : GoodM n' G':=by
    have h9:=goodM gH sH hin (q0:=⟨numOf cm (allTill G cm (N + 1) (ns2 A.toNat B.toNat) [] 2) A.toNat,numOf cm (allTill G cm (N + 1) (ns2 A.toNat B.toNat) [] 2) B.toNat,up⟩) ⟨hq0,hq1⟩ hk.closed
    rw [hk.len] at h9
    rw [e1,e2];exact h9
   have gs : ∀ x,x < n' -> shp (G' x) = true:=fun x hx=>by
    rw [e2]
    exact mixG_shp sH hin x (by rw [hk.len,<- e1];exact hx)
   have hn1 : ∀ i,i < 1 -> (fun _ : Nat=>(allTill G cm (N + 1) (ns2 A.toNat B.toNat) [] 2).length) i < n':=fun i _=>by
    show (allTill G cm (N + 1) (ns2 A.toNat B.toNat) [] 2).length < n'
    have:=hk.pos
    omega
   have hm : (allTill G' c2 (n' + 1) (fun _=>(allTill G cm (N + 1) (ns2 A.toNat B.toNat) [] 2).length) [] 1).length <= n':=by
    obtain ⟨f1,_,_⟩:=allTill_full (G:=G') (cl:=c2) gm.kids (f:=n' + 1) (ns:=fun _=>(allTill G cm (N + 1) (ns2 A.toNat B.toNat) [] 2).length) (m:=1) hn1 (by omega) 1 (Nat.le_refl _)
    exact apart_len (allTill_apart 1) f1
   have hm0 : (allTill G cm (N + 1) (ns2 A.toNat B.toNat) [] 2).length <= N:=by
    obtain ⟨f1,_,_⟩:=allTill_full (G:=G) (cl:=cm) (kids_of hv) (f:=N + 1) (ns:=ns2 A.toNat B.toNat) (m:=2) hns (by omega) 2 (Nat.le_refl _)
    exact apart_len (allTill_apart 2) f1
   have hk1 : k <= 1000:=by have h9:=hk.few k (Nat.le_refl _);rw [hk.len] at h9;omega
   obtain ⟨z1,z2,_⟩:=root_zero (G:=G') (cl:=c2) (f:=n') (ns:=fun _=>(allTill G cm (N + 1) (ns2 A.toNat B.toNat) [] 2).length)
   have JA:=join_asks (k:=k) hv h2 (fun x hx=>srt_of (shp_of hv hx)) la lb hcm hr rfl rfl rfl hk e1 e2 h3 h4
   refine ⟨(allTill G' c2 (n' + 1) (fun _=>(allTill G cm (N + 1) (ns2 A.toNat B.toNat) [] 2).length) [] 1).length,mN G' c2 (allTill G' c2 (n' + 1) (fun _=>(allTill G cm (N + 1) (ns2 A.toNat B.toNat) [] 2).length) [] 1) r2,p_mix (fun h=>absurd ⟨hv,ra,rb⟩ h) (fun _ ao b o gc p w hG=>(PM ao b o gc p w hG).mono ?_),
    ⟨z2,by omega,fun i hi=>⟨(gm.names (r2 i) (h4 i hi).1).1,gm.nk (r2 i) (h4 i hi).1⟩,fun i hi=>gs (r2 i) (h4 i hi).1,fun t ht j hj=>?_,JA.1,JA.2,fun hS _=>join_same (k:=k) hv h2 la lb hS hcm hr rfl rfl rfl hk e1 e2 h3 h4⟩⟩
   ·rintro e w2 (⟨l,hl,_⟩ | ⟨l,hl,n3,G3,f1,f2,cl,hcl,hJ⟩)
    ·exact (full_over hk hl).elim
    ·have ekl : l = k:=full_one hl hk
     subst ekl
     have en : n3 = n':=f1.trans e1.symm
     have eg : G3 = G':=f2.trans e2.symm
     subst en
     subst eg
     have F:=canon_one gm.kids hn1 hcl h3
     exact jp_same hJ F.len ((congrArg Int.ofNat (F.num 0 (by omega))).trans (congrArg Int.ofNat z1)) (one_same F h4)
   ·obtain ⟨q1,q2⟩:=h4 t ht
    rw [map_getD ht] at q2
    have:=numOf_lt (kid_stands gm.kids hn1 h3 q1 ht (Int.ofNat.inj q2) (j:=j) hj)
    show 0 <= (numOf c2 (allTill G' c2 (n' + 1) (fun _=>(allTill G cm (N + 1) (ns2 A.toNat B.toNat) [] 2).length) [] 1) (kid (G' (r2 t)) j) : Int) /\ (numOf c2 (allTill G' c2 (n' + 1) (fun _=>(allTill G cm (N + 1) (ns2 A.toNat B.toNat) [] 2).length) [] 1) (kid (G' (r2 t)) j) : Int) < _
    omega
theorem calls_one {P : Program} {f : FuncId} {args : Array Value} {w : World} {R R' : Ending -> World -> Prop} (h : Calls P f args w R) (h' : Calls P f args w R') (hr : ∀ e w',R e w' -> ∃ v,e = .returned v) (hr' : ∀ e w',R' e w' -> ∃ v,e = .returned v) (hi : P.inits.idxOf? f = none) :
  ∃ v w',R (.returned v) w' /\ R' (.returned v) w':=by
 have k : ∀ {Q : Ending -> World -> Prop},Calls P f args w Q -> (∀ e w',Q e w' -> ∃ v,e = .returned v) -> ∃ n v w',runN P n (lone (Frame.enter P f args .normal) [] w) = .ended (.done v) w' /\ Q (.returned v) w':=fun {Q} hQ hq=>
  Calls.done (R:=fun v w'=>Q (.returned v) w') (hQ.mono fun e w' z=>by
   obtain ⟨v,rfl⟩:=hq e w' z
   exact z) hi
 obtain ⟨n,v,w1,e1,r1⟩:=k h hr
 obtain ⟨m,v',w2,e2,r2⟩:=k h' hr'
 have a:=runN_ended e1 m
 have b:=runN_ended e2 n
 rw [Nat.add_comm,a] at b
 injection b with ho hw
 injection ho with hv
 subst hv
 subst hw
 exact ⟨_,_,r1,r2⟩
theorem jp_ret {w : World} {n : Nat} {c : Nat -> ND} {z : Int} (e : Ending) (w' : World) (h : JPost w n c z e w') : ∃ v,e = .returned v:=by
 obtain ⟨oa,b,cap,p,rfl,_⟩:=h
 exact ⟨_,rfl⟩
theorem mix_one {N : Nat} {G : Nat -> ND} {A B : Int} {mt : Bool} {n n' : Nat} {c c' : Nat -> ND} {z z' : Int} (h : MixIs N G A B mt n c z) (h' : MixIs N G A B mt n' c' z') {w : World} {ao : Option Addr} {b o : Nat} {p : Nat -> NP} (hG : NodesAt w ao b o N p G) :
  n = n' /\ z = z' /\ ∀ i,i < n -> (c i).kind = (c' i).kind:=by
 obtain ⟨v,w',q1,q2⟩:=calls_one (h ao b o 0 p w hG) (h' ao b o 0 p w hG) jp_ret jp_ret (by kernel_rfl)
 obtain ⟨oa,b1,cap,p1,e1,N1,_,_,_⟩:=q1
 obtain ⟨oa',b2,cap',p2,e2,N2,_,_,_⟩:=q2
 rw [e1] at e2
 simp only [Ending.returned.injEq,Value.tuple.injEq,Array.mk.injEq,List.cons.injEq,Value.agg.injEq,Value.slice.injEq,Value.int.injEq,and_true,true_and] at e2
 obtain ⟨⟨rfl,rfl,rfl⟩,rfl⟩:=e2
 refine ⟨rfl,rfl,fun i hi=>?_⟩
 have eo:=N1.at_ (by omega)
 have eo':=N2.at_ (by omega)
 rw [eo] at eo'
 simp only [Option.some.injEq,Addr.mk.injEq,and_true] at eo'
 subst eo'
 have k1:=N1.c0 i hi
 have k2:=N2.c0 i hi
 rw [k1] at k2
 simpa using k2
end Go.Proofs.YtpbpbppimkeodaaGreatDoor
