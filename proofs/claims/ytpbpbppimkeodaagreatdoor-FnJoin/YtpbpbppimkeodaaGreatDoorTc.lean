/-
  JqE JqF JqG JqH
-/
import Derived.Test.YtpbpbppimkeodaaGreatDoorTb
import Derived.Test.YtpbpbppimkeodaaGreatDoorSr
set_option maxRecDepth 100000
namespace Go.Proofs.YtpbpbppimkeodaaGreatDoor
open Go.RowKit Go.Maps
def shN (N : Nat) (d : ND) : ND:=⟨d.kind,d.nn,d.nm,d.nk,fun j=>d.kd j + (N : Int)⟩
def bothG (N : Nat) (G c : Nat -> ND) (i : Nat) : ND:=if i < N then G i else shN N (c (i - N))
def BothP (w : World) (N n : Nat) (G c : Nat -> ND) (e : Ending) (w' : World) : Prop:=
 ∃ (oa : Option Addr) (b' cap : Nat) (q : Nat -> NP),e = .returned (.tuple #[.agg #[.slice oa (N + n) cap],.int .i64 (N : Int)]) /\ NodesAt w' oa b' 0 (N + n) q (bothG N G c) /\ Below w.heap.size w w'
theorem upZ_add (D : Nat -> Int) (N : Int) (t : Nat) : zcells (upZ (fun j=>D j + N) (t + 1)) = zcells (upZ (fun j=>D j + N) t) ++ [.int .i64 (D t + N)]:=by
 rw [upZ_succ];unfold zcells;rw [List.map_append];rfl
set_option maxHeartbeats 8000000 in
theorem l_both {N n b o b2 o2 : Nat} {p p2 : Nat -> NP} {G c : Nat -> ND} (ao co : Option Addr) (gc cc : Nat) (w : World) (hN : N <= 4000) (hn : n <= 8000) (hk : ∀ i,i < n -> (c i).nk <= 1048576 /\ ∀ j,j < (c i).nk -> 0 <= (c i).kd j /\ (c i).kd j <= 1048576) (hG : NodesAt w ao b o N p G) (hC : NodesAt w co b2 o2 n p2 c) :
  Calls Tryz.prog 24 #[.agg #[.slice ao N gc],.agg #[.slice co n cc]] w (BothP w N n G c):=by
 have HGC : Hid (∀ W,Below w.heap.size w W -> NodesAt W ao b o N p G /\ NodesAt W co b2 o2 n p2 c):=fun W hW=>⟨hG.below hW,hC.below hW⟩
 have HK : Hid (∀ i,i < n -> (c i).nk <= 1048576 /\ ∀ j,j < (c i).nk -> 0 <= (c i).kd j /\ (c i).kd j <= 1048576):=hk
 have HPB : Hid (∀ i,i < N -> (0 < (G i).nn -> (p i).b1 < w.heap.size) /\ (0 < (G i).nk -> (p i).b2 < w.heap.size)):=fun i hi=>⟨fun z=>blt ((hG.node i hi).names.cell 0 z),fun z=>blt ((hG.node i hi).kids.cell 0 z)⟩
 have HPC : Hid (∀ i,i < n -> 0 < (c i).nn -> (p2 i).b1 < w.heap.size):=fun i hi z=>blt ((hC.node i hi).names.cell 0 z)
 have AG:=hG.at_
 have AC:=hC.at_
 clear hG hC hk
 obtain ⟨W3,hW3⟩ : ∃ W3,W3 = ((w.alloc (.cells #[.slice ao N gc] 29)).alloc (.cells #[.slice co n cc] 29)).alloc (.cells #[.slice none 0 0] 29):=⟨_,rfl⟩
 have B3 : Below w.heap.size w W3:=by rw [hW3];exact bel3 _ _ _ _
 have z3 : Hid (W3.heap.size = w.heap.size + 1 + 1 + 1):=by show _ = _;rw [hW3];simp
 have RA : W3.rowIs w.heap.size 29 1 (fun _=>.slice ao N gc):=by rw [hW3];exact ((row1 _ _ _).alloc _).alloc _
 have RB : W3.rowIs (w.heap.size + 1) 29 1 (fun _=>.slice co n cc):=by
  have:=(row1 (w.alloc (.cells #[.slice ao N gc] 29)) (.slice co n cc) 29).alloc (.cells #[.slice none 0 0] 29)
  rw [World.size_alloc] at this
  rw [hW3];exact this
 have RR : W3.rowIs (w.heap.size + 1 + 1) 29 1 (fun _=>.slice none 0 0):=by
  have:=row1 ((w.alloc (.cells #[.slice ao N gc] 29)).alloc (.cells #[.slice co n cc] 29)) (.slice none 0 0) 29
  simp only [World.size_alloc] at this
  rw [hW3];exact this
 have HW : Hid (∀ W,Below W3.heap.size W3 W -> (W.cell? ⟨w.heap.size,0,none⟩ = some (.slice ao N gc) /\ W.cell? ⟨w.heap.size + 1,0,none⟩ = some (.slice co n cc) /\ W.rowIs (w.heap.size + 1 + 1) 29 1 (fun _=>.slice none 0 0)) /\ NodesAt W ao b o N p G /\ NodesAt W co b2 o2 n p2 c /\ Below w.heap.size w W):=fun W hW=>by
  have bW : Below w.heap.size w W:=B3.trans (hW.mono B3.size)
  exact ⟨⟨(RA.of_block (hW.block _ RA.lt)).cell (i:=0) (by omega),(RB.of_block (hW.block _ RB.lt)).cell (i:=0) (by omega),RR.of_block (hW.block _ RR.lt)⟩,(HGC.out W bW).1,(HGC.out W bW).2,bW⟩
 have HS0 : Hid (Lq (w.heap.size + 1 + 1) W3 (W3.alloc (.cells #[] 48)) (.slice (some ⟨W3.heap.size,0,none⟩) 0 0) p (upN (bothG N G c) 0)):=lq_start _ W3 RR.lt p _
 obtain ⟨i4,hj0,hj1,hj2,hj3⟩:=info_parts Tryz.info48
 obtain ⟨i3,hk0,hk1,hk2,hk3⟩:=info_parts Tryz.info3
 clear RA RB RR B3 HGC
 go_enter Tryz.func24,Tryz.ntmps24
 have HS1 : Hid (Lq (w.heap.size + 1 + 1) W3 (W3.alloc (.cells #[] 48)) (.slice (some ⟨w.heap.size + 1 + 1 + 1,0,none⟩) 0 0) p (upN (bothG N G c) 0)):=by
  have h:=HS0.out
  rw [z3.out] at h
  exact h
 clear HS0
 go_wp2
 rw [<- hW3]
 clear hW3
 go_loopw [6,7] (fun s6 s7 wx=>∃ (i : Nat) (na : Option Addr) (nc : Nat) (q : Nat -> NP),s6 = .slice na i nc /\ s7 = .int .i64 i /\ i <= N /\ Hid (Lq (w.heap.size + 1 + 1) W3 wx (.slice na i nc) q (upN (bothG N G c) i))) (fun _ s7 _=>N - (intOf s7).toNat)
 case atStart=>exact ⟨0,_,_,p,rfl,rfl,Nat.zero_le _,HS1⟩
 case round=>
  rename World=>wx
  obtain ⟨i,na,nc,q,rfl,rfl,hi,HQL⟩:=hrel
  clear HS1
  have hxs:=HQL.out.below.size
  have hz3:=z3.out
  obtain ⟨⟨ca,_,_⟩,NX,_,_⟩:=HW.out wx HQL.out.below
  by_cases hil : i < N
  case pos=>
   have li : (i : Int) < (N : Int):=by omega
   have ea:=AG (by omega)
   subst ea
   have c0:=NX.c0 i hil
   have c1:=NX.c1 i hil
   have c2:=NX.c2 i hil
   have HND : Hid (NodeAt wx (p i) (G i)):=NX.node i hil
   have HOW : Hid (wx.ownsRow W3.heap.size 48 3 (.slice na i nc) i (ncells q (gd (upN (bothG N G c) i)) i)):=by have:=HQL.out.own;rw [upN_len] at this;exact this
   clear NX
   go_wp2_with (first
    | (at_builtin;go_loud (refine wpList_append_lies _ rfl _ _ 27 rfl W3.heap.size 48 i4 _ 3 56 Tryz.underlying27 hj0 hj1 hj2 hj3 rfl (by omega) (.slice na i nc) i (ncells q (gd (upN (bothG N G c) i)) i) rfl (by exact HOW.out.alloc _) ⟨wx.heap.size,0,none⟩ 1 1 [.int .i64 (G i).kind,.slice (p i).a1 (G i).nn (p i).c1,.slice (p i).a2 (G i).nk (p i).c2] rfl rfl (World.news_of_block (cs:=#[.int .i64 (G i).kind,.slice (p i).a1 (G i).nn (p i).c1,.slice (p i).a2 (G i).nk (p i).c2]) (t:=48) (fr:=(0,0)) (heap_alloc_new wx _)) (by simp [Value.oneCell']) (by omega) (by unfold maxLen;omega) (by omega) (by first | omega | (simp;omega)) (wx.heap.size + 1) (by first | rfl | simp) ?_);intro gg cap3 w3 hown3 hg3 hat3 hlt3))
   have HQ3 : Hid (Lq (w.heap.size + 1 + 1) W3 w3 (.slice (some ⟨gg,0,none⟩) (i + 1) cap3) (fun t=>if t = i then p i else q t) (upN (bothG N G c) (i + 1))):=by
    have hown4 : w3.ownsRow W3.heap.size 48 3 (.slice (some ⟨gg,0,none⟩) (i + 1) cap3) (i + 1) (ncells q (gd (upN (bothG N G c) i)) (upN (bothG N G c) i).length ++ [.int .i64 (G i).kind,.slice (p i).a1 (G i).nn (p i).c1,.slice (p i).a2 (G i).nk (p i).c2]):=by rw [upN_len];exact hown3
    rw [upN_succ,show bothG N G c i = G i from if_pos hil]
    have far : ∀ j,j < w.heap.size -> j < wx.heap.size /\ some j ≠ (Value.slice na i nc).ownBlock /\ j ≠ w.heap.size + 1 + 1:=fun j hj=>⟨by omega,fun e=>by have:=(HOW.out.lt j e.symm).1;omega,by omega⟩
    exact lq_step HQL.out (upN_len _ i) (Below.refl _ _) (p i) (G i) HND.out (fun z=>far _ ((HPB.out i hil).1 z)) (fun z=>far _ ((HPB.out i hil).2 z)) hown4 hg3 hat3
   clear hown3 hg3 hat3 HOW HND
   go_wp2
   go_roundw
   case rel=>exact ⟨i + 1,_,_,_,rfl,by go_num,by omega,HQ3⟩
   case measure=>simp [intOf];omega
  case neg=>
   have hin : i = N:=by omega
   subst hin
   have li : ¬ (i : Int) < (i : Int):=by omega
   clear NX
   go_wp2
   go_loopw [6,9] (fun s6 s9 wz=>∃ (j m : Nat) (na : Option Addr) (nc : Nat) (q : Nat -> NP),s6 = .slice na m nc /\ s9 = .int .i64 j /\ Hid (m = i + j) /\ m <= 12000 /\ j <= n /\ Hid (Lq (w.heap.size + 1 + 1) W3 wz (.slice na m nc) q (upN (bothG i G c) m))) (fun _ s9 _=>n - (intOf s9).toNat)
   case atStart=>exact ⟨0,i,_,_,q,rfl,rfl,rfl,by omega,Nat.zero_le _,HQL⟩
   case round=>
    rename World=>wz
    obtain ⟨j,m,na,nc,q,rfl,rfl,HMJ,hm5,hjl,HQZ⟩:=hrel
    clear HQL
    have hzs:=HQZ.out.below.size
    obtain ⟨⟨_,cb,RZ⟩,_,NZ,bZ⟩:=HW.out wz HQZ.out.below
    by_cases hjn : j < n
    case pos=>
     have lj : (j : Int) < (n : Int):=by omega
     have ec:=AC (by omega)
     subst ec
     have c0:=NZ.c0 j hjn
     have c1:=NZ.c1 j hjn
     have c2:=NZ.c2 j hjn
     have HNJ : Hid (NodeAt wz (p2 j) (c j)):=NZ.node j hjn
     obtain ⟨hnk,hkd⟩:=HK.out j hjn
     have HKD : Hid (∀ t,t < (c j).nk -> 0 <= (c j).kd t /\ (c j).kd t <= 1048576):=hkd
     obtain ⟨WX,hWX⟩ : ∃ WX,WX = wz.alloc (.cells #[.int .i64 (c j).kind,.slice (p2 j).a1 (c j).nn (p2 j).c1,.slice (p2 j).a2 (c j).nk (p2 j).c2] 48):=⟨_,rfl⟩
     have HBX : Hid (Below wz.heap.size wz WX):=by rw [hWX];exact bel1 _ _
     have zX : Hid (WX.heap.size = wz.heap.size + 1):=by show _ = _;rw [hWX];simp
     have HRX : Hid (WX.rowIs wz.heap.size 48 3 (v3 (.int .i64 (c j).kind) (.slice (p2 j).a1 (c j).nn (p2 j).c1) (.slice (p2 j).a2 (c j).nk (p2 j).c2))):=by rw [hWX];exact row3 _ _ _ _ _
     have HT0 : Hid ((WX.alloc (.cells #[] 3)).ownsRow WX.heap.size 3 1 (.slice (some ⟨wz.heap.size + 1,0,none⟩) 0 0) 0 (zcells (upZ (fun x=>(c j).kd x + (i : Int)) 0))):=by
      have h : (WX.alloc (.cells #[] 3)).ownsRow WX.heap.size 3 1 (.slice (some ⟨WX.heap.size,0,none⟩) 0 0) 0 (zcells (upZ (fun x=>(c j).kd x + (i : Int)) 0)):=World.ownsRow_lit WX #[] 0 (Nat.le_refl _) (by unfold maxLen;omega) (by rfl)
      rw [zX.out] at h ⊢
      exact h
     have HB0 : Hid (Below WX.heap.size WX (WX.alloc (.cells #[] 3))):=bel1 _ _
     clear hkd NZ RZ bZ ca
     go_wp2
     rw [<- hWX]
     clear hWX
     go_loopw [11,12] (fun s11 s12 wk=>∃ (t : Nat) (ta : Option Addr) (tc : Nat),s11 = .slice ta t tc /\ s12 = .int .i64 t /\ t <= (c j).nk /\ Hid (wk.ownsRow WX.heap.size 3 1 (.slice ta t tc) t (zcells (upZ (fun x=>(c j).kd x + (i : Int)) t))) /\ Hid (Below WX.heap.size WX wk)) (fun _ s12 _=>(c j).nk - (intOf s12).toNat)
     case atStart=>exact ⟨0,_,_,rfl,rfl,Nat.zero_le _,HT0,HB0⟩
     case round=>
      rename World=>wk
      obtain ⟨t,ta,tc,rfl,rfl,htl,HTO,HBK⟩:=hrel
      clear HT0 HB0 c0 c1 c2 cb
      have hks:=HBK.out.size
      have hzX:=zX.out
      have RK:=HRX.out.of_block (HBK.out.block _ HRX.out.lt)
      have e0 : wk.cell? ⟨wz.heap.size,0,none⟩ = some (.int .i64 (c j).kind):=RK.cell (i:=0) (by omega)
      have e1 : wk.cell? ⟨wz.heap.size,1,none⟩ = some (.slice (p2 j).a1 (c j).nn (p2 j).c1):=RK.cell (i:=1) (by omega)
      have e2 : wk.cell? ⟨wz.heap.size,2,none⟩ = some (.slice (p2 j).a2 (c j).nk (p2 j).c2):=RK.cell (i:=2) (by omega)
      have HWK : Hid (Below wz.heap.size wz wk):=HBX.out.trans (HBK.out.mono HBX.out.size)
      have NK:=HNJ.out.below HWK.out
      by_cases htt : t < (c j).nk
      case pos=>
       have lt' : (t : Int) < ((c j).nk : Int):=by omega
       have ek:=NK.kids.at_ (by omega)
       have ck:=NK.kids.cell t htt
       rw [ek] at e2
       obtain ⟨k0,k1⟩:=HKD.out t htt
       obtain ⟨kv,hkv⟩ : ∃ kv,kv = (c j).kd t:=⟨_,rfl⟩
       have HKV : Hid (kv = (c j).kd t):=hkv
       rw [<- hkv] at ck k0 k1
       clear hkv NK ek
       go_wp2_with (first
        | (at_builtin;go_loud (refine wpList_append_lies _ rfl _ _ 25 rfl WX.heap.size 3 i3 _ 1 8 Tryz.underlying25 hk0 hk1 hk2 hk3 rfl (by omega) (.slice ta t tc) t (zcells (upZ (fun x=>(c j).kd x + (i : Int)) t)) rfl (by exact HTO.out.alloc _) ⟨wk.heap.size,0,none⟩ 1 1 [.int .i64 (kv + (i : Int))] rfl rfl (by exact cell_one_new _ _ _) (by simp [Value.oneCell']) (by omega) (by unfold maxLen;omega) (by omega) (by first | omega | (simp;omega)) (wk.heap.size + 1) (by first | rfl | simp) ?_);intro gg cap3 w3 hown3 hg3 hat3 hlt3))
       have HT3 : Hid (w3.ownsRow WX.heap.size 3 1 (.slice (some ⟨gg,0,none⟩) (t + 1) cap3) (t + 1) (zcells (upZ (fun x=>(c j).kd x + (i : Int)) (t + 1)))):=by rw [upZ_add,<- HKV.out];exact hown3
       have HB3 : Hid (Below WX.heap.size WX w3):=below_grown HBK.out hks hg3 (fun x e=>(HTO.out.lt x e).1)
       clear hown3 hg3 hat3
       go_wp2
       go_roundw
       case rel=>exact ⟨t + 1,_,_,rfl,by go_num,by omega,HT3,HB3⟩
       case measure=>simp [intOf];omega
      case neg=>
       have htt2 : t = (c j).nk:=by omega
       have HTE : Hid (t = (c j).nk):=htt2
       have lt' : ¬ (t : Int) < ((c j).nk : Int):=by omega
       obtain ⟨tg,IT,htg⟩:=own_zs HTO.out
       have HD : Hid (bothG i G c m = shN i (c j)):=by
        show _ = _
        unfold bothG
        rw [HMJ.out,if_neg (by omega),show i + j - i = j from by omega]
       have HNP : Hid (NodeAt wk ⟨(p2 j).a1,(p2 j).b1,(p2 j).o1,(p2 j).c1,ta,tg,0,tc⟩ (shN i (c j))):=by
        refine ⟨NK.names,?_⟩
        show IntsAt wk ta tg 0 (c j).nk (fun x=>(c j).kd x + (i : Int))
        rw [<- htt2]
        exact IT.congr (fun x hx=>upZ_get _ hx)
       have HOZ : Hid (wz.ownsRow W3.heap.size 48 3 (.slice na m nc) m (ncells q (gd (upN (bothG i G c) m)) m)):=by have:=HQZ.out.own;rw [upN_len] at this;exact this
       have HF1 : Hid (0 < (c j).nn -> (p2 j).b1 < wk.heap.size /\ some (p2 j).b1 ≠ (Value.slice na m nc).ownBlock /\ (p2 j).b1 ≠ w.heap.size + 1 + 1):=fun z=>by
        have h9:=HPC.out j hjn z
        exact ⟨by omega,fun e=>by have:=(HOZ.out.lt _ e.symm).1;omega,by omega⟩
       have HF2 : Hid (0 < (c j).nk -> tg < wk.heap.size /\ some tg ≠ (Value.slice na m nc).ownBlock /\ tg ≠ w.heap.size + 1 + 1):=fun z=>by
        have h9:=htg (by omega)
        exact ⟨h9.2.1,fun e=>by have:=(HOZ.out.lt _ e.symm).2;omega,by omega⟩
       have HOW : Hid (wk.ownsRow W3.heap.size 48 3 (.slice na m nc) m (ncells q (gd (upN (bothG i G c) m)) m)):=own_block HOZ.out (fun x e=>HWK.out.block x (HOZ.out.lt x e.symm).2)
       clear IT htg NK RK htt2
       go_wp2_with (first
        | (at_builtin;go_loud (refine wpList_append_lies _ rfl _ _ 27 rfl W3.heap.size 48 i4 _ 3 56 Tryz.underlying27 hj0 hj1 hj2 hj3 rfl (by omega) (.slice na m nc) m (ncells q (gd (upN (bothG i G c) m)) m) rfl (by exact HOW.out.alloc _) ⟨wk.heap.size,0,none⟩ 1 1 [.int .i64 (c j).kind,.slice (p2 j).a1 (c j).nn (p2 j).c1,.slice ta t tc] rfl rfl (World.news_of_block (cs:=#[.int .i64 (c j).kind,.slice (p2 j).a1 (c j).nn (p2 j).c1,.slice ta t tc]) (t:=48) (fr:=(0,0)) (heap_alloc_new wk _)) (by simp [Value.oneCell']) (by omega) (by unfold maxLen;omega) (by omega) (by first | omega | (simp;omega)) (wk.heap.size + 1) (by first | rfl | simp) ?_);intro gg cap3 w3 hown3 hg3 hat3 hlt3))
       have HQ3 : Hid (Lq (w.heap.size + 1 + 1) W3 w3 (.slice (some ⟨gg,0,none⟩) (m + 1) cap3) (fun x=>if x = m then ⟨(p2 j).a1,(p2 j).b1,(p2 j).o1,(p2 j).c1,ta,tg,0,tc⟩ else q x) (upN (bothG i G c) (m + 1))):=by
        have hown4 : w3.ownsRow W3.heap.size 48 3 (.slice (some ⟨gg,0,none⟩) (m + 1) cap3) (m + 1) (ncells q (gd (upN (bothG i G c) m)) (upN (bothG i G c) m).length ++ [.int .i64 (shN i (c j)).kind,.slice (p2 j).a1 (shN i (c j)).nn (p2 j).c1,.slice ta (shN i (c j)).nk tc]):=by
         rw [upN_len,show (shN i (c j)).nk = t from HTE.out.symm];exact hown3
        rw [upN_succ,HD.out]
        exact lq_step HQZ.out (upN_len _ m) HWK.out ⟨(p2 j).a1,(p2 j).b1,(p2 j).o1,(p2 j).c1,ta,tg,0,tc⟩ (shN i (c j)) HNP.out HF1.out HF2.out hown4 hg3 hat3
       have HMJ2 : Hid (m + 1 = i + (j + 1)):=by have:=HMJ.out;show _ = _;omega
       have hm6 : m + 1 <= 12000:=by have:=HMJ.out;omega
       clear hown3 hg3 hat3 HOW HNP HF1 HF2
       go_wp2
       go_roundw
       case rel=>exact ⟨j + 1,m + 1,_,_,_,rfl,by go_num,HMJ2,hm6,by omega,HQ3⟩
       case measure=>simp [intOf];omega
    case neg=>
     have hjn2 : j = n:=by omega
     subst hjn2
     have lj : ¬ (j : Int) < (j : Int):=by omega
     have hbl:=RZ.lt
     have x0:=RZ.cell (i:=0) (by omega)
     have x1:=RZ.frozen 0
     have HF : Hid (BothP w i j G c (.returned (.tuple #[.agg #[.slice na m nc],.int .i64 (i : Int)])) (wz.setCell ⟨w.heap.size + 1 + 1,0,none⟩ (.slice na m nc))):=by
      obtain ⟨bq,NQ⟩:=lq_out HQZ.out (upN_len _ m) (by omega) 0 (.slice na m nc)
      refine ⟨na,bq,nc,q,by rw [HMJ.out],?_,bZ.setCell (by show w.heap.size <= w.heap.size + 1 + 1;omega) _⟩
      rw [<- HMJ.out]
      exact NQ.congr (fun x hx=>gd_upN _ hx)
     clear NZ RZ bZ hbl
     go_wp2
     exact bodyPost_ret (v:=.tuple #[.agg #[.slice na m nc],.int .i64 (i : Int)]) (by simp [results,Tryz.results24,go_sem,x0]) rfl HF.out
end Go.Proofs.YtpbpbppimkeodaaGreatDoor
namespace Go.Proofs.YtpbpbppimkeodaaGreatDoor
theorem mN_class {N R : Nat} {G : Nat -> ND} {ns cm r : Nat -> Nat} (hK : Kids N G) (hn : ∀ i,i < R -> ns i < N) (hcm : ∀ x y,x < N -> y < N -> (cm x = cm y ↔ Same N G x y))
  (hr : ∀ t,t < (allTill G cm (N + 1) ns [] R).length -> r t < N /\ (cm (r t) : Int) = ((((allTill G cm (N + 1) ns [] R).map cm).getD t 0 : Nat) : Int)) {y t : Nat} (hy : y < N) (ht : t < (allTill G cm (N + 1) ns [] R).length) (e : cm y = cm ((allTill G cm (N + 1) ns [] R).getD t 0)) :
  Lab (G y) (mN G cm (allTill G cm (N + 1) ns [] R) r t) /\ ∀ j,j < (G y).nk -> stands cm (allTill G cm (N + 1) ns [] R) (kid (G y) j) = true /\ kid (mN G cm (allTill G cm (N + 1) ns [] R) r t) j = numOf cm (allTill G cm (N + 1) ns [] R) (kid (G y) j):=by
 obtain ⟨h1,h2⟩:=hr t ht
 rw [map_getD ht] at h2
 have e2 : cm y = cm (r t):=e.trans (Int.ofNat.inj h2).symm
 obtain ⟨l,k⟩:=cong_of hK hcm y (r t) hy h1 e2
 refine ⟨⟨l.kind,l.nn,l.nm,l.nk⟩,fun j hj=>⟨kid_stands hK hn hcm hy ht e hj,?_⟩⟩
 show ((numOf cm (allTill G cm (N + 1) ns [] R) (kid (G (r t)) j) : Int)).toNat = _
 unfold numOf
 rw [<- k j hj]
 rfl
theorem numOf_class {cm : Nat -> Nat} {M : List Nat} {y : Nat} (h : stands cm M y = true) : cm y = cm (M.getD (numOf cm M y) 0):=by
 obtain ⟨h1,h2,_⟩:=numOf_place h
 rw [map_getD h1] at h2
 exact (Int.ofNat.inj h2).symm
def Zj (N : Nat) (cm : Nat -> Nat) (M : List Nat) (n' : Nat) (c2 : Nat -> Nat) (M2 : List Nat) (y u : Nat) : Prop:=
 (y < N /\ stands cm M y = true /\ u = numOf cm M y) \/ (∃ t,t < M2.length /\ y = N + t /\ u < n' /\ c2 u = c2 (M2.getD t 0))
theorem zj_alk {N R n' R' : Nat} {G G' : Nat -> ND} {ns cm r ns' c2 r2 : Nat -> Nat} (hs : ∀ x,x < N -> Plain (G x)) (hK : Kids N G) (hn : ∀ i,i < R -> ns i < N) (hcm : ∀ x y,x < N -> y < N -> (cm x = cm y ↔ Same N G x y))
  (hr : ∀ t,t < (allTill G cm (N + 1) ns [] R).length -> r t < N /\ (cm (r t) : Int) = ((((allTill G cm (N + 1) ns [] R).map cm).getD t 0 : Nat) : Int))
  (hs' : ∀ x,x < n' -> Plain (G' x)) (hK' : Kids n' G') (hn' : ∀ i,i < R' -> ns' i < n') (hc2 : ∀ x y,x < n' -> y < n' -> (c2 x = c2 y ↔ Same n' G' x y))
  (hr2 : ∀ t,t < (allTill G' c2 (n' + 1) ns' [] R').length -> r2 t < n' /\ (c2 (r2 t) : Int) = ((((allTill G' c2 (n' + 1) ns' [] R').map c2).getD t 0 : Nat) : Int))
  (hG' : ∀ t,t < (allTill G cm (N + 1) ns [] R).length -> G' t = mN G cm (allTill G cm (N + 1) ns [] R) r t) :
  Alk (bothG N G (mN G' c2 (allTill G' c2 (n' + 1) ns' [] R') r2)) G' (Zj N cm (allTill G cm (N + 1) ns [] R) n' c2 (allTill G' c2 (n' + 1) ns' [] R')):=by
 intro y u h
 rcases h with ⟨hy,hst,rfl⟩ | ⟨t,ht,rfl,hu,hc⟩
 ·have hlt:=numOf_lt hst
  have e:=numOf_class hst
  obtain ⟨l,k⟩:=mN_class hK hn hcm hr hy hlt e
  have eb : bothG N G (mN G' c2 (allTill G' c2 (n' + 1) ns' [] R') r2) y = G y:=if_pos hy
  rw [eb,hG' _ hlt]
  exact ⟨hs y hy,l,fun j hj=>Or.inl ⟨hK.lt hy hj,(k j hj).1,(k j hj).2⟩⟩
 ·have eb : bothG N G (mN G' c2 (allTill G' c2 (n' + 1) ns' [] R') r2) (N + t) = shN N (mN G' c2 (allTill G' c2 (n' + 1) ns' [] R') r2 t):=by
   unfold bothG
   rw [if_neg (by omega),show N + t - N = t from by omega]
  rw [eb]
  obtain ⟨l,k⟩:=mN_class hK' hn' hc2 hr2 hu ht hc
  have pl:=hs' (r2 t) (hr2 t ht).1
  refine ⟨⟨pl.kind,pl.names,pl.kids,pl.bare⟩,⟨l.kind.symm,l.nn.symm,fun j hj=>(l.nm j (by rw [l.nn];exact hj)).symm,l.nk.symm⟩,fun j hj=>?_⟩
  have hj2 : j < (G' u).nk:=by rw [l.nk];exact hj
  obtain ⟨q1,q2⟩:=k j hj2
  have hlt:=numOf_lt q1
  refine Or.inr ⟨numOf c2 (allTill G' c2 (n' + 1) ns' [] R') (kid (G' u) j),hlt,?_,hK'.lt hu hj2,numOf_class q1⟩
  rw [<- q2]
  show (((mN G' c2 (allTill G' c2 (n' + 1) ns' [] R') r2 t).kd j + (N : Int))).toNat = N + ((mN G' c2 (allTill G' c2 (n' + 1) ns' [] R') r2 t).kd j).toNat
  have : 0 <= (mN G' c2 (allTill G' c2 (n' + 1) ns' [] R') r2 t).kd j:=Int.natCast_nonneg _
  omega
theorem root_first {G : Nat -> ND} {cl : Nat -> Nat} {f : Nat} {ns : Nat -> Nat} : ∃ t,allTill G cl (f + 1) ns [] 1 = ns 0 :: t:=by
 rw [show (1 : Nat) = 0 + 1 from rfl,allTill_succ]
 show ∃ t,vis G cl (f + 1) (allTill G cl (f + 1) ns [] 0) (ns 0) = ns 0 :: t
 have e : allTill G cl (f + 1) ns [] 0 = []:=rfl
 rw [e]
 unfold vis
 rw [if_neg (by simp [stands])]
 have h : ∀ (l : List Nat) (st : List Nat),∃ t,l.foldl (fun s j=>vis G cl f s (kid (G (ns 0)) j)) st = st ++ t:=by
  intro l
  induction l with
  | nil=>intro st;exact ⟨[],by simp⟩
  | cons x l ih=>
    intro st
    obtain ⟨t1,h1⟩:=vis_prefix (G:=G) (cl:=cl) f st (kid (G (ns 0)) x)
    obtain ⟨t2,h2⟩:=ih (vis G cl f st (kid (G (ns 0)) x))
    exact ⟨t1 ++ t2,by rw [List.foldl_cons,h2,h1,List.append_assoc]⟩
 obtain ⟨t,ht⟩:=h (List.range (G (ns 0)).nk) ([] ++ [ns 0])
 exact ⟨t,by rw [ht];rfl⟩
theorem root_zero {G : Nat -> ND} {cl : Nat -> Nat} {f : Nat} {ns : Nat -> Nat} : numOf cl (allTill G cl (f + 1) ns [] 1) (ns 0) = 0 /\ 0 < (allTill G cl (f + 1) ns [] 1).length /\ (allTill G cl (f + 1) ns [] 1).getD 0 0 = ns 0:=by
 obtain ⟨t,h⟩:=root_first (G:=G) (cl:=cl) (f:=f) (ns:=ns)
 rw [h]
 refine ⟨?_,by simp,rfl⟩
 unfold numOf
 simp
theorem join_asks {N : Nat} {G : Nat -> ND} {a b : Nat} {up : Bool} {cm r c2 r2 : Nat -> Nat} {k : Nat} (hv : vgr N G = true) (h2 : ∀ i,i < N -> (G i).nn + (G i).nk <= 1048576) (hsr : ∀ x,x < N -> Srt (G x)) (ha : a < N) (hb : b < N) (hcm : ∀ x y,x < N -> y < N -> (cm x = cm y ↔ Same N G x y))
  (hr : ∀ t,t < (allTill G cm (N + 1) (ns2 a b) [] 2).length -> r t < N /\ (cm (r t) : Int) = ((((allTill G cm (N + 1) (ns2 a b) [] 2).map cm).getD t 0 : Nat) : Int))
  {n n' : Nat} {H G' : Nat -> ND} {q0 : Qn} (en : n = (allTill G cm (N + 1) (ns2 a b) [] 2).length) (eH : H = mN G cm (allTill G cm (N + 1) (ns2 a b) [] 2) r) (eq : q0 = ⟨numOf cm (allTill G cm (N + 1) (ns2 a b) [] 2) a,numOf cm (allTill G cm (N + 1) (ns2 a b) [] 2) b,up⟩) (hF : FullQ H q0 k) (e1 : n' = n + k) (e2 : G' = mixG n H (qsTill H q0 k) q0)
  (hc2 : ∀ x y,x < n' -> y < n' -> (c2 x = c2 y ↔ Same n' G' x y)) (hr2 : ∀ t,t < (allTill G' c2 (n' + 1) (fun _=>n) [] 1).length -> r2 t < n' /\ (c2 (r2 t) : Int) = ((((allTill G' c2 (n' + 1) (fun _=>n) [] 1).map c2).getD t 0 : Nat) : Int)) :
  (up = true -> SubP (bothG N G (mN G' c2 (allTill G' c2 (n' + 1) (fun _=>n) [] 1) r2)) a N /\ SubP (bothG N G (mN G' c2 (allTill G' c2 (n' + 1) (fun _=>n) [] 1) r2)) b N) /\
  (up = false -> SubP (bothG N G (mN G' c2 (allTill G' c2 (n' + 1) (fun _=>n) [] 1) r2)) N a /\ SubP (bothG N G (mN G' c2 (allTill G' c2 (n' + 1) (fun _=>n) [] 1) r2)) N b):=by
 have hns : ∀ i,i < 2 -> ns2 a b i < N:=fun i _=>by unfold ns2;split <;> assumption
 obtain ⟨gH,sH⟩:=goodH_mN hv hns h2 hcm hr
 rw [<- en,<- eH] at gH
 have hsH : ∀ t,t < n -> Srt (H t):=fun t ht=>by
  rw [eH]
  have h9:=hsr (r t) (hr t (by rw [<- en];exact ht)).1
  exact h9
 have hst : ∀ i,i < 2 -> stands cm (allTill G cm (N + 1) (ns2 a b) [] 2) (ns2 a b i) = true:=(allTill_full (G:=G) (cl:=cm) (kids_of hv) (f:=N + 1) (ns:=ns2 a b) (m:=2) hns (by omega) 2 (Nat.le_refl _)).2.1
 have s0:=hst 0 (by omega)
 have s1:=hst 1 (by omega)
 have hq : q0.a < n /\ q0.b < n:=by
  rw [eq,en]
  exact ⟨numOf_lt s0,numOf_lt s1⟩
 have hL:=qs_in gH hq k
 have gm : GoodM n' G':=by
  have h9:=goodM gH (by rw [en,eH];exact sH) hL hq hF.closed
  rw [hF.len] at h9
  rw [e1,e2];exact h9
 have l0 : (qsTill H q0 k)[0]? = some q0:=by
  obtain ⟨t,ht⟩:=qs_le (H:=H) (q0:=q0) (Nat.zero_le k)
  rw [<- ht];rfl
 have JA:=join_above (q0:=q0) gH hsH hL hF.closed l0
 rw [<- e2] at JA
 have hn' : ∀ i,i < 1 -> (fun _ : Nat=>n) i < n':=fun i _=>by
  show n < n'
  have:=hF.pos
  omega
 have A : Alk (bothG N G (mN G' c2 (allTill G' c2 (n' + 1) (fun _=>n) [] 1) r2)) G' (Zj N cm (allTill G cm (N + 1) (ns2 a b) [] 2) n' c2 (allTill G' c2 (n' + 1) (fun _=>n) [] 1)):=
  zj_alk (fun x hx=>plain_of (shp_of hv hx)) (kids_of hv) hns hcm hr gm.plain gm.kids hn' hc2 hr2 (fun t ht=>by rw [e2,mixG_lt (by rw [en];exact ht),eH])
 obtain ⟨_,z2,z3⟩:=root_zero (G:=G') (cl:=c2) (f:=n') (ns:=fun _=>n)
 have Za : Zj N cm (allTill G cm (N + 1) (ns2 a b) [] 2) n' c2 (allTill G' c2 (n' + 1) (fun _=>n) [] 1) a q0.a:=Or.inl ⟨ha,s0,by rw [eq]⟩
 have Zb : Zj N cm (allTill G cm (N + 1) (ns2 a b) [] 2) n' c2 (allTill G' c2 (n' + 1) (fun _=>n) [] 1) b q0.b:=Or.inl ⟨hb,s1,by rw [eq]⟩
 have Zn : Zj N cm (allTill G cm (N + 1) (ns2 a b) [] 2) n' c2 (allTill G' c2 (n' + 1) (fun _=>n) [] 1) N n:=Or.inr ⟨0,z2,rfl,hn' 0 (by omega),by rw [z3]⟩
 have eu : q0.up = up:=by rw [eq]
 refine ⟨fun h=>?_,fun h=>?_⟩
 ·obtain ⟨p1,p2⟩:=JA.1 (eu.trans h)
  exact ⟨sub_alk A Za Zn p1,sub_alk A Zb Zn p2⟩
 ·obtain ⟨p1,p2⟩:=JA.2 (eu.trans h)
  exact ⟨sub_alk A Zn Za p1,sub_alk A Zn Zb p2⟩
theorem join_same {N : Nat} {G : Nat -> ND} {a b : Nat} {up : Bool} {cm r c2 r2 : Nat -> Nat} {k : Nat} (hv : vgr N G = true) (h2 : ∀ i,i < N -> (G i).nn + (G i).nk <= 1048576) (ha : a < N) (hb : b < N) (hab : Same N G a b) (hcm : ∀ x y,x < N -> y < N -> (cm x = cm y ↔ Same N G x y))
  (hr : ∀ t,t < (allTill G cm (N + 1) (ns2 a b) [] 2).length -> r t < N /\ (cm (r t) : Int) = ((((allTill G cm (N + 1) (ns2 a b) [] 2).map cm).getD t 0 : Nat) : Int))
  {n n' : Nat} {H G' : Nat -> ND} {q0 : Qn} (en : n = (allTill G cm (N + 1) (ns2 a b) [] 2).length) (eH : H = mN G cm (allTill G cm (N + 1) (ns2 a b) [] 2) r) (eq : q0 = ⟨numOf cm (allTill G cm (N + 1) (ns2 a b) [] 2) a,numOf cm (allTill G cm (N + 1) (ns2 a b) [] 2) b,up⟩) (hF : FullQ H q0 k) (e1 : n' = n + k) (e2 : G' = mixG n H (qsTill H q0 k) q0)
  (hc2 : ∀ x y,x < n' -> y < n' -> (c2 x = c2 y ↔ Same n' G' x y)) (hr2 : ∀ t,t < (allTill G' c2 (n' + 1) (fun _=>n) [] 1).length -> r2 t < n' /\ (c2 (r2 t) : Int) = ((((allTill G' c2 (n' + 1) (fun _=>n) [] 1).map c2).getD t 0 : Nat) : Int)) :
  Same (N + (allTill G' c2 (n' + 1) (fun _=>n) [] 1).length) (bothG N G (mN G' c2 (allTill G' c2 (n' + 1) (fun _=>n) [] 1) r2)) a N:=by
 have hns : ∀ i,i < 2 -> ns2 a b i < N:=fun i _=>by unfold ns2;split <;> assumption
 obtain ⟨gH,sH⟩:=goodH_mN hv hns h2 hcm hr
 rw [<- en,<- eH] at gH
 have hst : ∀ i,i < 2 -> stands cm (allTill G cm (N + 1) (ns2 a b) [] 2) (ns2 a b i) = true:=(allTill_full (G:=G) (cl:=cm) (kids_of hv) (f:=N + 1) (ns:=ns2 a b) (m:=2) hns (by omega) 2 (Nat.le_refl _)).2.1
 have s0:=hst 0 (by omega)
 have s1:=hst 1 (by omega)
 have hq : q0.a < n /\ q0.b < n:=by
  rw [eq,en]
  exact ⟨numOf_lt s0,numOf_lt s1⟩
 have hd : q0.a = q0.b:=by
  rw [eq]
  show numOf _ _ a = numOf _ _ b
  unfold numOf
  rw [(hcm a b ha hb).2 hab]
 have hL:=qs_in gH hq k
 have sH' : ∀ t,t < n -> shp (H t) = true:=by rw [en,eH];exact sH
 have gm : GoodM n' G':=by
  have h9:=goodM gH sH' hL hq hF.closed
  rw [hF.len] at h9
  rw [e1,e2];exact h9
 have l0 : (qsTill H q0 k)[0]? = some q0:=by
  obtain ⟨t,ht⟩:=qs_le (H:=H) (q0:=q0) (Nat.zero_le k)
  rw [<- ht];rfl
 have MS:=made_same (q0:=q0) gH sH' hL hF.closed (qs_diag hd k) l0
 rw [hF.len,<- e1,<- e2,Nat.add_zero] at MS
 have hn' : ∀ i,i < 1 -> (fun _ : Nat=>n) i < n':=fun i _=>by
  show n < n'
  have:=hF.pos
  omega
 have A : Alk (bothG N G (mN G' c2 (allTill G' c2 (n' + 1) (fun _=>n) [] 1) r2)) G' (Zj N cm (allTill G cm (N + 1) (ns2 a b) [] 2) n' c2 (allTill G' c2 (n' + 1) (fun _=>n) [] 1)):=
  zj_alk (fun x hx=>plain_of (shp_of hv hx)) (kids_of hv) hns hcm hr gm.plain gm.kids hn' hc2 hr2 (fun t ht=>by rw [e2,mixG_lt (by rw [en];exact ht),eH])
 obtain ⟨_,z2,z3⟩:=root_zero (G:=G') (cl:=c2) (f:=n') (ns:=fun _=>n)
 refine same_alk A (fun y u h=>?_) (Or.inl ⟨ha,s0,by rw [eq]⟩ : Zj N cm (allTill G cm (N + 1) (ns2 a b) [] 2) n' c2 (allTill G' c2 (n' + 1) (fun _=>n) [] 1) a q0.a) (Or.inr ⟨0,z2,rfl,hn' 0 (by omega),by rw [z3]⟩ : Zj N cm (allTill G cm (N + 1) (ns2 a b) [] 2) n' c2 (allTill G' c2 (n' + 1) (fun _=>n) [] 1) N n) MS
 rcases h with ⟨hy,hs,rfl⟩ | ⟨t,ht,rfl,hu,_⟩
 ·have:=numOf_lt hs
  exact ⟨by omega,by omega⟩
 ·exact ⟨by omega,hu⟩
theorem any_asks {N : Nat} {G : Nat -> ND} {x : Nat} (hx : x < N) : SubP (bothG N G (fun _=>mkN 0)) x N /\ SubP (bothG N G (fun _=>mkN 0)) N x:=by
 have e : bothG N G (fun _=>mkN 0) N = shN N (mkN 0):=by unfold bothG;rw [if_neg (by omega)]
 have k0 : (bothG N G (fun _=>mkN 0) N).kind = 0:=by rw [e];rfl
 constructor
 ·refine ⟨fun u v=>u = x /\ v = N,?_,rfl,rfl⟩
  rintro u v ⟨rfl,rfl⟩
  refine ⟨Or.inr (Or.inl k0),fun q hq=>?_⟩
  unfold demP at hq
  rw [if_pos (Or.inr k0)] at hq
  cases hq
 ·refine ⟨fun u v=>u = N /\ v = x,?_,rfl,rfl⟩
  rintro u v ⟨rfl,rfl⟩
  refine ⟨Or.inl k0,fun q hq=>?_⟩
  unfold demP at hq
  rw [if_pos (Or.inl k0)] at hq
  cases hq
end Go.Proofs.YtpbpbppimkeodaaGreatDoor
