/-
  VbG VbH VbI
-/
import Derived.Test.YtcehppndpccldaaGreatDoorT3
set_option maxHeartbeats 4000000
set_option maxRecDepth 100000
namespace Go.Proofs.YtcehppndpccldaaGreatDoor
open Go.RowKit
theorem em_app (s : ByteArray) : e0 ++ s = s:=by unfold e0;simp
theorem app_em (s : ByteArray) : s ++ e0 = s:=by unfold e0;simp
theorem v_tname (w : World) (op : Int) (md nm : ByteArray) (pa : Option Addr) (n pc : Nat) (hm : md.size <= 1048576) (hn : nm.size <= 1048576) :
  Calls Tryz.prog 100 #[.agg #[.int .i64 op,.string md,.string nm,.slice pa n pc]] w fun e w'=>e = .returned (.string (pth md nm)) /\ Bw w w':=by
 have HP : Hid (pth md nm = if md.size = 0 then nm else md ++ xColon ++ nm):=by show _ = _;rfl
 obtain ⟨r,hr⟩:=xe (pth md nm)
 rw [<- hr] at HP ⊢
 clear hr
 go_enter Tryz.func100,Tryz.ntmps100
 by_cases hz : md.size = 0
 ·have HF : Hid (r = nm):=by show _ = _;rw [HP.out,if_pos hz]
  have me : md = ByteArray.empty:=em_zero hz
  subst me
  clear HP hz
  go_wp2
  go_ret
  exact ⟨by rw [HF.out];rfl,bel1 _ _⟩
 ·have HF : Hid (r = md ++ (⟨#[58]⟩ : ByteArray) ++ nm):=by show _ = _;rw [HP.out,if_neg hz];rfl
  have me : ¬ md = ByteArray.empty:=em_pos hz
  have lz : (0 : Int) < (md.size : Int):=by omega
  have lz2 : 0 < md.size:=by omega
  have s1 : (⟨#[58]⟩ : ByteArray).size = 1:=rfl
  have a1:=rsa md (⟨#[58]⟩ : ByteArray) (by rw [s1];omega)
  have a2:=rsa (md ++ (⟨#[58]⟩ : ByteArray)) nm (by rw [bsa,s1];omega)
  clear HP hz
  go_wp2
  go_ret
  exact ⟨by rw [HF.out];rfl,bel1 _ _⟩
theorem fT_cases {t : TI} {f : Fm} (h : fT t = some f) : (t.op = 1 /\ f = ⟨1,[],[xInt]⟩) \/ (t.op = 2 /\ f = ⟨1,[],[xBool]⟩) \/ (t.op = 3 /\ f = ⟨1,[],[xAny]⟩) \/ (t.op = 4 /\ f = ⟨1,[],[pth t.md t.nm]⟩) \/ (t.op = 5 /\ f = brc t.ns xCs 1) \/ (t.op = 6 /\ f = ⟨0,[1,0],[e0,xArr,e0]⟩):=by
 unfold fT at h
 refine if_some2 h (fun z h=>if_some h (fun e=>by cases e;exact Or.inr (Or.inr (Or.inr (Or.inl ⟨z,rfl⟩)))) none_some) fun z4 h=>?_
 refine if_some h (fun h=>?_) none_some
 refine if_some2 h (fun z h=>if_some h (fun e=>by cases e;exact Or.inr (Or.inr (Or.inr (Or.inr (Or.inl ⟨z,rfl⟩))))) none_some) fun z5 h=>?_
 refine if_some h (fun h=>?_) none_some
 refine if_some2 h (fun z e=>by cases e;exact Or.inl ⟨z,rfl⟩) fun z1 h=>?_
 refine if_some2 h (fun z e=>by cases e;exact Or.inr (Or.inl ⟨z,rfl⟩)) fun z2 h=>?_
 refine if_some2 h (fun z e=>by cases e;exact Or.inr (Or.inr (Or.inl ⟨z,rfl⟩))) fun z3 h=>?_
 exact if_some2 h (fun z e=>by cases e;exact Or.inr (Or.inr (Or.inr (Or.inr (Or.inr ⟨z,rfl⟩))))) fun _ h=>none_some h
def PTC (xs : List (TI × NPl)) (l : List TI) (a : Option Addr) (c e : Nat) : Prop:=∀ (W : World) (z : Int),TsA W (.slice a xs.length c) xs -> z = (e : Int) + 1 -> Calls Tryz.prog 65 #[.slice a xs.length c,.int .i64 z] W fun r w'=>r = .returned (.string (pw (FT l) (e + 1)).1) /\ Bw W w'
structure PTH (xs : List (TI × NPl)) (l : List TI) (e : Nat) : Prop where
 is : xs.map Prod.fst = l
 ar : ArT l (e + 1)
 vk : Vk (fun i=>(FT l i).needs.length) (e + 1)
 sz : ∀ k,k <= e + 1 -> (pw (FT l) k).1.size <= 100000000
theorem PTH.item {xs : List (TI × NPl)} {l : List TI} {e : Nat} (h : PTH xs l e) {k : Nat} (hk : k < xs.length) (hke : k <= e) : ∃ f,fT xs[k].1 = some f /\ FT l k = f:=by
 have h1:=h.ar k (by omega)
 rw [aT_at h.is hk] at h1
 cases hf : fT xs[k].1 with
 | none=>rw [hf] at h1;cases h1
 | some f=>
   refine ⟨f,rfl,?_⟩
   unfold FT
   rw [<- h.is,List.getElem?_map,List.getElem?_eq_getElem hk]
   show (fT xs[k].1).getD fm0 = f
   rw [hf];rfl
theorem v_printT_small {xs : List (TI × NPl)} {l : List TI} {a : Option Addr} {c e : Nat} (H : PTH xs l e) (he : e < xs.length) {f : Fm} (hf : fT xs[e].1 = some f) (h4 : xs[e].1.op = 1 /\ f = ⟨1,[],[xInt]⟩ \/ xs[e].1.op = 2 /\ f = ⟨1,[],[xBool]⟩ \/ xs[e].1.op = 3 /\ f = ⟨1,[],[xAny]⟩ \/ xs[e].1.op = 4 /\ f = ⟨1,[],[pth xs[e].1.md xs[e].1.nm]⟩) : PTC xs l a c e:=by
 intro w z h hz
 subst hz
 have hp:=pw_at (l:=l) (e:=e) (t:=xs[e].1) (by rw [<- H.is,List.getElem?_map,List.getElem?_eq_getElem he];rfl) hf H.vk
 obtain ⟨g,rfl,y0,y1,y2,y3,ti⟩:=h.item he
 have hlen:=h.len
 obtain ⟨r,hr⟩:=xe ((pw (FT l) (e + 1)).1)
 obtain ⟨X,hX⟩:=xe (xs[e])
 rw [<- hX] at y0 y1 y2 y3 ti h4
 have HR : Hid (r = arnd f.needs f.texts ((pts (fun i=>(FT l i).needs.length) f.needs.length e).map (pw (FT l)))):=by show _ = _;rw [hr,hp]
 rw [<- hr]
 obtain ⟨op,hop⟩:=xe (X.1.op)
 rw [<- hop] at y0 h4
 have we1 : IntKind.i64.wrap ((e : Int) + 1 - 1) = (e : Int):=wk (by omega)
 have we2 : IntKind.i64.wrap (e : Int) = (e : Int):=wk (by omega)
 have hel : (e : Int) < (xs.length : Int):=by omega
 have he0 : (0 : Int) <= (e : Int):=by omega
 have zm:=ti.md
 have zn:=ti.nm
 clear h H hp hr hX hop hf ti
 rcases h4 with ⟨h1,rfl⟩ | ⟨h1,rfl⟩ | ⟨h1,rfl⟩ | ⟨h1,rfl⟩
 ·subst h1
  have HF : Hid (r = ⟨#[105,110,116]⟩):=HR
  clear HR
  go_enter Tryz.func65,Tryz.ntmps65
  go_wp2
  go_ret
  exact ⟨by rw [HF.out];rfl,bel1 _ _⟩
 ·subst h1
  have HF : Hid (r = ⟨#[98,111,111,108]⟩):=HR
  clear HR
  go_enter Tryz.func65,Tryz.ntmps65
  go_wp2
  go_ret
  exact ⟨by rw [HF.out];rfl,bel1 _ _⟩
 ·subst h1
  have HF : Hid (r = ⟨#[63]⟩):=HR
  clear HR
  go_enter Tryz.func65,Tryz.ntmps65
  go_wp2
  go_ret
  exact ⟨by rw [HF.out];rfl,bel1 _ _⟩
 ·subst h1
  have HF : Hid (r = pth X.1.md X.1.nm):=HR
  have C : Hid (∀ W,Calls Tryz.prog 100 #[.agg #[.int .i64 4,.string X.1.md,.string X.1.nm,.slice X.2.a X.1.ns.length X.2.c]] W fun e w'=>e = .returned (.string (pth X.1.md X.1.nm)) /\ Bw W w'):=fun W=>v_tname W 4 _ _ _ _ _ zm zn
  clear HR
  go_enter Tryz.func65,Tryz.ntmps65
  go_wp2_with fail
  refine (C.out _).mono ?_
  rintro r2 w2 ⟨rfl,hb2⟩
  have HB : Hid (Bw w w2):=(bel1 _ _).trans (hb2.mono (by simp))
  clear hb2
  go_wp2
  go_ret
  exact ⟨by rw [HF.out];rfl,HB.out⟩
theorem two_of {l : List Nat} (h : l.length = 2) : ∃ x y,l = [x,y]:=by
 match l,h with
 | [x,y],_=>exact ⟨x,y,rfl⟩
theorem v_printT_fun {xs : List (TI × NPl)} {l : List TI} {a : Option Addr} {c e : Nat} (H : PTH xs l e) (he : e < xs.length) (hf : fT xs[e].1 = some ⟨0,[1,0],[e0,xArr,e0]⟩) (hop : xs[e].1.op = 6) (IH : ∀ q,q < e -> PTC xs l a c q) : PTC xs l a c e:=by
 intro w z h hz
 subst hz
 have hp:=pw_at (l:=l) (e:=e) (t:=xs[e].1) (by rw [<- H.is,List.getElem?_map,List.getElem?_eq_getElem he];rfl) hf H.vk
 have hn2 : (FT l e).needs.length = 2:=by
  obtain ⟨f,h1,h2⟩:=H.item he (nlr _)
  rw [hf] at h1
  cases h1
  rw [h2];rfl
 have hv2:=H.vk e (Nat.lt_succ_self _)
 dsimp only at hv2
 rw [hn2] at hv2
 obtain ⟨p0,p1,hps⟩:=two_of (pts_len (fun i=>(FT l i).needs.length) 2 e)
 have hm0:=pts_mem (H.vk.mono (Nat.le_succ _)) hv2 (p:=p0) (by rw [hps];simp)
 have hm1:=pts_mem (H.vk.mono (Nat.le_succ _)) hv2 (p:=p1) (by rw [hps];simp)
 obtain ⟨q0,rfl⟩ : ∃ q,p0 = q + 1:=⟨p0 - 1,by omega⟩
 obtain ⟨q1,rfl⟩ : ∃ q,p1 = q + 1:=⟨p1 - 1,by omega⟩
 have HT : Hid (∀ W,Bw w W -> TsA W (.slice a xs.length c) xs):=fun W hb=>h.below hb
 have CP : Hid (∀ (W : World) (z : Int),Bw w W -> z = ((e + 1 : Nat) : Int) -> Calls Tryz.prog 101 #[.slice a xs.length c,.int .i64 z] W fun r w'=>∃ va cp,r = .returned (.slice va 2 cp) /\ Hid (w'.ownsRow W.heap.size 3 1 (.slice va 2 cp) 2 (inC [q0 + 1,q1 + 1])) /\ Hid (Bw W w')):=fun W z hb hz=>by
  have:=v_tparts W (HT.out W hb) H.is he H.ar hz
  rw [hn2,hps] at this
  exact this.mono fun r w' ⟨va,cp,h1,h2,h3⟩=>⟨va,cp,h1,h2,h3⟩
 have C0 : Hid (∀ (W : World) (z : Int),Bw w W -> z = (q0 : Int) + 1 -> Calls Tryz.prog 65 #[.slice a xs.length c,.int .i64 z] W fun r w'=>r = .returned (.string (pw (FT l) (q0 + 1)).1) /\ Bw W w'):=fun W z hb hz=>IH q0 (by omega) W z (HT.out W hb) hz
 have C1 : Hid (∀ (W : World) (z : Int),Bw w W -> z = (q1 : Int) + 1 -> Calls Tryz.prog 65 #[.slice a xs.length c,.int .i64 z] W fun r w'=>r = .returned (.string (pw (FT l) (q1 + 1)).1) /\ Bw W w'):=fun W z hb hz=>IH q1 (by omega) W z (HT.out W hb) hz
 have hx0 : q0 < xs.length:=by omega
 obtain ⟨f0,hf0,hF0⟩:=H.item hx0 (by omega)
 have hlv : ((pw (FT l) (q0 + 1)).2 < 1) ↔ xs[q0].1.op = 6:=by
  show (FT l q0).lev < 1 ↔ _
  rw [hF0];exact lev_fT hf0
 obtain ⟨g,rfl,y0,y1,y2,y3,ti⟩:=h.item he
 have HI0 : Hid (∀ W,Bw w W -> W.cell? ⟨g,q0 * 4,none⟩ = some (Value.int .i64 xs[q0].1.op)):=fun W hb=>by
  obtain ⟨g',e',z0,_⟩:=(HT.out W hb).item hx0
  cases e'
  exact z0
 have hlen:=h.len
 have sA:=H.sz (q0 + 1) (by omega)
 have sB:=H.sz (q1 + 1) (by omega)
 have szR:=H.sz (e + 1) (nlr _)
 obtain ⟨r,hr⟩:=xe ((pw (FT l) (e + 1)).1)
 obtain ⟨A,hA⟩:=xe ((pw (FT l) (q0 + 1)).1)
 obtain ⟨B,hB⟩:=xe ((pw (FT l) (q1 + 1)).1)
 have HR : Hid (r = (if xs[q0].1.op = 6 then sL ++ A ++ sR else A) ++ xArr ++ B):=by
  show _ = _
  rw [hr,hp]
  show arnd [1,0] [e0,xArr,e0] (List.map (pw (FT l)) (pts _ 2 e)) = _
  rw [hps]
  show e0 ++ brk 1 (pw (FT l) (q0 + 1)) ++ (xArr ++ brk 0 (pw (FT l) (q1 + 1)) ++ e0) = _
  rw [brk0,em_app,app_em,<- hB,<- ByteArray.append_assoc]
  congr 2
  unfold brk
  rw [<- hA]
  by_cases z : xs[q0].1.op = 6
  ·rw [if_pos z,if_pos (hlv.2 z)]
  ·rw [if_neg z,if_neg (fun y=>z (hlv.1 y))]
 rw [<- hr] at szR ⊢
 rw [<- hA] at sA C0
 rw [<- hB] at sB C1
 obtain ⟨X,hX⟩:=xe (xs[e])
 obtain ⟨o0,ho0⟩:=xe (xs[q0].1.op)
 rw [<- ho0] at HI0 HR
 rw [<- hX] at y0 y1 y2 y3 hop
 rw [hop] at y0
 have we1 : IntKind.i64.wrap ((e : Int) + 1 - 1) = (e : Int):=wk (by omega)
 have we2 : IntKind.i64.wrap (e : Int) = (e : Int):=wk (by omega)
 have wq1 : IntKind.i64.wrap ((q0 : Int) + 1 - 1) = (q0 : Int):=wk (by omega)
 have wq2 : IntKind.i64.wrap (q0 : Int) = (q0 : Int):=wk (by omega)
 have hel : (e : Int) < (xs.length : Int):=by omega
 have he0 : (0 : Int) <= (e : Int):=by omega
 have hql : (q0 : Int) < (xs.length : Int):=by omega
 have hq0 : (0 : Int) <= (q0 : Int):=by omega
 clear h H hp hn2 hv2 hps hm0 hm1 IH hf0 hF0 hlv ti hr hA hB hX ho0 hf hop HT
 go_enter Tryz.func65,Tryz.ntmps65
 go_wp2_with fail
 refine (CP.out _ _ (bel1 _ _) (by omega)).mono ?_
 rintro e2 w2 ⟨va,cp,rfl,HO,HB⟩
 have HB2 : Hid (Bw w w2):=(bel1 _ _).trans (HB.out.mono (by simp))
 obtain ⟨go,gc,ev,_⟩:=own_blk HO.out (by omega)
 simp only [Value.slice.injEq] at ev
 obtain ⟨rfl,-,rfl⟩:=ev
 have BX:=row4 w (.int .i64 6) (.string X.1.md) (.string X.1.nm) (.slice X.2.a X.1.ns.length X.2.c) 99
 have t0 : w2.cell? ⟨w.heap.size,0,none⟩ = some (.int .i64 6):=(BX.of_block (HB.out.block _ BX.lt)).cell (i:=0) (by omega)
 have c0 : w2.cell? ⟨go,0,none⟩ = some (.int .i64 ((q0 : Int) + 1)):=own_int (es:=[q0 + 1,q1 + 1]) HO.out rfl (j:=0) (by simp)
 have c1 : w2.cell? ⟨go,1,none⟩ = some (.int .i64 ((q1 : Int) + 1)):=own_int (es:=[q0 + 1,q1 + 1]) HO.out rfl (j:=1) (by simp)
 clear BX HB HO
 go_wp2_with fail
 refine (C0.out _ _ HB2.out (by omega)).mono ?_
 rintro e3 w3 ⟨rfl,hb3⟩
 have HB3 : Hid (Bw w w3):=HB2.out.trans (hb3.mono HB2.out.size)
 have d0:=(hb3.cell (p:=⟨go,0,none⟩) (blt c0)).trans c0
 have d1:=(hb3.cell (p:=⟨go,1,none⟩) (blt c1)).trans c1
 have i0:=HI0.out w3 HB3.out
 have sl : (⟨#[40]⟩ : ByteArray).size = 1:=rfl
 have sr : (⟨#[41]⟩ : ByteArray).size = 1:=rfl
 have sa : (⟨#[32,45,62,32]⟩ : ByteArray).size = 4:=rfl
 clear hb3 c0 c1 t0
 by_cases ho : o0 = 6
 ·have bo : (o0 == 6) = true:=beq_iff_eq.2 ho
  have HF : Hid (r = ((⟨#[40]⟩ : ByteArray) ++ A ++ (⟨#[41]⟩ : ByteArray)) ++ (⟨#[32,45,62,32]⟩ : ByteArray) ++ B):=by show _ = _;rw [HR.out,if_pos ho];rfl
  have a1:=rsa (⟨#[40]⟩ : ByteArray) A (by rw [sl];omega)
  have a2:=rsa ((⟨#[40]⟩ : ByteArray) ++ A) (⟨#[41]⟩ : ByteArray) (by rw [bsa,sl,sr];omega)
  obtain ⟨A2,hA2⟩:=xe ((⟨#[40]⟩ : ByteArray) ++ A ++ (⟨#[41]⟩ : ByteArray))
  have sA2 : A2.size <= 100000002:=by rw [hA2,bsa,bsa,sl,sr];omega
  rw [<- hA2] at HF a2
  have a3:=rsa A2 (⟨#[32,45,62,32]⟩ : ByteArray) (by rw [sa];omega)
  have a4:=rsa (A2 ++ (⟨#[32,45,62,32]⟩ : ByteArray)) B (by rw [bsa,sa];omega)
  clear ho hA2 HR
  go_wp2_with fail
  refine (C1.out _ _ HB3.out (by omega)).mono ?_
  rintro e4 w4 ⟨rfl,hb4⟩
  have HB4 : Hid (Bw w w4):=HB3.out.trans (hb4.mono HB3.out.size)
  clear hb4
  go_wp2
  go_ret
  exact ⟨by rw [HF.out];rfl,HB4.out⟩
 ·have bo : (o0 == 6) = false:=bn2 ho
  have HF : Hid (r = A ++ (⟨#[32,45,62,32]⟩ : ByteArray) ++ B):=by show _ = _;rw [HR.out,if_neg ho];rfl
  have a3:=rsa A (⟨#[32,45,62,32]⟩ : ByteArray) (by rw [sa];omega)
  have a4:=rsa (A ++ (⟨#[32,45,62,32]⟩ : ByteArray)) B (by rw [bsa,sa];omega)
  clear ho HR
  go_wp2_with fail
  refine (C1.out _ _ HB3.out (by omega)).mono ?_
  rintro e4 w4 ⟨rfl,hb4⟩
  have HB4 : Hid (Bw w w4):=HB3.out.trans (hb4.mono HB3.out.size)
  clear hb4
  go_wp2
  go_ret
  exact ⟨by rw [HF.out];rfl,HB4.out⟩
theorem v_printT_rec {xs : List (TI × NPl)} {l : List TI} {a : Option Addr} {c e : Nat} (H : PTH xs l e) (he : e < xs.length) (hf : fT xs[e].1 = some (brc xs[e].1.ns xCs 1)) (hop : xs[e].1.op = 5) (IH : ∀ q,q < e -> PTC xs l a c q) : PTC xs l a c e:=by
 intro w z h hz
 subst hz
 have hp:=pw_at (l:=l) (e:=e) (t:=xs[e].1) (by rw [<- H.is,List.getElem?_map,List.getElem?_eq_getElem he];rfl) hf H.vk
 have hnn : (FT l e).needs.length = xs[e].1.ns.length:=by
  obtain ⟨f,h1,h2⟩:=H.item he (nlr _)
  rw [hf] at h1
  cases h1
  rw [h2];exact (brc_ok _ _ _).2.1
 have hvn:=H.vk e (Nat.lt_succ_self _)
 dsimp only at hvn
 rw [hnn] at hvn
 have HT : Hid (∀ W,Bw w W -> TsA W (.slice a xs.length c) xs):=fun W hb=>h.below hb
 obtain ⟨pl,hpl⟩:=xe (pts (fun i=>(FT l i).needs.length) xs[e].1.ns.length e)
 have hplen : pl.length = xs[e].1.ns.length:=by rw [hpl];exact pts_len _ _ _
 have CP : Hid (∀ (W : World) (z : Int),Bw w W -> z = ((e + 1 : Nat) : Int) -> Calls Tryz.prog 101 #[.slice a xs.length c,.int .i64 z] W fun r w'=>∃ va cp,r = .returned (.slice va xs[e].1.ns.length cp) /\ Hid (w'.ownsRow W.heap.size 3 1 (.slice va xs[e].1.ns.length cp) xs[e].1.ns.length (inC pl)) /\ Hid (Bw W w')):=fun W z hb hz=>by
  have:=v_tparts W (HT.out W hb) H.is he H.ar hz
  rw [hnn,<- hpl] at this
  exact this.mono fun r w' ⟨va,cp,h1,h2,h3⟩=>⟨va,cp,h1,h2,h3⟩
 have CQ : Hid (∀ (W : World) (z : Int) (k : Nat) (hk : k < pl.length),Bw w W -> z = (pl[k] : Int) -> Calls Tryz.prog 65 #[.slice a xs.length c,.int .i64 z] W fun r w'=>r = .returned (.string (pw (FT l) pl[k]).1) /\ Hid (Bw W w')):=fun W z k hk hb hz=>by
  have hm:=pts_mem (H.vk.mono (Nat.le_succ _)) hvn (p:=pl[k]) (by rw [<- hpl];exact List.getElem_mem hk)
  have:=IH (pl[k] - 1) (by omega) W z (HT.out W hb) (by omega)
  rw [show pl[k] - 1 + 1 = pl[k] by omega] at this
  exact this
 have HPS : Hid (∀ k (hk : k < pl.length),(pw (FT l) pl[k]).1.size <= 100000000 /\ pl[k] <= 1048576):=fun k hk=>by
  have hm:=pts_mem (H.vk.mono (Nat.le_succ _)) hvn (p:=pl[k]) (by rw [<- hpl];exact List.getElem_mem hk)
  exact ⟨H.sz _ (by omega),by have:=h.len;omega⟩
 obtain ⟨g,rfl,y0,y1,y2,y3,ti⟩:=h.item he
 have hlen:=h.len
 have HNS : Hid (∀ W,Bw w W -> NsA W xs[e].2 xs[e].1.ns):=fun W hb=>ti.ns.below hb
 have HNZ : Hid (∀ k,k < xs[e].1.ns.length -> (xs[e].1.ns.getD k e0).size <= 1048576):=ti.sz
 have hnl:=ti.len
 have szR:=H.sz (e + 1) (nlr _)
 obtain ⟨r,hr⟩:=xe ((pw (FT l) (e + 1)).1)
 obtain ⟨X,hX⟩:=xe (xs[e])
 rw [<- hX] at y0 y1 y2 y3 hop hplen CP HNS HNZ hnl
 obtain ⟨ns,hns⟩:=xe (X.1.ns)
 rw [<- hns] at y3 hplen CP HNS HNZ hnl
 obtain ⟨P,hP⟩ : ∃ P : Nat -> ByteArray,P = fun i=>(((pl.map (pw (FT l))).getD i (e0,0)).1):=⟨_,rfl⟩
 have HPk : Hid (∀ k (hk : k < pl.length),P k = (pw (FT l) pl[k]).1):=fun k hk=>by
  rw [hP]
  show ((pl.map (pw (FT l))).getD k (e0,0)).1 = _
  rw [List.getD_eq_getElem?_getD,List.getElem?_map,List.getElem?_eq_getElem hk];rfl
 have harn : (pw (FT l) (e + 1)).1 = arnd (brc ns xCs 1).needs (brc ns xCs 1).texts (pl.map (pw (FT l))):=by
  rw [hp,hpl,<- hX,<- hns]
  show arnd _ _ (List.map (pw (FT l)) (pts _ (brc ns xCs 1).needs.length e)) = _
  rw [(brc_ok _ _ _).2.1]
 have HR : Hid (r = recL xCs ns P ns.length ++ xC):=by
  show _ = _
  rw [hr,harn,rec_all 1 (by rw [List.length_map];exact hplen),hP]
 have HRS : Hid (∀ i,i <= ns.length -> (recL xCs ns P i).size <= 100000000):=fun i hi=>by
  have:=rec_size (sign:=xCs) (ns:=ns) (ps:=pl.map (pw (FT l))) 1 (by rw [List.length_map];exact hplen) hi
  rw [<- harn] at this
  rw [hP]
  omega
 rw [<- hr]
 rw [hop] at y0
 obtain ⟨n,hn⟩:=xe (ns.length)
 have HN : Hid (ns.length = n):=hn.symm
 rw [<- hn] at y3 hplen CP HNZ hnl HR HRS
 have we1 : IntKind.i64.wrap ((e : Int) + 1 - 1) = (e : Int):=wk (by omega)
 have we2 : IntKind.i64.wrap (e : Int) = (e : Int):=wk (by omega)
 have hel : (e : Int) < (xs.length : Int):=by omega
 have he0 : (0 : Int) <= (e : Int):=by omega
 have HPL : Hid (pl.length = n):=hplen
 clear h H hp hnn hvn hpl IH ti hr hX hns hf hop HT harn hP szR hn hplen
 go_enter Tryz.func65,Tryz.ntmps65
 go_wp2_with fail
 refine (CP.out _ _ (bel1 _ _) (by omega)).mono ?_
 rintro e2 w2 ⟨va,cp,rfl,HO,HB⟩
 have HB2 : Hid (Bw w w2):=(bel1 _ _).trans (HB.out.mono (by simp))
 have BX:=row4 w (.int .i64 5) (.string X.1.md) (.string X.1.nm) (.slice X.2.a n X.2.c) 99
 have BX2:=BX.of_block (HB.out.block _ BX.lt)
 have t0 : w2.cell? ⟨w.heap.size,0,none⟩ = some (.int .i64 5):=BX2.cell (i:=0) (by omega)
 have HX2 : Hid (∀ W,Bw w2 W -> W.cell? ⟨w.heap.size,3,none⟩ = some (.slice X.2.a n X.2.c)):=fun W hb=>(BX2.of_block (hb.block _ BX2.lt)).cell (i:=3) (by omega)
 have HO2 : Hid (∀ W,Bw w2 W -> ∀ k (hk : k < pl.length),∃ go,va = some ⟨go,0,none⟩ /\ W.cell? ⟨go,k,none⟩ = some (.int .i64 (pl[k] : Int))):=fun W hb k hk=>by
  obtain ⟨go,gc,ev,_⟩:=own_blk HO.out (show 0 < n by have:=HPL.out;omega)
  simp only [Value.slice.injEq] at ev
  obtain ⟨rfl,-,rfl⟩:=ev
  have c0 : w2.cell? ⟨go,k,none⟩ = some (.int .i64 (pl[k] : Int)):=own_int (es:=pl) (by rw [HPL.out];exact HO.out) rfl hk
  exact ⟨go,rfl,(hb.cell (p:=⟨go,k,none⟩) (blt c0)).trans c0⟩
 clear BX BX2 HB HO
 go_wp2
 go_loopw [8,9] (fun s i wr=>∃ k : Nat,k <= n /\ i = .int .i64 k /\ s = .string (recL xCs ns P k) /\ Hid (Bw w2 wr)) (fun _ i _=>n - (intOf i).toNat)
 case atStart=>exact ⟨0,Nat.zero_le _,rfl,rfl,Below.refl _ _⟩
 case round=>
  obtain ⟨k,hk,rfl,rfl,HW⟩:=hrel
  have sS:=HRS.out k hk
  by_cases hlt : k < n
  ·have hkp : k < pl.length:=by rw [HPL.out];exact hlt
   have HWw : Hid (Bw w wr):=HB2.out.trans (HW.out.mono HB2.out.size)
   have nsa:=HNS.out wr HWw.out
   have ea:=nsa.at_ (by rw [HN.out];omega)
   have ck:=nsa.cell k (by rw [HN.out];exact hlt)
   have zk:=HNZ.out k hlt
   obtain ⟨go,ego,pk⟩:=HO2.out wr HW.out k hkp
   obtain ⟨zp,zpl⟩:=HPS.out k hkp
   have bx:=HX2.out wr HW.out
   have HC : Hid (∀ (W : World),Bw w2 W -> Calls Tryz.prog 65 #[.slice (some ⟨g,0,none⟩) xs.length c,.int .i64 (pl[k] : Int)] W fun r w'=>r = .returned (.string (P k)) /\ Hid (Bw w2 w')):=fun W hb=>by
    rw [HPk.out k hkp]
    exact (CQ.out W _ k hkp (HB2.out.trans (hb.mono HB2.out.size)) rfl).mono fun r w' h=>⟨h.1,hb.trans (h.2.out.mono hb.size)⟩
   rw [<- HPk.out k hkp] at zp
   obtain ⟨q,hq⟩:=xe (pl[k])
   rw [<- hq] at pk HC zpl
   obtain ⟨x,hx⟩:=xe (ns.getD k e0)
   rw [<- hx] at ck zk
   rw [ea] at bx
   subst ego
   obtain ⟨pb,hpb⟩:=xe (X.2.b)
   rw [<- hpb] at bx ck
   have HNX : Hid (recL xCs ns P (k + 1) = ((if 0 < k then recL xCs ns P k ++ xCm else recL xCs ns P k) ++ x) ++ xCs ++ P k):=by show _ = _;rw [recL,hx]
   obtain ⟨S,hS⟩:=xe (recL xCs ns P k)
   obtain ⟨Q,hQ⟩:=xe (P k)
   rw [<- hS] at sS HNX ⊢
   rw [<- hQ] at zp HNX HC
   have HCC : Hid (∀ W : World,Bw w2 W -> W.cell? ⟨w.heap.size,3,none⟩ = some (.slice (some ⟨pb,0,none⟩) n X.2.c) /\ W.cell? ⟨pb,k,none⟩ = some (.string x) /\ W.cell? ⟨go,k,none⟩ = some (.int .i64 (q : Int))):=fun W hb=>by
    have hbw:=HB2.out.trans (hb.mono HB2.out.size)
    refine ⟨?_,?_,?_⟩
    ·rw [<- hpb.symm,<- ea];exact HX2.out W hb
    ·have:=(HNS.out W hbw).cell k (by rw [HN.out];exact hlt);rw [<- hpb,<- hx] at this;exact this
    ·obtain ⟨go',e',c'⟩:=HO2.out W hb k hkp
     cases e'
     rw [hq];exact c'
   have s1 : (⟨#[44,32]⟩ : ByteArray).size = 2:=rfl
   have s2 : (⟨#[58,32]⟩ : ByteArray).size = 2:=rfl
   clear nsa ea hq hx hpb hS hQ
   by_cases hk0 : 0 < k
   ·have lk : (0 : Int) < (k : Int):=by omega
    have a0:=rsa S (⟨#[44,32]⟩ : ByteArray) (by rw [s1];omega)
    obtain ⟨S2,hS2⟩:=xe (S ++ (⟨#[44,32]⟩ : ByteArray))
    have zS2 : S2.size <= 100000002:=by rw [hS2,bsa,s1];omega
    rw [<- hS2] at a0
    have HF : Hid (recL xCs ns P (k + 1) = (S2 ++ x ++ (⟨#[58,32]⟩ : ByteArray)) ++ Q):=by show _ = _;rw [HNX.out,if_pos hk0,hS2];rfl
    have a1:=rsa S2 x (by omega)
    have a2:=rsa (S2 ++ x) (⟨#[58,32]⟩ : ByteArray) (by rw [bsa,s2];omega)
    have a3:=rsa (S2 ++ x ++ (⟨#[58,32]⟩ : ByteArray)) Q (by rw [bsa,bsa,s2];omega)
    have HC':=HC.out wr.drew HW.out.drew
    clear hS2 HNX
    go_wp2
    go_region_held3 (fun w'=>w'.cell? ⟨w.heap.size,3,none⟩ = some (.slice (some ⟨pb,0,none⟩) n X.2.c) /\ w'.cell? ⟨pb,k,none⟩ = some (.string x) /\ w'.cell? ⟨go,k,none⟩ = some (.int .i64 (q : Int))) (go_keep) ((go_at_call 65;(with_reducible refine HC'.mono ?_);rintro e5 w5 ⟨rfl,HW5⟩;obtain ⟨u0,u1,u2⟩:=HCC.out w5 HW5.out))
    all_goals
     go_wp2
     go_roundw
     case rel=>exact ⟨k + 1,by omega,by go_num,by rw [HF.out],HW5⟩
     case measure=>simp [intOf];omega
   ·have lk : ¬ (0 : Int) < (k : Int):=by omega
    have HF : Hid (recL xCs ns P (k + 1) = (S ++ x ++ (⟨#[58,32]⟩ : ByteArray)) ++ Q):=by show _ = _;rw [HNX.out,if_neg hk0];rfl
    have a1:=rsa S x (by omega)
    have a2:=rsa (S ++ x) (⟨#[58,32]⟩ : ByteArray) (by rw [bsa,s2];omega)
    have a3:=rsa (S ++ x ++ (⟨#[58,32]⟩ : ByteArray)) Q (by rw [bsa,bsa,s2];omega)
    have HC':=HC.out wr.drew HW.out.drew
    clear HNX
    go_wp2
    go_region_held3 (fun w'=>w'.cell? ⟨w.heap.size,3,none⟩ = some (.slice (some ⟨pb,0,none⟩) n X.2.c) /\ w'.cell? ⟨pb,k,none⟩ = some (.string x) /\ w'.cell? ⟨go,k,none⟩ = some (.int .i64 (q : Int))) (go_keep) ((go_at_call 65;(with_reducible refine HC'.mono ?_);rintro e5 w5 ⟨rfl,HW5⟩;obtain ⟨u0,u1,u2⟩:=HCC.out w5 HW5.out))
    all_goals
     go_wp2
     go_roundw
     case rel=>exact ⟨k + 1,by omega,by go_num,by rw [HF.out],HW5⟩
     case measure=>simp [intOf];omega
  ·have hkn : k = n:=by omega
   subst hkn
   have s1 : (⟨#[125]⟩ : ByteArray).size = 1:=rfl
   have HF : Hid (r = recL xCs ns P k ++ (⟨#[125]⟩ : ByteArray)):=by show _ = _;rw [HR.out];rfl
   have a1:=rsa (recL xCs ns P k) (⟨#[125]⟩ : ByteArray) (by rw [s1];omega)
   have HWw : Hid (Bw w wr):=HB2.out.trans (HW.out.mono HB2.out.size)
   go_wp2
   go_ret
   exact ⟨by rw [HF.out];rfl,HWw.out⟩
theorem v_printT {xs : List (TI × NPl)} {l : List TI} {a : Option Addr} {c : Nat} : ∀ e,PTH xs l e -> e < xs.length -> PTC xs l a c e:=by
 intro e
 induction e using Nat.strongRecOn with
 | _ e ih=>
   intro H he
   have IH : ∀ q,q < e -> PTC xs l a c q:=fun q hq=>ih q hq ⟨H.is,fun j hj=>H.ar j (by omega),H.vk.mono (by omega),fun k hk=>H.sz k (by omega)⟩ (by omega)
   obtain ⟨f,hf,_⟩:=H.item he (nlr _)
   rcases fT_cases hf with z | z | z | z | z | z
   ·exact v_printT_small H he hf (Or.inl z)
   ·exact v_printT_small H he hf (Or.inr (Or.inl z))
   ·exact v_printT_small H he hf (Or.inr (Or.inr (Or.inl z)))
   ·exact v_printT_small H he hf (Or.inr (Or.inr (Or.inr z)))
   ·exact v_printT_rec H he (by rw [hf,z.2]) z.1 IH
   ·exact v_printT_fun H he (by rw [hf,z.2]) z.1 IH
end Go.Proofs.YtcehppndpccldaaGreatDoor
