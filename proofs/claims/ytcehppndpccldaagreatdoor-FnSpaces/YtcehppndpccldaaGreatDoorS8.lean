/-
  M8
-/
import Derived.Test.YtcehppndpccldaaGreatDoorS7
set_option maxHeartbeats 4000000
set_option maxRecDepth 100000
namespace Go.Proofs.YtcehppndpccldaaGreatDoor
open Go.RowKit
def ESt (B P tb o : Nat) (ts : List TK) (eT : TypeId) (eV : Value) (w : World) (v : Value) (xs : List (EI × EPl)) (l : List EI) (j : Nat) (v1 : Value) (wr : World) : Prop:=
 But (P :: v.ownBlock.toList) w wr /\ ∃ ys,OE B wr v1 (xs ++ ys) /\ ys.map Prod.fst = l /\ PsAt wr P tb o j ts eT eV /\ (∀ b,v1.ownBlock = some b -> v.ownBlock = some b \/ w.heap.size <= b) /\ ∀ b,b ∈ eisB ys -> w.heap.size <= b
theorem ExR.some {B P tb o : Nat} {ts : List TK} {eT : TypeId} {eV : Value} {w : World} {v : Value} {xs : List (EI × EPl)} {l : List EI} {j : Nat} {e : Ending} {w' : World} (h : ExR B P tb o ts eT eV w v xs (some (l,j)) e w') : ∃ v',e = .returned v' /\ ESt B P tb o ts eT eV w v xs l j v' w':=by
 obtain ⟨hb,v',ys,he,r⟩:=h
 exact ⟨v',he,hb,ys,r⟩
theorem ESt.ret {B P tb o : Nat} {ts : List TK} {eT : TypeId} {eV : Value} {w : World} {v : Value} {xs : List (EI × EPl)} {l : List EI} {j : Nat} {v' : Value} {w' : World} (h : ESt B P tb o ts eT eV w v xs l j v' w') : ExR B P tb o ts eT eV w v xs (some (l,j)) (.returned v') w':=by
 obtain ⟨hb,ys,r⟩:=h
 exact ⟨hb,v',ys,rfl,r⟩
theorem ESt.ps {B P tb o : Nat} {ts : List TK} {eT : TypeId} {eV : Value} {w : World} {v : Value} {xs : List (EI × EPl)} {l : List EI} {j : Nat} {v' : Value} {w' : World} (h : ESt B P tb o ts eT eV w v xs l j v' w') : PsAt w' P tb o j ts eT eV:=by
 obtain ⟨hb,ys,_,_,h,_⟩:=h
 exact h
theorem est_start {B P tb o : Nat} {ts : List TK} {eT : TypeId} {eV : Value} {w : World} {v : Value} {xs : List (EI × EPl)} {i : Nat} (hp : PsAt w P tb o i ts eT eV) (ho : OE B w v xs) : ESt B P tb o ts eT eV w v xs [] i v w:=
 ⟨But.refl _ _,[],by rw [List.append_nil];exact ho,rfl,hp,fun b e=>Or.inl e,fun b hb=>by cases hb⟩
theorem ESt.low {B P tb o : Nat} {ts : List TK} {eT : TypeId} {eV : Value} {w : World} {v : Value} {xs : List (EI × EPl)} {l : List EI} {j k : Nat} {v1 : Value} {wr w2 : World} (h : ESt B P tb o ts eT eV w v xs l j v1 wr) (hP : P < B) (hb : But [P] wr w2) (hp : PsAt w2 P tb o k ts eT eV) : ESt B P tb o ts eT eV w v xs l k v1 w2:=by
 obtain ⟨h1,ys,h2,h3,h4,h5,h6⟩:=h
 exact ⟨h1.then_ (hb.more (fun k z=>by rw [ms1 z];simp)),ys,h2.low hb (fun b z=>by rw [ms1 z];exact Or.inl hP),h3,hp,h5,h6⟩
theorem ESt.low_but {B P tb o : Nat} {ts : List TK} {eT : TypeId} {eV : Value} {w : World} {v : Value} {xs : List (EI × EPl)} {l : List EI} {j : Nat} {v1 : Value} {wr w2 : World} (h : ESt B P tb o ts eT eV w v xs l j v1 wr) (hb : But [P] wr w2) : But (P :: v.ownBlock.toList) w w2:=
 h.1.then_ (hb.more (fun k z=>by rw [ms1 z];simp))
theorem ESt.read {B P tb o : Nat} {ts : List TK} {eT : TypeId} {eV : Value} {w : World} {v : Value} {xs : List (EI × EPl)} {l : List EI} {j : Nat} {v1 : Value} {wr : World} (h : ESt B P tb o ts eT eV w v xs l j v1 wr) :
  ∃ zs : List (EI × EPl),OE B wr v1 zs /\ zs.length = xs.length + l.length /\ ∀ r e w2,ExR B P tb o ts eT eV wr v1 zs r e w2 -> But (P :: v.ownBlock.toList) w w2 /\ (r = none -> e = .panicked [{ v:=.iface eT eV,recovered:=false }]) /\ ∀ l2 k,r = some (l2,k) -> ∃ v2,e = .returned v2 /\ ESt B P tb o ts eT eV w v xs (l ++ l2) k v2 w2:=by
 obtain ⟨h1,ys,h2,h3,h4,h5,h6⟩:=h
 refine ⟨xs ++ ys,h2,by rw [lap,<- h3,List.length_map],fun r e w2 hr=>?_⟩
 obtain ⟨b2,hr⟩:=hr
 have hb : But (P :: v.ownBlock.toList) w w2:=h1.trans b2 (fun k z hk=>by
  simp only [List.mem_cons,Option.mem_toList] at z ⊢
  rcases z with z | z
  ·exact Or.inl z
  ·rcases h5 k z with q | q
   ·exact Or.inr q
   ·omega)
 have hs:=h1.size
 refine ⟨hb,fun e1=>by rw [e1] at hr;exact hr,fun l2 k e1=>?_⟩
 rw [e1] at hr
 obtain ⟨v2,us,he,o2,m2,p2,g2,n2⟩:=hr
 refine ⟨v2,he,hb,ys ++ us,by rw [<- List.append_assoc];exact o2,by rw [List.map_append,h3,m2],p2,fun b e=>?_,fun b z=>?_⟩
 ·rcases g2 b e with q | q
  ·exact h5 b q
  ·exact Or.inr (by omega)
 ·rw [eisB_append] at z
  rcases List.mem_append.1 z with q | q
  ·exact h6 b q
  ·have:=n2 b q;omega
theorem ESt.own {B P tb o : Nat} {ts : List TK} {eT : TypeId} {eV : Value} {w : World} {v : Value} {xs : List (EI × EPl)} {l : List EI} {j : Nat} {v1 : Value} {wr : World} (h : ESt B P tb o ts eT eV w v xs l j v1 wr) (hP : P < B) (htb : tb < B) :
  ∃ (va : Option Addr) (n vc : Nat) (C : List Value),v1 = .slice va n vc /\ n = xs.length + l.length /\ wr.ownsRow B 70 6 v1 n C /\ w.heap.size <= wr.heap.size /\
    (∀ (x : EI) (w5 : World) (gg cap3 : Nat) (ob : Obj),x.ns = [] -> x.ty = [] -> w5.ownsRow B 70 6 (.slice (some ⟨gg,0,none⟩) (n + 1) cap3) (n + 1) (C ++ eiC (x,ep0)) -> (wr.alloc ob).grownBy w5 v1.ownBlock -> (v1.ownBlock = some gg \/ gg = wr.heap.size + 1) ->
     ESt B P tb o ts eT eV w v xs (l ++ [x]) j (.slice (some ⟨gg,0,none⟩) (n + 1) cap3) w5):=by
 obtain ⟨h1,ys,h2,h3,h4,h5,h6⟩:=h
 obtain ⟨va,vc,hv⟩:=own_form h2.own
 have hl : (xs ++ ys).length = xs.length + l.length:=by rw [lap,<- h3,List.length_map]
 refine ⟨va,(xs ++ ys).length,vc,eisC (xs ++ ys),hv,hl,h2.own,h1.size,fun x w5 gg cap3 ob e1 e2 hown hg hat=>?_⟩
 have nb:=ei_bare B wr e1 e2
 have z:=ex_end (ys:=ys) (x:=(x,ep0)) hP htb (v:=v) h2 h4 h1 h5 hown hg hat nb.1 (fun b hb=>by rw [nb.2] at hb;cases hb) (by rw [nb.2];exact List.nodup_nil) h6 (fun b hb=>by rw [nb.2] at hb;cases hb)
 rw [h3] at z
 obtain ⟨v',e,r⟩:=ExR.some z
 simp only [Ending.returned.injEq] at e
 subst e
 exact r
theorem postL_go {ts : List TK} {E : Nat -> Option (List EI × Nat)} {g j : Nat} {its : List EI} (hg : 0 < g) : postL ts E g its j =
  if isT ts j sDot then
   (if isC ts (j + 1) 1 then postL ts E (g - 1) (its ++ [⟨5,0,e0,tx ts (j + 1),[],[]⟩]) (j + 2) else none)
  else if isT ts j sLeft then
   (match brkP ts E (j + 1) with
   | none=>none
   | some (l,k)=>postL ts E (g - 1) (its ++ l ++ [exO 7]) k)
  else some (its,j):=by
 cases g with
 | zero=>omega
 | succ g=>rw [postL];rfl
theorem sumL_go {st : Bool} {ts : List TK} {E : Nat -> Option (List EI × Nat)} {g j : Nat} {its : List EI} (hg : 0 < g) : sumL st ts E g its j =
  if isT ts j sPlus then
   (match postP st ts E (j + 1) with
   | none=>none
   | some (l,k)=>sumL st ts E (g - 1) (its ++ l ++ [exO 9]) k)
  else some (its,j):=by
 cases g with
 | zero=>omega
 | succ g=>rw [sumL];rfl
structure PL (B P tb o : Nat) (ts : List TK) (eT : TypeId) (eV : Value) (w : World) (v : Value) (xs : List (EI × EPl)) (R : Option (List EI × Nat)) (L : Nat -> List EI -> Nat -> Option (List EI × Nat)) (i : Nat) (j g : Nat) (l : List EI) (v1 : Value) (wr : World) : Prop where
 eq : R = L g l j
 fuel : ts.length < g + j
 len : xs.length + l.length <= j
 far : i < j
 st : ESt B P tb o ts eT eV w v xs l j v1 wr
theorem p_post {B P tb o : Nat} {ts : List TK} {eT : TypeId} {eV : Value} {f : Nat} (HN : NumC ts) (IH : ExC B P tb o ts eT eV f) (hP : P < B) (htb : tb < B) {i : Nat} {w : World} {v : Value} {xs : List (EI × EPl)} (hps : PsAt w P tb o i ts eT eV) (hot : OE B w v xs) (hxi : xs.length <= i) (hB : B <= w.heap.size) (hf : ts.length - i < f + 1) :
  Calls Tryz.prog 140 #[.pointer (some ⟨P,0,none⟩),v] w (ExR B P tb o ts eT eV w v xs (postP true ts (exP true ts f) i)):=by
 have HIH : Hid (ExC B P tb o ts eT eV f):=IH
 have CA:=p_atom HN IH hP htb hps hot hxi hB hf
 have hn:=hps.tk.len
 clear IH hps hot
 obtain ⟨i0,hi0,hz0,hz1,hz2⟩:=info_parts Tryz.infoEI
 go_enter Tryz.func140,Tryz.ntmps140
 go_wp2_with fail
 refine CA.mono ?_
 clear CA
 intro e w1 hT
 obtain ⟨r,hr⟩:=xe (atomP true ts (exP true ts f) i)
 have HAR : Hid (atomP true ts (exP true ts f) i = r):=hr.symm
 rw [<- hr] at hT
 clear hr
 cases r with
 | none=>
   obtain ⟨b1,hT⟩:=hT
   have hT : e = .panicked [{ v:=.iface eT eV,recovered:=false }]:=hT
   subst hT
   have HB1 : Hid (But (P :: v.ownBlock.toList) w w1):=b1
   have HR : Hid (postP true ts (exP true ts f) i = none):=by show _ = _;unfold postP;rw [HAR.out]
   clear b1
   go_wp2
   exact ⟨rfl,by rw [HR.out];exact ⟨HB1.out,rfl⟩⟩
 | some r=>
   obtain ⟨l,j⟩:=r
   obtain ⟨v1,rfl,S1⟩:=ExR.some hT
   obtain ⟨f1,f2,f3⟩:=atom_far (ex_far f) _ _ _ HAR.out
   have HL : Hid (PL B P tb o ts eT eV w v xs (postP true ts (exP true ts f) i) (fun g l j=>postL ts (exP true ts f) g l j) i j (ts.length + 1) l v1 w1):=⟨by unfold postP;rw [HAR.out],by omega,by omega,f2,S1⟩
   clear hT S1
   go_wp2
   go_loopw [1] (fun s1 wr=>∃ (v1 : Value) (j g : Nat) (l : List EI),s1 = v1 /\ Hid (PL B P tb o ts eT eV w v xs (postP true ts (exP true ts f) i) (fun g l j=>postL ts (exP true ts f) g l j) i j g l v1 wr)) (fun _ wr=>lenAt wr P 0)
   case atStart=>exact ⟨v1,j,ts.length + 1,l,rfl,HL⟩
   case round=>
   obtain ⟨v1,j,g,l,rfl,H⟩:=hrel
   clear HL HAR
   have hjn:=H.out.st.ps.le
   have hg : 0 < g:=by have:=H.out.fuel;omega
   have HME : Hid (lenAt wr P 0 = ts.length - j):=ps_len H.out.st.ps
   have hlen:=H.out.len
   have hfar:=H.out.far
   have hws : w.heap.size <= wr.heap.size:=H.out.st.1.size
   have HEQ : Hid (postP true ts (exP true ts f) i = _):=H.out.eq.trans (postL_go hg)
   go_wp2_with fail
   cases hd : isT ts j sDot
   case true=>
    refine (p_comes ⟨#[46]⟩ wr H.out.st.ps hd).mono ?_
    rintro e w2 ⟨rfl,p2,b2⟩
    have S2:=H.out.st.low hP b2 p2
    go_wp2_with fail
    cases hc : isC ts (j + 1) 1
    case false=>
     have HR : Hid (postP true ts (exP true ts f) i = none):=by show _ = _;rw [HEQ.out,hd,hc];rfl
     refine (p_name_no w2 p2 hc).mono ?_
     rintro e w3 ⟨rfl,b3⟩
     have HBB : Hid (But (P :: v.ownBlock.toList) w w3):=S2.low_but b3
     clear hd hc p2 b2 S2 b3
     go_wp2
     exact ⟨rfl,by rw [HR.out];exact ⟨HBB.out,rfl⟩⟩
    refine (p_name w2 p2 hc).mono ?_
    rintro e w3 ⟨rfl,p3,b3⟩
    have S3:=S2.low hP b3 p3
    have hs3:=S3.1.size
    obtain ⟨va,n,vc,C,hv,hnn,OW,hwz,push⟩:=S3.own hP htb
    subst hv
    have hnb : n <= 3000:=by rw [hnn];(try simp only [lap]);omega
    clear hnn
    have hjl:=p3.le
    clear p2 b2 S2 b3 p3 S3
    go_wp2_with (first | (at_builtin;refine wpList_append_lies _ rfl _ _ 44 rfl B 70 i0 _ 6 96 Tryz.underlying44 hi0 hz0 hz1 hz2 rfl (by omega) (.slice va n vc) n C rfl (OW.alloc _) ⟨w3.heap.size,0,none⟩ 1 1 [.int .i64 5,.int .i64 0,.string ⟨#[]⟩,.string (tx ts (j + 1)),.slice none 0 0,.slice none 0 0] rfl rfl (World.news_of_block (cs:=#[.int .i64 5,.int .i64 0,.string ⟨#[]⟩,.string (tx ts (j + 1)),.slice none 0 0,.slice none 0 0]) (t:=70) (fr:=(0,0)) (heap_alloc_new w3 _)) (by simp [Value.oneCell']) (by omega) (by unfold maxLen;omega) (by omega) (by simp;omega) (w3.heap.size + 1) (by simp) ?_;intro gg cap3 w5 hown3 hg3 hat3 hlt3))
    have HST : Hid (ESt B P tb o ts eT eV w v xs (l ++ [⟨5,0,e0,tx ts (j + 1),[],[]⟩]) (j + 2) (.slice (some ⟨gg,0,none⟩) (n + 1) cap3) w5):=push ⟨5,0,e0,tx ts (j + 1),[],[]⟩ w5 gg cap3 _ rfl rfl hown3 hg3 hat3
    have HL : Hid (PL B P tb o ts eT eV w v xs (postP true ts (exP true ts f) i) (fun g l j=>postL ts (exP true ts f) g l j) i (j + 2) (g - 1) (l ++ [⟨5,0,e0,tx ts (j + 1),[],[]⟩]) (.slice (some ⟨gg,0,none⟩) (n + 1) cap3) w5):=by
     refine ⟨?_,by have:=H.out.fuel;omega,by simp;omega,by omega,HST.out⟩
     rw [HEQ.out,hd,hc];rfl
    have HM5 : Hid (lenAt w5 P 0 = ts.length - (j + 2)):=ps_len HST.out.ps
    clear hd hc hown3 hg3 hat3 push OW
    go_wp2
    go_roundw
    case rel=>exact ⟨_,j + 2,g - 1,_,rfl,HL⟩
    case measure=>rw [HM5.out,HME.out];omega
   refine (p_comes_no ⟨#[46]⟩ wr H.out.st.ps hd).mono ?_
   rintro e w2 ⟨rfl,rfl⟩
   go_wp2_with fail
   cases hl : isT ts j sLeft
   case false=>
    have HR : Hid (postP true ts (exP true ts f) i = some (l,j)):=by show _ = _;rw [HEQ.out,hd,hl];rfl
    refine (p_comes_no ⟨#[40]⟩ wr H.out.st.ps hl).mono ?_
    rintro e w2 ⟨rfl,rfl⟩
    clear hd hl
    go_wp2
    go_ret
    rw [HR.out]
    exact H.out.st.ret
   refine (p_comes ⟨#[40]⟩ wr H.out.st.ps hl).mono ?_
   rintro e w2 ⟨rfl,p2,b2⟩
   have hjl:=isT_lt hl
   have S2:=H.out.st.low hP b2 p2
   obtain ⟨zs,hO,hzl,rd⟩:=S2.read
   have hs2:=S2.1.size
   have CE:=HIH.out (j + 1) w2 _ zs p2 hO (by omega) (by omega) (by omega)
   clear p2 b2 S2 hO
   go_wp2_with fail
   refine CE.mono ?_
   clear CE
   intro e w3 hT
   obtain ⟨b3,no3,yes3⟩:=rd _ _ _ hT
   obtain ⟨r,hr⟩:=xe (exP true ts f (j + 1))
   have HER : Hid (exP true ts f (j + 1) = r):=hr.symm
   have HB3 : Hid (But (P :: v.ownBlock.toList) w w3):=b3
   rw [<- hr] at no3 yes3
   clear hr hT rd b3
   cases r with
   | none=>
     have hT:=no3 rfl
     subst hT
     have HR : Hid (postP true ts (exP true ts f) i = none):=by
      show _ = _
      rw [HEQ.out,hd,hl]
      have e1 : brkP ts (exP true ts f) (j + 1) = none:=by unfold brkP;rw [HER.out]
      rw [e1];rfl
     clear hd hl no3 yes3
     go_wp2
     exact ⟨rfl,by rw [HR.out];exact ⟨HB3.out,rfl⟩⟩
   | some r=>
     obtain ⟨l2,k⟩:=r
     obtain ⟨v2,rfl,S3⟩:=yes3 l2 k rfl
     obtain ⟨g1,g2,g3⟩:=ex_far f _ _ _ HER.out
     have HS3 : Hid (ESt B P tb o ts eT eV w v xs (l ++ l2) k v2 w3):=S3
     clear no3 yes3 S3
     go_wp2_with fail
     cases hr : isT ts k sRight
     case false=>
      have HR : Hid (postP true ts (exP true ts f) i = none):=by
       show _ = _
       rw [HEQ.out,hd,hl]
       have e1 : brkP ts (exP true ts f) (j + 1) = none:=by
        unfold brkP
        rw [HER.out]
        show (if isT ts k sRight = true then _ else none) = none
        rw [hr];rfl
       rw [e1];rfl
      refine (p_need_no ⟨#[41]⟩ w3 HS3.out.ps hr).mono ?_
      rintro e w4 ⟨rfl,rfl⟩
      clear hd hl hr
      go_wp2
      exact ⟨rfl,by rw [HR.out];exact ⟨HB3.out,rfl⟩⟩
     refine (p_need ⟨#[41]⟩ w3 HS3.out.ps hr).mono ?_
     rintro e w4 ⟨rfl,p4,b4⟩
     have S4:=HS3.out.low hP b4 p4
     have hkl:=p4.le
     have hs4:=S4.1.size
     obtain ⟨va,n,vc,C,hv,hnn,OW,hwz,push⟩:=S4.own hP htb
     subst hv
     have hnb : n <= 3000:=by rw [hnn];(try simp only [lap]);omega
     clear hnn
     clear p4 b4 S4
     go_wp2_with (first | (at_builtin;refine wpList_append_lies _ rfl _ _ 44 rfl B 70 i0 _ 6 96 Tryz.underlying44 hi0 hz0 hz1 hz2 rfl (by omega) (.slice va n vc) n C rfl (OW.alloc _) ⟨w4.heap.size,0,none⟩ 1 1 [.int .i64 7,.int .i64 0,.string ⟨#[]⟩,.string ⟨#[]⟩,.slice none 0 0,.slice none 0 0] rfl rfl (World.news_of_block (cs:=#[.int .i64 7,.int .i64 0,.string ⟨#[]⟩,.string ⟨#[]⟩,.slice none 0 0,.slice none 0 0]) (t:=70) (fr:=(0,0)) (heap_alloc_new w4 _)) (by simp [Value.oneCell']) (by omega) (by unfold maxLen;omega) (by omega) (by simp;omega) (w4.heap.size + 1) (by simp) ?_;intro gg cap3 w5 hown3 hg3 hat3 hlt3))
     have HST : Hid (ESt B P tb o ts eT eV w v xs (l ++ l2 ++ [exO 7]) (k + 1) (.slice (some ⟨gg,0,none⟩) (n + 1) cap3) w5):=push (exO 7) w5 gg cap3 _ rfl rfl hown3 hg3 hat3
     have HL : Hid (PL B P tb o ts eT eV w v xs (postP true ts (exP true ts f) i) (fun g l j=>postL ts (exP true ts f) g l j) i (k + 1) (g - 1) (l ++ l2 ++ [exO 7]) (.slice (some ⟨gg,0,none⟩) (n + 1) cap3) w5):=by
      refine ⟨?_,by have:=H.out.fuel;omega,by simp;omega,by omega,HST.out⟩
      rw [HEQ.out,hd,hl]
      have e1 : brkP ts (exP true ts f) (j + 1) = some (l2,k + 1):=by
       unfold brkP
       rw [HER.out]
       show (if isT ts k sRight = true then _ else none) = _
       rw [hr];rfl
      rw [e1];rfl
     have HM5 : Hid (lenAt w5 P 0 = ts.length - (k + 1)):=ps_len HST.out.ps
     clear hd hl hr hown3 hg3 hat3 push OW
     go_wp2
     go_roundw
     case rel=>exact ⟨_,k + 1,g - 1,_,rfl,HL⟩
     case measure=>rw [HM5.out,HME.out];omega
theorem p_sum {B P tb o : Nat} {ts : List TK} {eT : TypeId} {eV : Value} {f : Nat} (HN : NumC ts) (IH : ExC B P tb o ts eT eV f) (hP : P < B) (htb : tb < B) {i : Nat} {w : World} {v : Value} {xs : List (EI × EPl)} (hps : PsAt w P tb o i ts eT eV) (hot : OE B w v xs) (hxi : xs.length <= i) (hB : B <= w.heap.size) (hf : ts.length - i < f + 1) :
  Calls Tryz.prog 115 #[.pointer (some ⟨P,0,none⟩),v] w (ExR B P tb o ts eT eV w v xs (sumP true ts (exP true ts f) i)):=by
 have HIH : Hid (ExC B P tb o ts eT eV f):=IH
 have HNU : Hid (NumC ts):=HN
 have CA:=p_post HN IH hP htb hps hot hxi hB hf
 have hn:=hps.tk.len
 clear IH hps hot HN
 obtain ⟨i0,hi0,hz0,hz1,hz2⟩:=info_parts Tryz.infoEI
 go_enter Tryz.func115,Tryz.ntmps115
 go_wp2_with fail
 refine CA.mono ?_
 clear CA
 intro e w1 hT
 obtain ⟨r,hr⟩:=xe (postP true ts (exP true ts f) i)
 have HAR : Hid (postP true ts (exP true ts f) i = r):=hr.symm
 rw [<- hr] at hT
 clear hr
 cases r with
 | none=>
   obtain ⟨b1,hT⟩:=hT
   have hT : e = .panicked [{ v:=.iface eT eV,recovered:=false }]:=hT
   subst hT
   have HB1 : Hid (But (P :: v.ownBlock.toList) w w1):=b1
   have HR : Hid (sumP true ts (exP true ts f) i = none):=by show _ = _;unfold sumP;rw [HAR.out]
   clear b1
   go_wp2
   exact ⟨rfl,by rw [HR.out];exact ⟨HB1.out,rfl⟩⟩
 | some r=>
   obtain ⟨l,j⟩:=r
   obtain ⟨v1,rfl,S1⟩:=ExR.some hT
   obtain ⟨f1,f2,f3⟩:=post_far (ex_far f) _ _ _ HAR.out
   have HL : Hid (PL B P tb o ts eT eV w v xs (sumP true ts (exP true ts f) i) (fun g l j=>sumL true ts (exP true ts f) g l j) i j (ts.length + 1) l v1 w1):=⟨by unfold sumP;rw [HAR.out],by omega,by omega,f2,S1⟩
   clear hT S1
   go_wp2
   go_loopw [1] (fun s1 wr=>∃ (v1 : Value) (j g : Nat) (l : List EI),s1 = v1 /\ Hid (PL B P tb o ts eT eV w v xs (sumP true ts (exP true ts f) i) (fun g l j=>sumL true ts (exP true ts f) g l j) i j g l v1 wr)) (fun _ wr=>lenAt wr P 0)
   case atStart=>exact ⟨v1,j,ts.length + 1,l,rfl,HL⟩
   case round=>
   obtain ⟨v1,j,g,l,rfl,H⟩:=hrel
   clear HL HAR
   have hjn:=H.out.st.ps.le
   have hg : 0 < g:=by have:=H.out.fuel;omega
   have HME : Hid (lenAt wr P 0 = ts.length - j):=ps_len H.out.st.ps
   have hlen:=H.out.len
   have hfar:=H.out.far
   have hws : w.heap.size <= wr.heap.size:=H.out.st.1.size
   have HEQ : Hid (sumP true ts (exP true ts f) i = _):=H.out.eq.trans (sumL_go hg)
   go_wp2_with fail
   cases hl : isT ts j sPlus
   case false=>
    have HR : Hid (sumP true ts (exP true ts f) i = some (l,j)):=by show _ = _;rw [HEQ.out,hl];rfl
    refine (p_comes_no ⟨#[43]⟩ wr H.out.st.ps hl).mono ?_
    rintro e w2 ⟨rfl,rfl⟩
    clear hl
    go_wp2
    go_ret
    rw [HR.out]
    exact H.out.st.ret
   refine (p_comes ⟨#[43]⟩ wr H.out.st.ps hl).mono ?_
   rintro e w2 ⟨rfl,p2,b2⟩
   have hjl:=isT_lt hl
   have S2:=H.out.st.low hP b2 p2
   obtain ⟨zs,hO,hzl,rd⟩:=S2.read
   have hs2:=S2.1.size
   have CE:=p_post HNU.out HIH.out hP htb p2 hO (by omega) (by omega) (by omega)
   clear p2 b2 S2 hO
   go_wp2_with fail
   refine CE.mono ?_
   clear CE
   intro e w3 hT
   obtain ⟨b3,no3,yes3⟩:=rd _ _ _ hT
   obtain ⟨r,hr⟩:=xe (postP true ts (exP true ts f) (j + 1))
   have HER : Hid (postP true ts (exP true ts f) (j + 1) = r):=hr.symm
   have HB3 : Hid (But (P :: v.ownBlock.toList) w w3):=b3
   rw [<- hr] at no3 yes3
   clear hr hT rd b3
   cases r with
   | none=>
     have hT:=no3 rfl
     subst hT
     have HR : Hid (sumP true ts (exP true ts f) i = none):=by show _ = _;rw [HEQ.out,hl,HER.out];rfl
     clear hl no3 yes3
     go_wp2
     exact ⟨rfl,by rw [HR.out];exact ⟨HB3.out,rfl⟩⟩
   | some r=>
     obtain ⟨l2,k⟩:=r
     obtain ⟨v2,rfl,S4⟩:=yes3 l2 k rfl
     obtain ⟨g1,g2,g3⟩:=post_far (ex_far f) _ _ _ HER.out
     have hs4:=S4.1.size
     obtain ⟨va,n,vc,C,hv,hnn,OW,hwz,push⟩:=S4.own hP htb
     subst hv
     have hnb : n <= 3000:=by rw [hnn];(try simp only [lap]);omega
     clear hnn
     clear no3 yes3 S4
     go_wp2_with (first | (at_builtin;refine wpList_append_lies _ rfl _ _ 44 rfl B 70 i0 _ 6 96 Tryz.underlying44 hi0 hz0 hz1 hz2 rfl (by omega) (.slice va n vc) n C rfl (OW.alloc _) ⟨w3.heap.size,0,none⟩ 1 1 [.int .i64 9,.int .i64 0,.string ⟨#[]⟩,.string ⟨#[]⟩,.slice none 0 0,.slice none 0 0] rfl rfl (World.news_of_block (cs:=#[.int .i64 9,.int .i64 0,.string ⟨#[]⟩,.string ⟨#[]⟩,.slice none 0 0,.slice none 0 0]) (t:=70) (fr:=(0,0)) (heap_alloc_new w3 _)) (by simp [Value.oneCell']) (by omega) (by unfold maxLen;omega) (by omega) (by simp;omega) (w3.heap.size + 1) (by simp) ?_;intro gg cap3 w5 hown3 hg3 hat3 hlt3))
     have HST : Hid (ESt B P tb o ts eT eV w v xs (l ++ l2 ++ [exO 9]) k (.slice (some ⟨gg,0,none⟩) (n + 1) cap3) w5):=push (exO 9) w5 gg cap3 _ rfl rfl hown3 hg3 hat3
     have HL : Hid (PL B P tb o ts eT eV w v xs (sumP true ts (exP true ts f) i) (fun g l j=>sumL true ts (exP true ts f) g l j) i k (g - 1) (l ++ l2 ++ [exO 9]) (.slice (some ⟨gg,0,none⟩) (n + 1) cap3) w5):=by
      refine ⟨?_,by have:=H.out.fuel;omega,by simp;omega,by omega,HST.out⟩
      rw [HEQ.out,hl,HER.out];rfl
     have HM5 : Hid (lenAt w5 P 0 = ts.length - k):=ps_len HST.out.ps
     clear hl hown3 hg3 hat3 push OW
     go_wp2
     go_roundw
     case rel=>exact ⟨_,k,g - 1,_,rfl,HL⟩
     case measure=>rw [HM5.out,HME.out];omega
theorem p_fun {B P tb o : Nat} {ts : List TK} {eT : TypeId} {eV : Value} {f : Nat} (IH : ExC B P tb o ts eT eV f) (hP : P < B) (htb : tb < B) {i : Nat} {w : World} {v : Value} {xs : List (EI × EPl)} (hps : PsAt w P tb o i ts eT eV) (hot : OE B w v xs) (hxi : xs.length <= i) (hB : B <= w.heap.size) (hf : ts.length - i < f) :
  Calls Tryz.prog 114 #[.pointer (some ⟨P,0,none⟩),v] w (ExR B P tb o ts eT eV w v xs (funP true ts (exP true ts f) i)):=by
 have HIH : Hid (ExC B P tb o ts eT eV f):=IH
 have HO : Hid (OE B w v xs):=hot
 have HP0 : Hid (PsAt w P tb o i ts eT eV):=hps
 have hn:=hps.tk.len
 have h00:=hps.pos
 clear IH hps hot
 obtain ⟨i0,hi0,hz0,hz1,hz2⟩:=info_parts Tryz.infoEI
 have HB0 : Hid (But (P :: v.ownBlock.toList) w w):=But.refl _ _
 go_enter Tryz.func114,Tryz.ntmps114
 go_wp2_with fail
 cases h1 : isT ts i sLeft
 case false=>
  have HR : Hid (funP true ts (exP true ts f) i = none):=by show _ = _;unfold funP;rw [h1];rfl
  refine (p_need_no ⟨#[40]⟩ w HP0.out h1).mono ?_
  rintro e w9 ⟨rfl,rfl⟩
  clear h1
  go_wp2
  exact ⟨rfl,by rw [HR.out];exact ⟨HB0.out,rfl⟩⟩
 refine (p_need ⟨#[40]⟩ w HP0.out h1).mono ?_
 rintro e w1 ⟨rfl,p1,b1⟩
 have HP1 : Hid (PsAt w1 P tb o (i + 1) ts eT eV):=p1
 have HB1 : Hid (But [P] w w1):=b1
 clear p1 b1
 go_wp2_with fail
 cases h2 : isC ts (i + 1) 1
 case false=>
  have HR : Hid (funP true ts (exP true ts f) i = none):=by show _ = _;unfold funP;rw [h1,h2];rfl
  refine (p_name_no w1 HP1.out h2).mono ?_
  rintro e w2 ⟨rfl,b2⟩
  have HBB : Hid (But (P :: v.ownBlock.toList) w w2):=(HB1.out.then_ b2).more (fun k z=>by rw [ms1 z];simp)
  clear h1 h2 b2
  go_wp2
  exact ⟨rfl,by rw [HR.out];exact ⟨HBB.out,rfl⟩⟩
 refine (p_name w1 HP1.out h2).mono ?_
 rintro e w2 ⟨rfl,p2,b2⟩
 have HP2 : Hid (PsAt w2 P tb o (i + 2) ts eT eV):=p2
 have HB2 : Hid (But [P] w w2):=HB1.out.then_ b2
 have HC2 : Hid (But (P :: v.ownBlock.toList) w w2):=HB2.out.more (fun k z=>by rw [ms1 z];simp)
 clear p2 b2
 go_wp2_with fail
 cases h3 : isT ts (i + 2) sColon
 case false=>
  have HR : Hid (funP true ts (exP true ts f) i = none):=by show _ = _;unfold funP;rw [h1,h2,h3];rfl
  refine (p_need_no ⟨#[58]⟩ w2 HP2.out h3).mono ?_
  rintro e w9 ⟨rfl,rfl⟩
  clear h1 h2 h3
  go_wp2
  exact ⟨rfl,by rw [HR.out];exact ⟨HC2.out,rfl⟩⟩
 refine (p_need ⟨#[58]⟩ w2 HP2.out h3).mono ?_
 rintro e w3 ⟨rfl,p3,b3⟩
 have HP3 : Hid (PsAt w3 P tb o (i + 3) ts eT eV):=p3
 have HB3 : Hid (But [P] w w3):=HB2.out.then_ b3
 have hs3:=HB3.out.size
 have i3:=isT_lt h3
 have CT:=ty_all (o:=o) (ts:=ts) (eT:=eT) (eV:=eV) hP htb (ts.length + 1) (i + 3) w3 (.slice none 0 0) [] p3 (OT.nil _ _) (Nat.zero_le _) (by omega) (by omega)
 clear p3 b3
 go_wp2_with fail
 refine CT.mono ?_
 clear CT
 intro e w4 hT
 obtain ⟨b4,hT⟩:=hT
 obtain ⟨r,hr⟩:=xe (tyP true ts (ts.length + 1) (i + 3))
 have HTR : Hid (tyP true ts (ts.length + 1) (i + 3) = r):=hr.symm
 rw [<- hr] at hT
 clear hr
 have b4' : But [P] w3 w4:=b4
 have HB4 : Hid (But [P] w w4):=HB3.out.then_ b4'
 have HC4 : Hid (But (P :: v.ownBlock.toList) w w4):=HB4.out.more (fun k z=>by rw [ms1 z];simp)
 cases r with
 | none=>
   have hT : e = .panicked [{ v:=.iface eT eV,recovered:=false }]:=hT
   subst hT
   have HR : Hid (funP true ts (exP true ts f) i = none):=by show _ = _;unfold funP;rw [h1,h2,h3,HTR.out];rfl
   clear h1 h2 h3 b4 b4'
   go_wp2
   exact ⟨rfl,by rw [HR.out];exact ⟨HC4.out,rfl⟩⟩
 | some r=>
   obtain ⟨t,j⟩:=r
   obtain ⟨v4,ys,rfl,O4,hl4,P4,gr4,nw4⟩:=hT
   rw [List.nil_append] at O4
   obtain ⟨f1,f2,f3⟩:=ty_far _ _ _ _ HTR.out
   obtain ⟨ta,tc,hv4⟩:=own_form O4.own
   obtain ⟨m,hm⟩:=xe (ys.length)
   rw [<- hm] at hv4
   subst hv4
   clear hm
   have HO4 : Hid (OT B w4 (.slice ta m tc) ys):=O4
   have HP4 : Hid (PsAt w4 P tb o j ts eT eV):=P4
   have HY4 : Hid (ys.map Prod.fst = t):=hl4
   have HG4 : Hid (∀ b,(Value.slice ta m tc).ownBlock = some b -> w3.heap.size <= b):=fun b e=>by
    rcases gr4 b e with q | q
    ·cases q
    ·exact q
   have HN4 : Hid (∀ b,b ∈ tisB ys -> w3.heap.size <= b):=nw4
   clear O4 P4 hl4 gr4 nw4 b4 b4'
   go_wp2_with fail
   cases h4 : isT ts j sRight
   case false=>
    have HR : Hid (funP true ts (exP true ts f) i = none):=by show _ = _;unfold funP;rw [h1,h2,h3,HTR.out];show (if isT ts j sRight = true then _ else none) = none;rw [h4];rfl
    refine (p_need_no ⟨#[41]⟩ w4 HP4.out h4).mono ?_
    rintro e w9 ⟨rfl,rfl⟩
    clear h1 h2 h3 h4
    go_wp2
    exact ⟨rfl,by rw [HR.out];exact ⟨HC4.out,rfl⟩⟩
   refine (p_need ⟨#[41]⟩ w4 HP4.out h4).mono ?_
   rintro e w5 ⟨rfl,p5,b5⟩
   have HB5 : Hid (But [P] w w5):=HB4.out.then_ b5
   have hs5:=HB5.out.size
   have hs45 : w4.heap.size <= w5.heap.size:=b5.size
   have HT5 : Hid (OT B w5 (.slice ta m tc) ys):=HO4.out.low b5 (fun b z=>by rw [ms1 z];exact Or.inl hP)
   have O5 : OE B w5 v xs:=HO.out.low HB5.out (fun b z=>by rw [ms1 z];exact Or.inl hP)
   have hjl:=isT_lt h4
   have CE:=HIH.out (j + 1) w5 v xs p5 O5 (by omega) (by omega) (by omega)
   clear p5 b5 O5
   go_wp2_with fail
   refine CE.mono ?_
   clear CE
   intro e w6 hT
   obtain ⟨b6,hT⟩:=hT
   obtain ⟨r,hr⟩:=xe (exP true ts f (j + 1))
   have HER : Hid (exP true ts f (j + 1) = r):=hr.symm
   rw [<- hr] at hT
   clear hr
   have HB6 : Hid (But (P :: v.ownBlock.toList) w w6):=(HB5.out.more (S':=P :: v.ownBlock.toList) (fun k z=>by rw [ms1 z];simp)).then_ b6
   cases r with
   | none=>
     have hT : e = .panicked [{ v:=.iface eT eV,recovered:=false }]:=hT
     subst hT
     have HR : Hid (funP true ts (exP true ts f) i = none):=by
      show _ = _
      unfold funP
      rw [h1,h2,h3,HTR.out]
      show (if isT ts j sRight = true then _ else none) = none
      rw [h4,HER.out];rfl
     clear h1 h2 h3 h4 b6
     go_wp2
     exact ⟨rfl,by rw [HR.out];exact ⟨HB6.out,rfl⟩⟩
   | some r=>
     obtain ⟨l,k⟩:=r
     obtain ⟨v6,zs,rfl,O6,hl6,P6,gr6,nw6⟩:=hT
     obtain ⟨g1,g2,g3⟩:=ex_far f _ _ _ HER.out
     have HR : Hid (funP true ts (exP true ts f) i = some (l ++ [⟨6,0,e0,tx ts (i + 1),[],t⟩],k)):=by
      show _ = _
      unfold funP
      rw [h1,h2,h3,HTR.out]
      show (if isT ts j sRight = true then _ else none) = _
      rw [h4,HER.out];rfl
     have hzl : zs.length = l.length:=by rw [<- hl6,List.length_map]
     obtain ⟨va',vc',hv6⟩:=own_form O6.own
     obtain ⟨n',hn'⟩:=xe ((xs ++ zs).length)
     have HN' : Hid (n' = (xs ++ zs).length):=hn'
     have hn9 : n' <= 3000:=by rw [hn',lap];omega
     rw [<- hn'] at hv6
     subst hv6
     clear hn'
     have low5 : ∀ b,w3.heap.size <= b -> b < w5.heap.size -> b ∉ P :: v.ownBlock.toList:=fun b h1 _ z=>by
      simp only [List.mem_cons,Option.mem_toList] at z
      rcases z with z | z
      ·omega
      ·have:=(HO.out.own.lt b z).2
       omega
     have HT6 : Hid (OT B w6 (.slice ta m tc) ys):=HT5.out.but b6 (fun b e=>low5 b (HG4.out b e) (HT5.out.own.lt b e).2) (fun b hb=>low5 b (HN4.out b hb) (HT5.out.names hb).2)
     have HO6 : Hid (OE B w6 (.slice va' n' vc') (xs ++ zs)):=O6
     have HP6 : Hid (PsAt w6 P tb o k ts eT eV):=P6
     have HY6 : Hid (zs.map Prod.fst = l):=hl6
     have HG6 : Hid (∀ b,(Value.slice va' n' vc').ownBlock = some b -> v.ownBlock = some b \/ w.heap.size <= b):=fun b e=>by
      rcases gr6 b e with q | q
      ·exact Or.inl q
      ·exact Or.inr (by omega)
     have HN6 : Hid (∀ b,b ∈ eisB zs -> w5.heap.size <= b):=nw6
     have HXB : Hid (∀ b,b ∈ eiB ((⟨6,0,e0,tx ts (i + 1),[],t⟩ : EI),(⟨⟨none,0,0⟩,.slice ta m tc,ys⟩ : EPl)) -> w3.heap.size <= b /\ b < w5.heap.size):=fun b hb=>by
      rcases mem_eiB hb with z | z | z
      ·exact absurd rfl z.1
      ·exact ⟨HG4.out b z,(HT5.out.own.lt b z).2⟩
      ·exact ⟨HN4.out b z,(HT5.out.names z).2⟩
     have hs6:=HB6.out.size
     have HOW : Hid (w6.ownsRow B 70 6 (.slice va' n' vc') n' (eisC (xs ++ zs))):=by have z:=O6.own;rw [<- HN'.out] at z;exact z
     clear h1 h2 h3 h4 b6 O6 hl6 P6 gr6 nw6 low5
     go_wp2_with (first | (at_builtin;refine wpList_append_lies _ rfl _ _ 44 rfl B 70 i0 _ 6 96 Tryz.underlying44 hi0 hz0 hz1 hz2 rfl (by omega) (.slice va' n' vc') (n') (eisC (xs ++ zs)) rfl (HOW.out.alloc _) ⟨w6.heap.size,0,none⟩ 1 1 [.int .i64 6,.int .i64 0,.string ⟨#[]⟩,.string (tx ts (i + 1)),.slice none 0 0,.slice ta m tc] rfl rfl (World.news_of_block (cs:=#[.int .i64 6,.int .i64 0,.string ⟨#[]⟩,.string (tx ts (i + 1)),.slice none 0 0,.slice ta m tc]) (t:=70) (fr:=(0,0)) (heap_alloc_new w6 _)) (by simp [Value.oneCell']) (by omega) (by unfold maxLen;omega) (by omega) (by simp;omega) (w6.heap.size + 1) (by simp) ?_;intro gg cap3 w5' hown3 hg3 hat3 hlt3))
     have FIN : Hid (ExR B P tb o ts eT eV w v xs (some (l ++ [⟨6,0,e0,tx ts (i + 1),[],t⟩],k)) (.returned (.slice (some ⟨gg,0,none⟩) (n' + 1) cap3)) w5'):=by
      have z:=ex_end (ys:=zs) (x:=(⟨6,0,e0,tx ts (i + 1),[],t⟩,⟨⟨none,0,0⟩,.slice ta m tc,ys⟩)) hP htb (v:=v) HO6.out HP6.out HB6.out HG6.out (by rw [<- HN'.out];exact hown3) hg3 hat3 ⟨NmOK.nil _ _ _,HT6.out,HY4.out⟩ (fun b hb z=>by
        obtain ⟨q1,q2⟩:=HXB.out b hb
        rw [eisB_append] at z
        rcases List.mem_append.1 z with q | q
        ·have:=(HO.out.names q).2
         omega
        ·have:=HN6.out b q
         omega) (by
        unfold eiB
        show (([] : List Nat) ++ ((Value.slice ta m tc).ownBlock.toList ++ tisB ys)).Nodup
        rw [List.nil_append]
        refine List.nodup_append.2 ⟨?_,HT6.out.nd,fun a ha b hb e=>?_⟩
        ·cases (Value.slice ta m tc).ownBlock <;> simp
        ·subst e
         exact HT6.out.sep hb (by simpa using ha)) (fun b hb=>by have:=HN6.out b hb;omega) (fun b hb=>by have:=(HXB.out b hb).1;omega)
      rw [<- HN'.out,HY6.out] at z
      exact z
     clear hown3 hg3 hat3
     go_wp2
     go_ret
     rw [HR.out]
     exact FIN.out
theorem expr_fun {B P tb o : Nat} {ts : List TK} {eT : TypeId} {eV : Value} {f : Nat} (IH : ExC B P tb o ts eT eV f) (hP : P < B) (htb : tb < B) {i : Nat} {w : World} {v : Value} {xs : List (EI × EPl)} (hps : PsAt w P tb o i ts eT eV) (hot : OE B w v xs) (hxi : xs.length <= i) (hB : B <= w.heap.size) (hf : ts.length - i < f + 1) (h1 : isT ts i sFun = true) :
  Calls Tryz.prog 83 #[.pointer (some ⟨P,0,none⟩),v] w (ExR B P tb o ts eT eV w v xs (exP true ts (f + 1) i)):=by
 have HR : Hid (exP true ts (f + 1) i = funP true ts (exP true ts f) (i + 1)):=by show _ = _;rw [exP,if_pos h1]
 have HIH : Hid (ExC B P tb o ts eT eV f):=IH
 have S0:=est_start hps hot
 have hi:=isT_lt h1
 clear IH
 go_enter Tryz.func83,Tryz.ntmps83
 go_wp2_with fail
 refine (p_comes ⟨#[102,117,110]⟩ w hps h1).mono ?_
 rintro e w1 ⟨rfl,p1,b1⟩
 have S1:=S0.low hP b1 p1
 obtain ⟨zs,hO,hzl,rd⟩:=S1.read
 have hsz:=S1.1.size
 rw [List.length_nil,Nat.add_zero] at hzl
 have CE:=p_fun HIH.out hP htb p1 hO (by omega) (by omega) (by omega)
 clear hO p1 b1 S1 S0 hps hot
 go_wp2_with fail
 refine CE.mono ?_
 clear CE
 intro e w2 hT
 obtain ⟨bb,no,yes⟩:=rd _ _ _ hT
 obtain ⟨r,hr⟩:=xe (funP true ts (exP true ts f) (i + 1))
 have HER : Hid (exP true ts (f + 1) i = r):=HR.out.trans hr.symm
 have HBB : Hid (But (P :: v.ownBlock.toList) w w2):=bb
 rw [<- hr] at no yes
 clear hr hT rd bb hzl
 cases r with
 | none=>
   have hT:=no rfl
   subst hT
   clear h1 no yes
   go_wp2
   exact ⟨rfl,by rw [HER.out];exact ⟨HBB.out,rfl⟩⟩
 | some r=>
   obtain ⟨l,k⟩:=r
   obtain ⟨v2,rfl,S2⟩:=yes l k rfl
   have HS2 : Hid (ESt B P tb o ts eT eV w v xs l k v2 w2):=S2
   clear h1 no yes S2
   go_wp2
   go_ret
   rw [HER.out]
   exact HS2.out.ret
theorem expr_if {B P tb o : Nat} {ts : List TK} {eT : TypeId} {eV : Value} {f : Nat} (IH : ExC B P tb o ts eT eV f) (hP : P < B) (htb : tb < B) {i : Nat} {w : World} {v : Value} {xs : List (EI × EPl)} (hps : PsAt w P tb o i ts eT eV) (hot : OE B w v xs) (hxi : xs.length <= i) (hB : B <= w.heap.size) (hf : ts.length - i < f + 1) (h1 : isT ts i sIf = true) :
  Calls Tryz.prog 83 #[.pointer (some ⟨P,0,none⟩),v] w (ExR B P tb o ts eT eV w v xs (exP true ts (f + 1) i)):=by
 have h0 : isT ts i sFun = false:=isT_one h1 (by decide)
 have HR0 : Hid (exP true ts (f + 1) i = ifP ts (exP true ts f) (i + 1)):=by show _ = _;rw [exP,h0,if_neg (by decide),if_pos h1]
 have HIH : Hid (ExC B P tb o ts eT eV f):=IH
 have S0:=est_start hps hot
 have hi:=isT_lt h1
 have hn:=hps.tk.len
 clear IH
 obtain ⟨i0,hi0,hz0,hz1,hz2⟩:=info_parts Tryz.infoEI
 go_enter Tryz.func83,Tryz.ntmps83
 go_wp2_with fail
 refine (p_comes_no ⟨#[102,117,110]⟩ w hps h0).mono ?_
 rintro e w1 ⟨rfl,rfl⟩
 go_wp2_with fail
 refine (p_comes ⟨#[105,102]⟩ w hps h1).mono ?_
 rintro e w1 ⟨rfl,p1,b1⟩
 have S1:=S0.low hP b1 p1
 clear b1 S0 hps hot h0 h1
 obtain ⟨zs,hO,hzl,rd⟩:=S1.read
 have hsz:=S1.1.size
 have CE:=HIH.out (i + 1) w1 _ zs p1 hO (by rw [hzl,List.length_nil];omega) (by omega) (by omega)
 clear hO p1 S1 hzl
 go_wp2_with fail
 refine CE.mono ?_
 clear CE
 intro e w2 hT
 obtain ⟨bb,no,yes⟩:=rd _ _ _ hT
 obtain ⟨r,hr⟩:=xe (exP true ts f (i + 1))
 have H1 : Hid (exP true ts f (i + 1) = r):=hr.symm
 have HBB : Hid (But (P :: v.ownBlock.toList) w w2):=bb
 rw [<- hr] at no yes
 clear hr hT rd bb
 cases r with
 | none=>
   have hT:=no rfl
   subst hT
   have HR : Hid (exP true ts (f + 1) i = none):=by
    show _ = _
    rw [HR0.out]
    unfold ifP
    rw [H1.out]
   clear no yes
   go_wp2
   exact ⟨rfl,by rw [HR.out];exact ⟨HBB.out,rfl⟩⟩
 | some r=>
   obtain ⟨c,j⟩:=r
   obtain ⟨v2,rfl,S2⟩:=yes c j rfl
   rw [List.nil_append] at S2
   obtain ⟨f1,f2,f3⟩:=ex_far f _ _ _ H1.out
   have HS2 : Hid (ESt B P tb o ts eT eV w v xs c j v2 w2):=S2
   clear no yes S2
   go_wp2_with fail
   cases h2 : isT ts j sThen
   case false=>
    have HR : Hid (exP true ts (f + 1) i = none):=by
     show _ = _
     rw [HR0.out]
     unfold ifP
     rw [H1.out]
     show (if isT ts j sThen = true then _ else none) = none
     rw [h2];rfl
    refine (p_need_no ⟨#[116,104,101,110]⟩ w2 HS2.out.ps h2).mono ?_
    rintro e w9 ⟨rfl,rfl⟩
    clear h2
    go_wp2
    exact ⟨rfl,by rw [HR.out];exact ⟨HBB.out,rfl⟩⟩
   have j1:=isT_lt h2
   refine (p_need ⟨#[116,104,101,110]⟩ w2 HS2.out.ps h2).mono ?_
   rintro e w3 ⟨rfl,p3,b3⟩
   have S3:=HS2.out.low hP b3 p3
   clear b3 HBB
   obtain ⟨zs,hO,hzl,rd⟩:=S3.read
   have hsz:=S3.1.size
   have CE:=HIH.out (j + 1) w3 _ zs p3 hO (by omega) (by omega) (by omega)
   clear hO p3 S3 hzl
   go_wp2_with fail
   refine CE.mono ?_
   clear CE
   intro e w4 hT
   obtain ⟨bb,no,yes⟩:=rd _ _ _ hT
   obtain ⟨r,hr⟩:=xe (exP true ts f (j + 1))
   have H2 : Hid (exP true ts f (j + 1) = r):=hr.symm
   have HBB : Hid (But (P :: v.ownBlock.toList) w w4):=bb
   rw [<- hr] at no yes
   clear hr hT rd bb
   cases r with
   | none=>
     have hT:=no rfl
     subst hT
     have HR : Hid (exP true ts (f + 1) i = none):=by
      show _ = _
      rw [HR0.out]
      unfold ifP
      rw [H1.out]
      show (if isT ts j sThen = true then _ else none) = none
      rw [h2,H2.out];rfl
     clear no yes h2
     go_wp2
     exact ⟨rfl,by rw [HR.out];exact ⟨HBB.out,rfl⟩⟩
   | some r=>
     obtain ⟨d,k⟩:=r
     obtain ⟨v4,rfl,S4⟩:=yes d k rfl
     obtain ⟨f4,f5,f6⟩:=ex_far f _ _ _ H2.out
     have HS4 : Hid (ESt B P tb o ts eT eV w v xs (c ++ d) k v4 w4):=S4
     clear no yes S4
     go_wp2_with fail
     cases h3 : isT ts k sElse
     case false=>
      have HR : Hid (exP true ts (f + 1) i = none):=by
       show _ = _
       rw [HR0.out]
       unfold ifP
       rw [H1.out]
       show (if isT ts j sThen = true then _ else none) = none
       rw [h2,H2.out]
       show (if isT ts k sElse = true then _ else none) = none
       rw [h3];rfl
      refine (p_need_no ⟨#[101,108,115,101]⟩ w4 HS4.out.ps h3).mono ?_
      rintro e w9 ⟨rfl,rfl⟩
      clear h2 h3
      go_wp2
      exact ⟨rfl,by rw [HR.out];exact ⟨HBB.out,rfl⟩⟩
     have k1:=isT_lt h3
     refine (p_need ⟨#[101,108,115,101]⟩ w4 HS4.out.ps h3).mono ?_
     rintro e w5 ⟨rfl,p5,b5⟩
     have S5:=HS4.out.low hP b5 p5
     clear b5 HBB
     obtain ⟨zs,hO,hzl,rd⟩:=S5.read
     have hsz:=S5.1.size
     have CE:=HIH.out (k + 1) w5 _ zs p5 hO (by rw [hzl,lap];omega) (by omega) (by omega)
     clear hO p5 S5 hzl
     go_wp2_with fail
     refine CE.mono ?_
     clear CE
     intro e w6 hT
     obtain ⟨bb,no,yes⟩:=rd _ _ _ hT
     obtain ⟨r,hr⟩:=xe (exP true ts f (k + 1))
     have H3 : Hid (exP true ts f (k + 1) = r):=hr.symm
     have HBB : Hid (But (P :: v.ownBlock.toList) w w6):=bb
     rw [<- hr] at no yes
     clear hr hT rd bb
     cases r with
     | none=>
       have hT:=no rfl
       subst hT
       have HR : Hid (exP true ts (f + 1) i = none):=by
        show _ = _
        rw [HR0.out]
        unfold ifP
        rw [H1.out]
        show (if isT ts j sThen = true then _ else none) = none
        rw [h2,H2.out]
        show (if isT ts k sElse = true then _ else none) = none
        rw [h3,H3.out];rfl
       clear no yes h2 h3
       go_wp2
       exact ⟨rfl,by rw [HR.out];exact ⟨HBB.out,rfl⟩⟩
     | some r=>
       obtain ⟨g,m⟩:=r
       obtain ⟨v6,rfl,S6⟩:=yes g m rfl
       obtain ⟨f7,f8,f9⟩:=ex_far f _ _ _ H3.out
       have HR : Hid (exP true ts (f + 1) i = some (c ++ d ++ g ++ [exO 8],m)):=by
        show _ = _
        rw [HR0.out]
        unfold ifP
        rw [H1.out]
        show (if isT ts j sThen = true then _ else none) = _
        rw [h2,H2.out]
        show (if isT ts k sElse = true then _ else none) = _
        rw [h3,H3.out];rfl
       have hs6:=S6.1.size
       obtain ⟨va,n,vc,C,hv,hnn,OW,hwz,push⟩:=S6.own hP htb
       subst hv
       have hnb : n <= 5000:=by rw [hnn];simp only [lap];omega
       clear hnn no yes S6 h2 h3
       go_wp2_with (first | (at_builtin;refine wpList_append_lies _ rfl _ _ 44 rfl B 70 i0 _ 6 96 Tryz.underlying44 hi0 hz0 hz1 hz2 rfl (by omega) (.slice va n vc) n C rfl (OW.alloc _) ⟨w6.heap.size,0,none⟩ 1 1 [.int .i64 8,.int .i64 0,.string ⟨#[]⟩,.string ⟨#[]⟩,.slice none 0 0,.slice none 0 0] rfl rfl (World.news_of_block (cs:=#[.int .i64 8,.int .i64 0,.string ⟨#[]⟩,.string ⟨#[]⟩,.slice none 0 0,.slice none 0 0]) (t:=70) (fr:=(0,0)) (heap_alloc_new w6 _)) (by simp [Value.oneCell']) (by omega) (by unfold maxLen;omega) (by omega) (by simp;omega) (w6.heap.size + 1) (by simp) ?_;intro gg cap3 w5' hown3 hg3 hat3 hlt3))
       have HST : Hid (ESt B P tb o ts eT eV w v xs (c ++ d ++ g ++ [exO 8]) m (.slice (some ⟨gg,0,none⟩) (n + 1) cap3) w5'):=push (exO 8) w5' gg cap3 _ rfl rfl hown3 hg3 hat3
       clear hown3 hg3 hat3 push OW
       go_wp2
       go_ret
       rw [HR.out]
       exact HST.out.ret
theorem expr_less {B P tb o : Nat} {ts : List TK} {eT : TypeId} {eV : Value} {f : Nat} (HN : NumC ts) (IH : ExC B P tb o ts eT eV f) (hP : P < B) (htb : tb < B) {i : Nat} {w : World} {v : Value} {xs : List (EI × EPl)} (hps : PsAt w P tb o i ts eT eV) (hot : OE B w v xs) (hxi : xs.length <= i) (hB : B <= w.heap.size) (hf : ts.length - i < f + 1) (h0 : isT ts i sFun = false) (h1 : isT ts i sIf = false) :
  Calls Tryz.prog 83 #[.pointer (some ⟨P,0,none⟩),v] w (ExR B P tb o ts eT eV w v xs (exP true ts (f + 1) i)):=by
 have HR0 : Hid (exP true ts (f + 1) i = lessP true ts (exP true ts f) i):=by show _ = _;rw [exP,h0,if_neg (by decide),h1,if_neg (by decide)]
 have HIH : Hid (ExC B P tb o ts eT eV f):=IH
 have HNU : Hid (NumC ts):=HN
 have HPS : Hid (PsAt w P tb o i ts eT eV):=hps
 have CA:=p_sum HN IH hP htb hps hot hxi hB hf
 have hn:=hps.tk.len
 clear IH HN hps hot
 obtain ⟨i0,hi0,hz0,hz1,hz2⟩:=info_parts Tryz.infoEI
 go_enter Tryz.func83,Tryz.ntmps83
 go_wp2_with fail
 refine (p_comes_no ⟨#[102,117,110]⟩ w HPS.out h0).mono ?_
 rintro e w1 ⟨rfl,rfl⟩
 go_wp2_with fail
 refine (p_comes_no ⟨#[105,102]⟩ w HPS.out h1).mono ?_
 rintro e w1 ⟨rfl,rfl⟩
 clear h0 h1
 go_wp2_with fail
 refine CA.mono ?_
 clear CA
 intro e w1 hT
 obtain ⟨r,hr⟩:=xe (sumP true ts (exP true ts f) i)
 have H1 : Hid (sumP true ts (exP true ts f) i = r):=hr.symm
 rw [<- hr] at hT
 clear hr
 cases r with
 | none=>
   obtain ⟨b1,hT⟩:=hT
   have hT : e = .panicked [{ v:=.iface eT eV,recovered:=false }]:=hT
   subst hT
   have HB1 : Hid (But (P :: v.ownBlock.toList) w w1):=b1
   have HR : Hid (exP true ts (f + 1) i = none):=by show _ = _;rw [HR0.out];unfold lessP;rw [H1.out]
   clear b1
   go_wp2
   exact ⟨rfl,by rw [HR.out];exact ⟨HB1.out,rfl⟩⟩
 | some r=>
   obtain ⟨l,j⟩:=r
   obtain ⟨v1,rfl,S1⟩:=ExR.some hT
   obtain ⟨f1,f2,f3⟩:=sum_far (ex_far f) _ _ _ H1.out
   have HS1 : Hid (ESt B P tb o ts eT eV w v xs l j v1 w1):=S1
   clear hT S1
   go_wp2_with fail
   cases h2 : isT ts j sLess
   case false=>
    have HR : Hid (exP true ts (f + 1) i = some (l,j)):=by
     show _ = _
     rw [HR0.out]
     unfold lessP
     rw [H1.out]
     show (if isT ts j sLess = true then _ else some (l,j)) = _
     rw [h2];rfl
    refine (p_comes_no ⟨#[60]⟩ w1 HS1.out.ps h2).mono ?_
    rintro e w9 ⟨rfl,rfl⟩
    clear h2
    go_wp2
    go_ret
    rw [HR.out]
    exact HS1.out.ret
   have j1:=isT_lt h2
   refine (p_comes ⟨#[60]⟩ w1 HS1.out.ps h2).mono ?_
   rintro e w3 ⟨rfl,p3,b3⟩
   have S3:=HS1.out.low hP b3 p3
   clear b3
   obtain ⟨zs,hO,hzl,rd⟩:=S3.read
   have hsz:=S3.1.size
   have CE:=p_sum HNU.out HIH.out hP htb p3 hO (by omega) (by omega) (by omega)
   clear hO p3 S3 hzl
   go_wp2_with fail
   refine CE.mono ?_
   clear CE
   intro e w4 hT
   obtain ⟨bb,no,yes⟩:=rd _ _ _ hT
   obtain ⟨r,hr⟩:=xe (sumP true ts (exP true ts f) (j + 1))
   have H2 : Hid (sumP true ts (exP true ts f) (j + 1) = r):=hr.symm
   have HBB : Hid (But (P :: v.ownBlock.toList) w w4):=bb
   rw [<- hr] at no yes
   clear hr hT rd bb
   cases r with
   | none=>
     have hT:=no rfl
     subst hT
     have HR : Hid (exP true ts (f + 1) i = none):=by
      show _ = _
      rw [HR0.out]
      unfold lessP
      rw [H1.out]
      show (if isT ts j sLess = true then _ else some (l,j)) = _
      rw [h2,H2.out];rfl
     clear no yes h2
     go_wp2
     exact ⟨rfl,by rw [HR.out];exact ⟨HBB.out,rfl⟩⟩
   | some r=>
     obtain ⟨d,k⟩:=r
     obtain ⟨v4,rfl,S6⟩:=yes d k rfl
     obtain ⟨f4,f5,f6⟩:=sum_far (ex_far f) _ _ _ H2.out
     have HR : Hid (exP true ts (f + 1) i = some (l ++ d ++ [exO 10],k)):=by
      show _ = _
      rw [HR0.out]
      unfold lessP
      rw [H1.out]
      show (if isT ts j sLess = true then _ else some (l,j)) = _
      rw [h2,H2.out];rfl
     have hs6:=S6.1.size
     obtain ⟨va,n,vc,C,hv,hnn,OW,hwz,push⟩:=S6.own hP htb
     subst hv
     have hnb : n <= 5000:=by rw [hnn];simp only [lap];omega
     clear hnn no yes S6 h2
     go_wp2_with (first | (at_builtin;refine wpList_append_lies _ rfl _ _ 44 rfl B 70 i0 _ 6 96 Tryz.underlying44 hi0 hz0 hz1 hz2 rfl (by omega) (.slice va n vc) n C rfl (OW.alloc _) ⟨w4.heap.size,0,none⟩ 1 1 [.int .i64 10,.int .i64 0,.string ⟨#[]⟩,.string ⟨#[]⟩,.slice none 0 0,.slice none 0 0] rfl rfl (World.news_of_block (cs:=#[.int .i64 10,.int .i64 0,.string ⟨#[]⟩,.string ⟨#[]⟩,.slice none 0 0,.slice none 0 0]) (t:=70) (fr:=(0,0)) (heap_alloc_new w4 _)) (by simp [Value.oneCell']) (by omega) (by unfold maxLen;omega) (by omega) (by simp;omega) (w4.heap.size + 1) (by simp) ?_;intro gg cap3 w5' hown3 hg3 hat3 hlt3))
     have HST : Hid (ESt B P tb o ts eT eV w v xs (l ++ d ++ [exO 10]) k (.slice (some ⟨gg,0,none⟩) (n + 1) cap3) w5'):=push (exO 10) w5' gg cap3 _ rfl rfl hown3 hg3 hat3
     clear hown3 hg3 hat3 push OW
     go_wp2
     go_ret
     rw [HR.out]
     exact HST.out.ret
theorem ex_all {B P tb o : Nat} {ts : List TK} {eT : TypeId} {eV : Value} (HN : NumC ts) (hP : P < B) (htb : tb < B) : ∀ f,ExC B P tb o ts eT eV f
 | 0=>fun _ _ _ _ _ _ _ hf=>absurd hf (Nat.not_lt_zero _)
 | f + 1=>fun i w v xs hps hot hxi hf hB=>by
   cases h0 : isT ts i sFun with
   | true=>exact expr_fun (ex_all HN hP htb f) hP htb hps hot hxi hB hf h0
   | false=>
     cases h1 : isT ts i sIf with
     | true=>exact expr_if (ex_all HN hP htb f) hP htb hps hot hxi hB hf h1
     | false=>exact expr_less HN (ex_all HN hP htb f) hP htb hps hot hxi hB hf h0 h1
end Go.Proofs.YtcehppndpccldaaGreatDoor
