/-
  PdG PdH PdI PdJ
-/
import Derived.Test.YtihedobejcaapaaGreatDoorA9
set_option maxHeartbeats 4000000
set_option maxRecDepth 100000
namespace Go.Proofs.YtihedobejcaapaaGreatDoor
open Go.RowKit
def jj (B P tb o : Nat) (ts : List TK) (eT : TypeId) (eV : Value) (w : World) (v : Value) (xs : List (EI × EPl)) (l : List EI) (j : Nat) (v1 : Value) (wr : World) : Prop:=
 ai (P :: v.ownBlock.toList) w wr /\ ∃ ys,OE B wr v1 (xs ++ ys) /\ ys.map Prod.fst = l /\ ag wr P tb o j ts eT eV /\ (∀ b,v1.ownBlock = some b -> v.ownBlock = some b \/ w.heap.size <= b) /\ ∀ b,b ∈ bd ys -> w.heap.size <= b
theorem iK.some {B P tb o : Nat} {ts : List TK} {eT : TypeId} {eV : Value} {w : World} {v : Value} {xs : List (EI × EPl)} {l : List EI} {j : Nat} {e : Ending} {w' : World} (h : iK B P tb o ts eT eV w v xs (some (l,j)) e w') : ∃ v',e = .returned v' /\ jj B P tb o ts eT eV w v xs l j v' w':=by
 obtain ⟨b,v',c,a,r⟩:=h;exact ⟨v',a,b,c,r⟩
theorem jj.ret {B P tb o : Nat} {ts : List TK} {eT : TypeId} {eV : Value} {w : World} {v : Value} {xs : List (EI × EPl)} {l : List EI} {j : Nat} {v' : Value} {w' : World} (h : jj B P tb o ts eT eV w v xs l j v' w') : iK B P tb o ts eT eV w v xs (some (l,j)) (.returned v') w':=by
 obtain ⟨a,b,r⟩:=h;exact ⟨a,v',b,rfl,r⟩
theorem jj.ps {B P tb o : Nat} {ts : List TK} {eT : TypeId} {eV : Value} {w : World} {v : Value} {xs : List (EI × EPl)} {l : List EI} {j : Nat} {v' : Value} {w' : World} (h : jj B P tb o ts eT eV w v xs l j v' w') : ag w' P tb o j ts eT eV:=by
 obtain ⟨a,b,_,_,h,_⟩:=h;exact h
theorem lS {B P tb o : Nat} {ts : List TK} {eT : TypeId} {eV : Value} {w : World} {v : Value} {xs : List (EI × EPl)} {i : Nat} (hp : ag w P tb o i ts eT eV) (ho : OE B w v xs) : jj B P tb o ts eT eV w v xs [] i v w:=
 ⟨ai.refl _ _,[],by rw [List.append_nil];exact ho,rfl,hp,fun b e=>Or.inl e,fun b hb=>by cases hb⟩
theorem jj.low {B P tb o : Nat} {ts : List TK} {eT : TypeId} {eV : Value} {w : World} {v : Value} {xs : List (EI × EPl)} {l : List EI} {j k : Nat} {v1 : Value} {wr w2 : World} (h : jj B P tb o ts eT eV w v xs l j v1 wr) (hP : P < B) (hb : ai [P] wr w2) (hp : ag w2 P tb o k ts eT eV) : jj B P tb o ts eT eV w v xs l k v1 w2:=by
 obtain ⟨c,f,e,a,i,d,g⟩:=h;exact ⟨c.then_ (hb.more (fun k z=>by rw [ms1 z];simp)),f,e.low hb (fun b z=>by rw [ms1 z];exact Or.inl hP),a,hp,d,g⟩
theorem jj.low_but {B P tb o : Nat} {ts : List TK} {eT : TypeId} {eV : Value} {w : World} {v : Value} {xs : List (EI × EPl)} {l : List EI} {j : Nat} {v1 : Value} {wr w2 : World} (h : jj B P tb o ts eT eV w v xs l j v1 wr) (hb : ai [P] wr w2) : ai (P :: v.ownBlock.toList) w w2:=
 h.1.then_ (hb.more (fun k z=>by rw [ms1 z];simp))
theorem jj.read {B P tb o : Nat} {ts : List TK} {eT : TypeId} {eV : Value} {w : World} {v : Value} {xs : List (EI × EPl)} {l : List EI} {j : Nat} {v1 : Value} {wr : World} (h : jj B P tb o ts eT eV w v xs l j v1 wr) :
  ∃ zs : List (EI × EPl),OE B wr v1 zs /\ zs.length = xs.length + l.length /\ ∀ r e w2,iK B P tb o ts eT eV wr v1 zs r e w2 -> ai (P :: v.ownBlock.toList) w w2 /\ (r = none -> e = .panicked [{ v:=.iface eT eV,recovered:=false }]) /\ ∀ l2 k,r = some (l2,k) -> ∃ v2,e = .returned v2 /\ jj B P tb o ts eT eV w v xs (l ++ l2) k v2 w2:=by
 obtain ⟨c,i,m,g,E,d,s⟩:=h;refine ⟨xs ++ i,m,by rw [lap,<- g,List.length_map],fun r e w2 a=>?_⟩;obtain ⟨y,a⟩:=a
 have f : ai (P :: v.ownBlock.toList) w w2:=c.trans y (fun k z hk=>by
  simp only [List.mem_cons,Option.mem_toList] at z ⊢;rcases z with z | z
  ·exact Or.inl z
  ·rcases d k z with q | q
   ·exact Or.inr q
   ·omega)
 have D:=c.size;refine ⟨f,fun e1=>by rw [e1] at a;exact a,fun l2 k e1=>?_⟩;rw [e1] at a;obtain ⟨v2,A,t,u,p,C,x,n⟩:=a;refine ⟨v2,t,f,i ++ A,by rw [<- List.append_assoc];exact u,by rw [List.map_append,g,p],C,fun b e=>?_,fun b z=>?_⟩
 ·rcases x b e with q | q
  ·exact d b q
  ·exact Or.inr (by omega)
 ·rw [cI] at z
  rcases List.mem_append.1 z with q | q
  ·exact s b q
  ·have:=n b q;omega
theorem jj.own {B P tb o : Nat} {ts : List TK} {eT : TypeId} {eV : Value} {w : World} {v : Value} {xs : List (EI × EPl)} {l : List EI} {j : Nat} {v1 : Value} {wr : World} (h : jj B P tb o ts eT eV w v xs l j v1 wr) (hP : P < B) (htb : tb < B) :
  ∃ (va : Option Addr) (n vc : Nat) (C : List Value),v1 = .slice va n vc /\ n = xs.length + l.length /\ wr.ownsRow B 65 6 v1 n C /\ w.heap.size <= wr.heap.size /\
    (∀ (x : EI) (w5 : World) (gg cap3 : Nat) (ob : Obj),x.ns = [] -> x.ty = [] -> w5.ownsRow B 65 6 (.slice (some ⟨gg,0,none⟩) (n + 1) cap3) (n + 1) (C ++ cU (x,im)) -> (wr.alloc ob).grownBy w5 v1.ownBlock -> (v1.ownBlock = some gg \/ gg = wr.heap.size + 1) ->
     jj B P tb o ts eT eV w v xs (l ++ [x]) j (.slice (some ⟨gg,0,none⟩) (n + 1) cap3) w5):=by
 obtain ⟨g,a,d,f,m,i,p⟩:=h;obtain ⟨va,vc,k⟩:=ad d.own;have q : (xs ++ a).length = xs.length + l.length:=by rw [lap,<- f,List.length_map]
 refine ⟨va,(xs ++ a).length,vc,eisC (xs ++ a),k,q,d.own,g.size,fun x w5 gg cap3 ob e1 e2 hown hg hat=>?_⟩;have c:=iS B wr e1 e2;have z:=iw (ys:=a) (x:=(x,im)) hP htb (v:=v) d m g i hown hg hat c.1 (fun b hb=>by rw [c.2] at hb;cases hb) (by rw [c.2];exact List.nodup_nil) p (fun b hb=>by rw [c.2] at hb;cases hb);rw [f] at z;obtain ⟨s,e,r⟩:=iK.some z;simp only [Ending.returned.injEq] at e;subst e;exact r
theorem wm {ts : List TK} {E : Nat -> Option (List EI × Nat)} {g j : Nat} {its : List EI} (hg : 0 < g) : bu ts E g its j =
  if isT ts j qr then
   (if cr ts (j + 1) 1 then bu ts E (g - 1) (its ++ [⟨5,0,e0,tx ts (j + 1),[],[]⟩]) (j + 2) else none)
  else if isT ts j cQ then
   (match bO ts E (j + 1) with
   | none=>none
   | some (l,k)=>bu ts E (g - 1) (its ++ l ++ [fM 7]) k)
  else some (its,j):=by
 cases g with
 | zero=>omega
 | succ g=>rw [bu];rfl
theorem xA {st : Bool} {ts : List TK} {E : Nat -> Option (List EI × Nat)} {g j : Nat} {its : List EI} (hg : 0 < g) : ek st ts E g its j =
  if isT ts j lM then
   (match postP st ts E (j + 1) with
   | none=>none
   | some (l,k)=>ek st ts E (g - 1) (its ++ l ++ [fM 9]) k)
  else some (its,j):=by
 cases g with
 | zero=>omega
 | succ g=>rw [ek];rfl
structure PL (B P tb o : Nat) (ts : List TK) (eT : TypeId) (eV : Value) (w : World) (v : Value) (xs : List (EI × EPl)) (R : Option (List EI × Nat)) (L : Nat -> List EI -> Nat -> Option (List EI × Nat)) (i : Nat) (j g : Nat) (l : List EI) (v1 : Value) (wr : World) : Prop where
 eq : R = L g l j
 fuel : ts.length < g + j
 len : xs.length + l.length <= j
 far : i < j
 st : jj B P tb o ts eT eV w v xs l j v1 wr
theorem uU {B P tb o : Nat} {ts : List TK} {eT : TypeId} {eV : Value} {f : Nat} (HN : iB ts) (IH : lo B P tb o ts eT eV f) (hP : P < B) (htb : tb < B) {i : Nat} {w : World} {v : Value} {xs : List (EI × EPl)} (hps : ag w P tb o i ts eT eV) (hot : OE B w v xs) (hxi : xs.length <= i) (hB : B <= w.heap.size) (hf : ts.length - i < f + 1) :
  Calls Tryz.prog 98 #[.pointer (some ⟨P,0,none⟩),v] w (iK B P tb o ts eT eV w v xs (postP true ts (ay true ts f) i)):=by
 have ar:=hQx IH;have CA:=A7 HN IH hP htb hps hot hxi hB hf;have hn:=hps.tk.len;clear IH hps hot;obtain ⟨i0,ah,ab,Z,S⟩:=info_parts Tryz.infoEI;go_enter Tryz.func98,Tryz.ntmps98;go_wp2_with fail;refine CA.mono ?_;clear CA;intro e w1 m;obtain ⟨r,d⟩:=xe (atomP true ts (ay true ts f) i);have z : Hid (atomP true ts (ay true ts f) i = r):=d.symm;rw [<- d] at m;clear d
 cases r with
 | none=>
   obtain ⟨b1,m⟩:=m;have m : e = .panicked [{ v:=.iface eT eV,recovered:=false }]:=m;subst m;have a3 : Hid (ai (P :: v.ownBlock.toList) w w1):=b1;have E : Hid (postP true ts (ay true ts f) i = none):=by show _ = _;unfold postP;rw [z.out]
   clear b1;go_wp2;exact ⟨rfl,by rw [E.out];exact ⟨a3.out,rfl⟩⟩
 | some r=>
   obtain ⟨l,j⟩:=r;obtain ⟨R,rfl,S1⟩:=iK.some m;obtain ⟨f1,f2,f3⟩:=oZ (bS f) _ _ _ z.out;have O : Hid (PL B P tb o ts eT eV w v xs (postP true ts (ay true ts f) i) (fun g l j=>bu ts (ay true ts f) g l j) i j (ts.length + 1) l R w1):=⟨by unfold postP;rw [z.out],by omega,by omega,f2,S1⟩;clear m S1;go_wp2
   go_loopw [1] (fun s1 wr=>∃ (R : Value) (j g : Nat) (l : List EI),s1 = R /\ Hid (PL B P tb o ts eT eV w v xs (postP true ts (ay true ts f) i) (fun g l j=>bu ts (ay true ts f) g l j) i j g l R wr)) (fun _ wr=>dW wr P 0)
   case atStart=>exact ⟨R,j,ts.length + 1,l,rfl,O⟩
   case round=>
   obtain ⟨R,j,g,l,rfl,H⟩:=hrel;clear O z;have cc:=H.out.st.ps.le;have hg : 0 < g:=by have:=H.out.fuel;omega
   have T : Hid (dW wr P 0 = ts.length - j):=fC H.out.st.ps;have bp:=H.out.len;have bv:=H.out.far;have b5 : w.heap.size <= wr.heap.size:=H.out.st.1.size;have p : Hid (postP true ts (ay true ts f) i = _):=H.out.eq.trans (wm hg);go_wp2_with fail;cases hd : isT ts j qr
   case true=>
    refine (bK ⟨#[46]⟩ wr H.out.st.ps hd).mono ?_;rintro e M ⟨rfl,D,Q⟩;have I:=H.out.st.low hP Q D;go_wp2_with fail;cases hc : cr ts (j + 1) 1
    case false=>
     have E : Hid (postP true ts (ay true ts f) i = none):=by show _ = _;rw [p.out,hd,hc];rfl
     refine (cJ M D hc).mono ?_;rintro e x ⟨rfl,G⟩;have a6 : Hid (ai (P :: v.ownBlock.toList) w x):=I.low_but G;clear hd hc D Q I G;go_wp2;exact ⟨rfl,by rw [E.out];exact ⟨a6.out,rfl⟩⟩
    refine (fY M D hc).mono ?_;rintro e x ⟨rfl,p3,G⟩;have N:=I.low hP G p3;have b6:=N.1.size;obtain ⟨va,n,vc,C,hv,u,U,ao,push⟩:=N.own hP htb;subst hv;have a5 : n <= 3000:=by rw [u];(try simp only [lap]);omega
    clear u;have a0:=p3.le;clear D Q I G p3 N;go_wp2_with (first | (at_builtin;refine wpList_append_lies _ rfl _ _ 35 rfl B 65 i0 _ 6 96 Tryz.underlying35 ah ab Z S rfl (by omega) (.slice va n vc) n C rfl (U.alloc _) ⟨x.heap.size,0,none⟩ 1 1 [.int .i64 5,.int .i64 0,.string ⟨#[]⟩,.string (tx ts (j + 1)),.slice none 0 0,.slice none 0 0] rfl rfl (World.news_of_block (cs:=#[.int .i64 5,.int .i64 0,.string ⟨#[]⟩,.string (tx ts (j + 1)),.slice none 0 0,.slice none 0 0]) (t:=65) (fr:=(0,0)) (heap_alloc_new x _)) (by simp [Value.oneCell']) (by omega) (by unfold maxLen;omega) (by omega) (by simp;omega) (x.heap.size + 1) (by simp) ?_;intro J b F a s c V));have q : Hid (jj B P tb o ts eT eV w v xs (l ++ [⟨5,0,e0,tx ts (j + 1),[],[]⟩]) (j + 2) (.slice (some ⟨J,0,none⟩) (n + 1) b) F):=push ⟨5,0,e0,tx ts (j + 1),[],[]⟩ F J b _ rfl rfl a s c
    have O : Hid (PL B P tb o ts eT eV w v xs (postP true ts (ay true ts f) i) (fun g l j=>bu ts (ay true ts f) g l j) i (j + 2) (g - 1) (l ++ [⟨5,0,e0,tx ts (j + 1),[],[]⟩]) (.slice (some ⟨J,0,none⟩) (n + 1) b) F):=by
     refine ⟨?_,by have:=H.out.fuel;omega,by simp;omega,by omega,q.out⟩;rw [p.out,hd,hc];rfl
    have L : Hid (dW F P 0 = ts.length - (j + 2)):=fC q.out.ps;clear hd hc a s c push U;go_wp2
    go_roundw
    case rel=>exact ⟨_,j + 2,g - 1,_,rfl,O⟩
    case measure=>rw [L.out,T.out];omega
   refine (aN ⟨#[46]⟩ wr H.out.st.ps hd).mono ?_;rintro e M ⟨rfl,rfl⟩;go_wp2_with fail;cases hl : isT ts j cQ
   case false=>
    have E : Hid (postP true ts (ay true ts f) i = some (l,j)):=by show _ = _;rw [p.out,hd,hl];rfl
    refine (aN ⟨#[40]⟩ wr H.out.st.ps hl).mono ?_;rintro e M ⟨rfl,rfl⟩;clear hd hl;go_wp2;go_ret;rw [E.out];exact H.out.st.ret
   refine (bK ⟨#[40]⟩ wr H.out.st.ps hl).mono ?_;rintro e M ⟨rfl,D,Q⟩;have a0:=aL hl;have I:=H.out.st.low hP Q D;obtain ⟨zs,hO,cb,rd⟩:=I.read;have b7:=I.1.size;have CE:=ar.out (j + 1) M _ zs D hO (by omega) (by omega) (by omega);clear D Q I hO;go_wp2_with fail;refine CE.mono ?_;clear CE;intro e x m;obtain ⟨G,A,h⟩:=rd _ _ _ m;obtain ⟨r,d⟩:=xe (ay true ts f (j + 1));have y : Hid (ay true ts f (j + 1) = r):=d.symm;have X : Hid (ai (P :: v.ownBlock.toList) w x):=G;rw [<- d] at A h;clear d m rd G
   cases r with
   | none=>
     have m:=A rfl;subst m
     have E : Hid (postP true ts (ay true ts f) i = none):=by
      show _ = _;rw [p.out,hd,hl];have Y : bO ts (ay true ts f) (j + 1) = none:=by unfold bO;rw [y.out]
      rw [Y];rfl
     clear hd hl A h;go_wp2;exact ⟨rfl,by rw [E.out];exact ⟨X.out,rfl⟩⟩
   | some r=>
     obtain ⟨W,k⟩:=r;obtain ⟨v2,rfl,N⟩:=h W k rfl;obtain ⟨g1,g2,g3⟩:=bS f _ _ _ y.out;have K : Hid (jj B P tb o ts eT eV w v xs (l ++ W) k v2 x):=N;clear A h N;go_wp2_with fail;cases d : isT ts k bA
     case false=>
      have E : Hid (postP true ts (ay true ts f) i = none):=by
       show _ = _;rw [p.out,hd,hl]
       have Y : bO ts (ay true ts f) (j + 1) = none:=by
        unfold bO;rw [y.out];show (if isT ts k bA = true then _ else none) = none;rw [d];rfl
       rw [Y];rfl
      refine (aP ⟨#[41]⟩ x K.out.ps d).mono ?_;rintro e w4 ⟨rfl,rfl⟩;clear hd hl d;go_wp2;exact ⟨rfl,by rw [E.out];exact ⟨X.out,rfl⟩⟩
     refine (cG ⟨#[41]⟩ x K.out.ps d).mono ?_;rintro e w4 ⟨rfl,p4,b4⟩;have S4:=K.out.low hP b4 p4;have b9:=p4.le;have ca:=S4.1.size;obtain ⟨va,n,vc,C,hv,u,U,ao,push⟩:=S4.own hP htb;subst hv;have a5 : n <= 3000:=by rw [u];(try simp only [lap]);omega
     clear u;clear p4 b4 S4;go_wp2_with (first | (at_builtin;refine wpList_append_lies _ rfl _ _ 35 rfl B 65 i0 _ 6 96 Tryz.underlying35 ah ab Z S rfl (by omega) (.slice va n vc) n C rfl (U.alloc _) ⟨w4.heap.size,0,none⟩ 1 1 [.int .i64 7,.int .i64 0,.string ⟨#[]⟩,.string ⟨#[]⟩,.slice none 0 0,.slice none 0 0] rfl rfl (World.news_of_block (cs:=#[.int .i64 7,.int .i64 0,.string ⟨#[]⟩,.string ⟨#[]⟩,.slice none 0 0,.slice none 0 0]) (t:=65) (fr:=(0,0)) (heap_alloc_new w4 _)) (by simp [Value.oneCell']) (by omega) (by unfold maxLen;omega) (by omega) (by simp;omega) (w4.heap.size + 1) (by simp) ?_;intro J b F a s c V));have q : Hid (jj B P tb o ts eT eV w v xs (l ++ W ++ [fM 7]) (k + 1) (.slice (some ⟨J,0,none⟩) (n + 1) b) F):=push (fM 7) F J b _ rfl rfl a s c
     have O : Hid (PL B P tb o ts eT eV w v xs (postP true ts (ay true ts f) i) (fun g l j=>bu ts (ay true ts f) g l j) i (k + 1) (g - 1) (l ++ W ++ [fM 7]) (.slice (some ⟨J,0,none⟩) (n + 1) b) F):=by
      refine ⟨?_,by have:=H.out.fuel;omega,by simp;omega,by omega,q.out⟩;rw [p.out,hd,hl]
      have Y : bO ts (ay true ts f) (j + 1) = some (W,k + 1):=by
       unfold bO;rw [y.out];show (if isT ts k bA = true then _ else none) = _;rw [d];rfl
      rw [Y];rfl
     have L : Hid (dW F P 0 = ts.length - (k + 1)):=fC q.out.ps;clear hd hl d a s c push U;go_wp2
     go_roundw
     case rel=>exact ⟨_,k + 1,g - 1,_,rfl,O⟩
     case measure=>rw [L.out,T.out];omega
theorem zf {B P tb o : Nat} {ts : List TK} {eT : TypeId} {eV : Value} {f : Nat} (HN : iB ts) (IH : lo B P tb o ts eT eV f) (hP : P < B) (htb : tb < B) {i : Nat} {w : World} {v : Value} {xs : List (EI × EPl)} (hps : ag w P tb o i ts eT eV) (hot : OE B w v xs) (hxi : xs.length <= i) (hB : B <= w.heap.size) (hf : ts.length - i < f + 1) :
  Calls Tryz.prog 88 #[.pointer (some ⟨P,0,none⟩),v] w (iK B P tb o ts eT eV w v xs (cu true ts (ay true ts f) i)):=by
 have J:=hQx IH;have S:=hQx HN;have CA:=uU HN IH hP htb hps hot hxi hB hf;have hn:=hps.tk.len;clear IH hps hot HN;obtain ⟨i0,X,W,V,I⟩:=info_parts Tryz.infoEI;go_enter Tryz.func88,Tryz.ntmps88;go_wp2_with fail;refine CA.mono ?_;clear CA;intro e w1 b;obtain ⟨r,s⟩:=xe (postP true ts (ay true ts f) i);have h : Hid (postP true ts (ay true ts f) i = r):=s.symm;rw [<- s] at b;clear s
 cases r with
 | none=>
   obtain ⟨Y,b⟩:=b;have b : e = .panicked [{ v:=.iface eT eV,recovered:=false }]:=b;subst b;have M : Hid (ai (P :: v.ownBlock.toList) w w1):=Y;have A : Hid (cu true ts (ay true ts f) i = none):=by show _ = _;unfold cu;rw [h.out]
   clear Y;go_wp2;exact ⟨rfl,by rw [A.out];exact ⟨M.out,rfl⟩⟩
 | some r=>
   obtain ⟨l,j⟩:=r;obtain ⟨x,rfl,S1⟩:=iK.some b;obtain ⟨f1,f2,f3⟩:=iL (bS f) _ _ _ h.out;have F : Hid (PL B P tb o ts eT eV w v xs (cu true ts (ay true ts f) i) (fun g l j=>ek true ts (ay true ts f) g l j) i j (ts.length + 1) l x w1):=⟨by unfold cu;rw [h.out],by omega,by omega,f2,S1⟩;clear b S1;go_wp2
   go_loopw [1] (fun s1 wr=>∃ (x : Value) (j g : Nat) (l : List EI),s1 = x /\ Hid (PL B P tb o ts eT eV w v xs (cu true ts (ay true ts f) i) (fun g l j=>ek true ts (ay true ts f) g l j) i j g l x wr)) (fun _ wr=>dW wr P 0)
   case atStart=>exact ⟨x,j,ts.length + 1,l,rfl,F⟩
   case round=>
   obtain ⟨x,j,g,l,rfl,H⟩:=hrel;clear F h;have bv:=H.out.st.ps.le;have hg : 0 < g:=by have:=H.out.fuel;omega
   have K : Hid (dW wr P 0 = ts.length - j):=fC H.out.st.ps;have a1:=H.out.len;have a3:=H.out.far;have a7 : w.heap.size <= wr.heap.size:=H.out.st.1.size;have u : Hid (cu true ts (ay true ts f) i = _):=H.out.eq.trans (xA hg);go_wp2_with fail;cases hl : isT ts j lM
   case false=>
    have A : Hid (cu true ts (ay true ts f) i = some (l,j)):=by show _ = _;rw [u.out,hl];rfl
    refine (aN ⟨#[43]⟩ wr H.out.st.ps hl).mono ?_;rintro e w2 ⟨rfl,rfl⟩;clear hl;go_wp2;go_ret;rw [A.out];exact H.out.st.ret
   refine (bK ⟨#[43]⟩ wr H.out.st.ps hl).mono ?_;rintro e w2 ⟨rfl,O,b2⟩;have a8:=aL hl;have Q:=H.out.st.low hP b2 O;obtain ⟨zs,hO,bp,rd⟩:=Q.read;have bb:=Q.1.size;have CE:=uU S.out J.out hP htb O hO (by omega) (by omega) (by omega);clear O b2 Q hO;go_wp2_with fail;refine CE.mono ?_;clear CE;intro e E b;obtain ⟨b3,m,a⟩:=rd _ _ _ b;obtain ⟨r,s⟩:=xe (postP true ts (ay true ts f) (j + 1));have q : Hid (postP true ts (ay true ts f) (j + 1) = r):=s.symm;have R : Hid (ai (P :: v.ownBlock.toList) w E):=b3;rw [<- s] at m a;clear s b rd b3
   cases r with
   | none=>
     have b:=m rfl;subst b;have A : Hid (cu true ts (ay true ts f) i = none):=by show _ = _;rw [u.out,hl,q.out];rfl
     clear hl m a;go_wp2;exact ⟨rfl,by rw [A.out];exact ⟨R.out,rfl⟩⟩
   | some r=>
     obtain ⟨L,k⟩:=r;obtain ⟨v2,rfl,T⟩:=a L k rfl;obtain ⟨g1,g2,g3⟩:=iL (bS f) _ _ _ q.out;have bn:=T.1.size;obtain ⟨va,n,vc,C,hv,D,Z,a6,push⟩:=T.own hP htb;subst hv;have bo : n <= 3000:=by rw [D];(try simp only [lap]);omega
     clear D;clear m a T;go_wp2_with (first | (at_builtin;refine wpList_append_lies _ rfl _ _ 35 rfl B 65 i0 _ 6 96 Tryz.underlying35 X W V I rfl (by omega) (.slice va n vc) n C rfl (Z.alloc _) ⟨E.heap.size,0,none⟩ 1 1 [.int .i64 9,.int .i64 0,.string ⟨#[]⟩,.string ⟨#[]⟩,.slice none 0 0,.slice none 0 0] rfl rfl (World.news_of_block (cs:=#[.int .i64 9,.int .i64 0,.string ⟨#[]⟩,.string ⟨#[]⟩,.slice none 0 0,.slice none 0 0]) (t:=65) (fr:=(0,0)) (heap_alloc_new E _)) (by simp [Value.oneCell']) (by omega) (by unfold maxLen;omega) (by omega) (by simp;omega) (E.heap.size + 1) (by simp) ?_;intro N d G c z p ab));have y : Hid (jj B P tb o ts eT eV w v xs (l ++ L ++ [fM 9]) k (.slice (some ⟨N,0,none⟩) (n + 1) d) G):=push (fM 9) G N d _ rfl rfl c z p
     have F : Hid (PL B P tb o ts eT eV w v xs (cu true ts (ay true ts f) i) (fun g l j=>ek true ts (ay true ts f) g l j) i k (g - 1) (l ++ L ++ [fM 9]) (.slice (some ⟨N,0,none⟩) (n + 1) d) G):=by
      refine ⟨?_,by have:=H.out.fuel;omega,by simp;omega,by omega,y.out⟩;rw [u.out,hl,q.out];rfl
     have U : Hid (dW G P 0 = ts.length - k):=fC y.out.ps;clear hl c z p push Z;go_wp2
     go_roundw
     case rel=>exact ⟨_,k,g - 1,_,rfl,F⟩
     case measure=>rw [U.out,K.out];omega
theorem Bx {B P tb o : Nat} {ts : List TK} {eT : TypeId} {eV : Value} {f : Nat} (IH : lo B P tb o ts eT eV f) (hP : P < B) (htb : tb < B) {i : Nat} {w : World} {v : Value} {xs : List (EI × EPl)} (hps : ag w P tb o i ts eT eV) (hot : OE B w v xs) (hxi : xs.length <= i) (hB : B <= w.heap.size) (hf : ts.length - i < f) :
  Calls Tryz.prog 87 #[.pointer (some ⟨P,0,none⟩),v] w (iK B P tb o ts eT eV w v xs (dp true ts (ay true ts f) i)):=by
 have b7:=hQx IH;have HO:=hQx hot;have bb:=hQx hps;have hn:=hps.tk.len;have d5:=hps.pos;clear IH hps hot;obtain ⟨i0,cz,cp,co,b0⟩:=info_parts Tryz.infoEI;have bL : Hid (ai (P :: v.ownBlock.toList) w w):=ai.refl _ _;go_enter Tryz.func87,Tryz.ntmps87;go_wp2_with fail;cases h1 : isT ts i cQ
 case false=>
  have d : Hid (dp true ts (ay true ts f) i = none):=by show _ = _;unfold dp;rw [h1];rfl
  refine (aP ⟨#[40]⟩ w bb.out h1).mono ?_;rintro e w9 ⟨rfl,rfl⟩;clear h1;go_wp2;exact ⟨rfl,by rw [d.out];exact ⟨bL.out,rfl⟩⟩
 refine (cG ⟨#[40]⟩ w bb.out h1).mono ?_;rintro e w1 ⟨rfl,p1,b1⟩;have ab : Hid (ag w1 P tb o (i + 1) ts eT eV):=p1;have ao : Hid (ai [P] w w1):=b1;clear p1 b1;go_wp2_with fail;cases h2 : cr ts (i + 1) 1
 case false=>
  have d : Hid (dp true ts (ay true ts f) i = none):=by show _ = _;unfold dp;rw [h1,h2];rfl
  refine (cJ w1 ab.out h2).mono ?_;rintro e M ⟨rfl,b2⟩;have ch : Hid (ai (P :: v.ownBlock.toList) w M):=(ao.out.then_ b2).more (fun k z=>by rw [ms1 z];simp);clear h1 h2 b2;go_wp2;exact ⟨rfl,by rw [d.out];exact ⟨ch.out,rfl⟩⟩
 refine (fY w1 ab.out h2).mono ?_;rintro e M ⟨rfl,p2,b2⟩;have a5 : Hid (ag M P tb o (i + 2) ts eT eV):=p2;have a7 : Hid (ai [P] w M):=ao.out.then_ b2;have bx : Hid (ai (P :: v.ownBlock.toList) w M):=a7.out.more (fun k z=>by rw [ms1 z];simp);clear p2 b2;go_wp2_with fail;cases h3 : isT ts (i + 2) aB
 case false=>
  have d : Hid (dp true ts (ay true ts f) i = none):=by show _ = _;unfold dp;rw [h1,h2,h3];rfl
  refine (aP ⟨#[58]⟩ M a5.out h3).mono ?_;rintro e w9 ⟨rfl,rfl⟩;clear h1 h2 h3;go_wp2;exact ⟨rfl,by rw [d.out];exact ⟨bx.out,rfl⟩⟩
 refine (cG ⟨#[58]⟩ M a5.out h3).mono ?_;rintro e G ⟨rfl,p3,b3⟩;have dv : Hid (ag G P tb o (i + 3) ts eT eV):=p3;have a2 : Hid (ai [P] w G):=a7.out.then_ b3;have dl:=a2.out.size;have i3:=aL h3;have CT:=mn (o:=o) (ts:=ts) (eT:=eT) (eV:=eV) hP htb (ts.length + 1) (i + 3) G (.slice none 0 0) [] p3 (OT.nil _ _) (Nat.zero_le _) (by omega) (by omega);clear p3 b3;go_wp2_with fail;refine CT.mono ?_;clear CT;intro e I c;obtain ⟨b4,c⟩:=c;obtain ⟨r,R⟩:=xe (tyP true ts (ts.length + 1) (i + 3));have p : Hid (tyP true ts (ts.length + 1) (i + 3) = r):=R.symm;rw [<- R] at c;clear R;have L : ai [P] G I:=b4;have a9 : Hid (ai [P] w I):=a2.out.then_ L;have a4 : Hid (ai (P :: v.ownBlock.toList) w I):=a9.out.more (fun k z=>by rw [ms1 z];simp)
 cases r with
 | none=>
   have c : e = .panicked [{ v:=.iface eT eV,recovered:=false }]:=c;subst c;have d : Hid (dp true ts (ay true ts f) i = none):=by show _ = _;unfold dp;rw [h1,h2,h3,p.out];rfl
   clear h1 h2 h3 b4 L;go_wp2;exact ⟨rfl,by rw [d.out];exact ⟨a4.out,rfl⟩⟩
 | some r=>
   obtain ⟨t,j⟩:=r;obtain ⟨v4,y,rfl,O4,ah,P4,an,a8⟩:=c;rw [List.nil_append] at O4;obtain ⟨f1,f2,f3⟩:=dE _ _ _ _ p.out;obtain ⟨u,s,bf⟩:=ad O4.own;obtain ⟨m,hm⟩:=xe (y.length);rw [<- hm] at bf;subst bf;clear hm;have cq : Hid (OT B I (.slice u m s) y):=O4;have a1 : Hid (ag I P tb o j ts eT eV):=P4;have ck : Hid (y.map Prod.fst = t):=ah
   have W : Hid (∀ b,(Value.slice u m s).ownBlock = some b -> G.heap.size <= b):=fun b e=>by
    rcases an b e with q | q
    ·cases q
    ·exact q
   have be : Hid (∀ b,b ∈ aS y -> G.heap.size <= b):=a8;clear O4 P4 ah an a8 b4 L;go_wp2_with fail;cases h4 : isT ts j bA
   case false=>
    have d : Hid (dp true ts (ay true ts f) i = none):=by show _ = _;unfold dp;rw [h1,h2,h3,p.out];show (if isT ts j bA = true then _ else none) = none;rw [h4];rfl
    refine (aP ⟨#[41]⟩ I a1.out h4).mono ?_;rintro e w9 ⟨rfl,rfl⟩;clear h1 h2 h3 h4;go_wp2;exact ⟨rfl,by rw [d.out];exact ⟨a4.out,rfl⟩⟩
   refine (cG ⟨#[41]⟩ I a1.out h4).mono ?_;rintro e J ⟨rfl,p5,b5⟩;have S : Hid (ai [P] w J):=a9.out.then_ b5;have d3:=S.out.size;have dd : I.heap.size <= J.heap.size:=b5.size;have h : Hid (OT B J (.slice u m s) y):=cq.out.low b5 (fun b z=>by rw [ms1 z];exact Or.inl hP);have O5 : OE B J v xs:=HO.out.low S.out (fun b z=>by rw [ms1 z];exact Or.inl hP);have ds:=aL h4;have CE:=b7.out (j + 1) J v xs p5 O5 (by omega) (by omega) (by omega);clear p5 b5 O5;go_wp2_with fail;refine CE.mono ?_;clear CE;intro e H c;obtain ⟨b6,c⟩:=c;obtain ⟨r,R⟩:=xe (ay true ts f (j + 1));have O : Hid (ay true ts f (j + 1) = r):=R.symm;rw [<- R] at c;clear R;have N : Hid (ai (P :: v.ownBlock.toList) w H):=(S.out.more (S':=P :: v.ownBlock.toList) (fun k z=>by rw [ms1 z];simp)).then_ b6
   cases r with
   | none=>
     have c : e = .panicked [{ v:=.iface eT eV,recovered:=false }]:=c;subst c
     have d : Hid (dp true ts (ay true ts f) i = none):=by
      show _ = _;unfold dp;rw [h1,h2,h3,p.out];show (if isT ts j bA = true then _ else none) = none;rw [h4,O.out];rfl
     clear h1 h2 h3 h4 b6;go_wp2;exact ⟨rfl,by rw [d.out];exact ⟨N.out,rfl⟩⟩
   | some r=>
     obtain ⟨l,k⟩:=r;obtain ⟨v6,A,rfl,O6,T,P6,a3,a6⟩:=c;obtain ⟨g1,g2,g3⟩:=bS f _ _ _ O.out
     have d : Hid (dp true ts (ay true ts f) i = some (l ++ [⟨6,0,e0,tx ts (i + 1),[],t⟩],k)):=by
      show _ = _;unfold dp;rw [h1,h2,h3,p.out];show (if isT ts j bA = true then _ else none) = _;rw [h4,O.out];rfl
     have d2 : A.length = l.length:=by rw [<- T,List.length_map]
     obtain ⟨F,C,V⟩:=ad O6.own;obtain ⟨E,D⟩:=xe ((xs ++ A).length);have Q : Hid (E = (xs ++ A).length):=D;have d1 : E <= 3000:=by rw [D,lap];omega
     rw [<- D] at V;subst V;clear D
     have n : ∀ b,G.heap.size <= b -> b < J.heap.size -> b ∉ P :: v.ownBlock.toList:=fun b h1 _ z=>by
      simp only [List.mem_cons,Option.mem_toList] at z;rcases z with z | z
      ·omega
      ·have:=(HO.out.own.lt b z).2
       omega
     have U : Hid (OT B H (.slice u m s) y):=h.out.but b6 (fun b e=>n b (W.out b e) (h.out.own.lt b e).2) (fun b hb=>n b (be.out b hb) (h.out.names hb).2);have cn : Hid (OE B H (.slice F E C) (xs ++ A)):=O6;have cb : Hid (ag H P tb o k ts eT eV):=P6;have cm : Hid (A.map Prod.fst = l):=T
     have b9 : Hid (∀ b,(Value.slice F E C).ownBlock = some b -> v.ownBlock = some b \/ w.heap.size <= b):=fun b e=>by
      rcases a3 b e with q | q
      ·exact Or.inl q
      ·exact Or.inr (by omega)
     have Y : Hid (∀ b,b ∈ bd A -> J.heap.size <= b):=a6
     have a0 : Hid (∀ b,b ∈ jt ((⟨6,0,e0,tx ts (i + 1),[],t⟩ : EI),(⟨⟨none,0,0⟩,.slice u m s,y⟩ : EPl)) -> G.heap.size <= b /\ b < J.heap.size):=fun b hb=>by
      rcases mem_eiB hb with z | z | z
      ·exact absurd rfl z.1
      ·exact ⟨W.out b z,(h.out.own.lt b z).2⟩
      ·exact ⟨be.out b z,(h.out.names z).2⟩
     have dn:=N.out.size;have ce : Hid (H.ownsRow B 65 6 (.slice F E C) E (eisC (xs ++ A))):=by have z:=O6.own;rw [<- Q.out] at z;exact z
     clear h1 h2 h3 h4 b6 O6 T P6 a3 a6 n;go_wp2_with (first | (at_builtin;refine wpList_append_lies _ rfl _ _ 35 rfl B 65 i0 _ 6 96 Tryz.underlying35 cz cp co b0 rfl (by omega) (.slice F E C) (E) (eisC (xs ++ A)) rfl (ce.out.alloc _) ⟨H.heap.size,0,none⟩ 1 1 [.int .i64 6,.int .i64 0,.string ⟨#[]⟩,.string (tx ts (i + 1)),.slice none 0 0,.slice u m s] rfl rfl (World.news_of_block (cs:=#[.int .i64 6,.int .i64 0,.string ⟨#[]⟩,.string (tx ts (i + 1)),.slice none 0 0,.slice u m s]) (t:=65) (fr:=(0,0)) (heap_alloc_new H _)) (by simp [Value.oneCell']) (by omega) (by unfold maxLen;omega) (by omega) (by simp;omega) (H.heap.size + 1) (by simp) ?_;intro gg X cx g Z K c1))
     have b8 : Hid (iK B P tb o ts eT eV w v xs (some (l ++ [⟨6,0,e0,tx ts (i + 1),[],t⟩],k)) (.returned (.slice (some ⟨gg,0,none⟩) (E + 1) X)) cx):=by
      have z:=iw (ys:=A) (x:=(⟨6,0,e0,tx ts (i + 1),[],t⟩,⟨⟨none,0,0⟩,.slice u m s,y⟩)) hP htb (v:=v) cn.out cb.out N.out b9.out (by rw [<- Q.out];exact g) Z K ⟨aD.nil _ _ _,U.out,ck.out⟩ (fun b hb z=>by
        obtain ⟨q1,q2⟩:=a0.out b hb;rw [cI] at z;rcases List.mem_append.1 z with q | q
        ·have:=(HO.out.names q).2
         omega
        ·have:=Y.out b q
         omega) (by
        unfold jt;show (([] : List Nat) ++ ((Value.slice u m s).ownBlock.toList ++ aS y)).Nodup;rw [List.nil_append];refine List.nodup_append.2 ⟨?_,U.out.nd,fun a ha b hb e=>?_⟩
        ·cases (Value.slice u m s).ownBlock <;> simp
        ·subst e
         exact U.out.sep hb (by simpa using ha)) (fun b hb=>by have:=Y.out b hb;omega) (fun b hb=>by have:=(a0.out b hb).1;omega)
      rw [<- Q.out,cm.out] at z;exact z
     clear g Z K;go_wp2;go_ret;rw [d.out];exact b8.out
theorem uL {B P tb o : Nat} {ts : List TK} {eT : TypeId} {eV : Value} {f : Nat} (IH : lo B P tb o ts eT eV f) (hP : P < B) (htb : tb < B) {i : Nat} {w : World} {v : Value} {xs : List (EI × EPl)} (hps : ag w P tb o i ts eT eV) (hot : OE B w v xs) (hxi : xs.length <= i) (hB : B <= w.heap.size) (hf : ts.length - i < f + 1) (h1 : isT ts i ix = true) :
  Calls Tryz.prog 63 #[.pointer (some ⟨P,0,none⟩),v] w (iK B P tb o ts eT eV w v xs (ay true ts (f + 1) i)):=by
 have C : Hid (ay true ts (f + 1) i = dp true ts (ay true ts f) (i + 1)):=by show _ = _;rw [ay,if_pos h1]
 have g:=hQx IH;have z:=lS hps hot;have E:=aL h1;clear IH;go_enter Tryz.func63,Tryz.ntmps63;go_wp2_with fail;refine (bK ⟨#[102,117,110]⟩ w hps h1).mono ?_;rintro e F ⟨rfl,n,t⟩;have m:=z.low hP t n;obtain ⟨D,u,c,rd⟩:=m.read;have A:=m.1.size;rw [List.length_nil,Nat.add_zero] at c;have y:=Bx g.out hP htb n u (by omega) (by omega) (by omega);clear u n t m z hps hot;go_wp2_with fail;refine y.mono ?_;clear y;intro e s d;obtain ⟨x,no,a⟩:=rd _ _ _ d;obtain ⟨r,p⟩:=xe (dp true ts (ay true ts f) (i + 1));have b : Hid (ay true ts (f + 1) i = r):=C.out.trans p.symm;have j : Hid (ai (P :: v.ownBlock.toList) w s):=x;rw [<- p] at no a;clear p d rd x c
 cases r with
 | none=>
   have d:=no rfl;subst d;clear h1 no a;go_wp2;exact ⟨rfl,by rw [b.out];exact ⟨j.out,rfl⟩⟩
 | some r=>
   obtain ⟨l,k⟩:=r;obtain ⟨v2,rfl,q⟩:=a l k rfl;have h : Hid (jj B P tb o ts eT eV w v xs l k v2 s):=q;clear h1 no a q;go_wp2;go_ret;rw [b.out];exact h.out.ret
theorem xf {B P tb o : Nat} {ts : List TK} {eT : TypeId} {eV : Value} {f : Nat} (IH : lo B P tb o ts eT eV f) (hP : P < B) (htb : tb < B) {i : Nat} {w : World} {v : Value} {xs : List (EI × EPl)} (hps : ag w P tb o i ts eT eV) (hot : OE B w v xs) (hxi : xs.length <= i) (hB : B <= w.heap.size) (hf : ts.length - i < f + 1) (h1 : isT ts i sk = true) :
  Calls Tryz.prog 63 #[.pointer (some ⟨P,0,none⟩),v] w (iK B P tb o ts eT eV w v xs (ay true ts (f + 1) i)):=by
 have h0 : isT ts i ix = false:=bi h1 (by decide);have p : Hid (ay true ts (f + 1) i = pF ts (ay true ts f) (i + 1)):=by show _ = _;rw [ay,h0,if_neg (by decide),if_pos h1]
 have E:=hQx IH;have S0:=lS hps hot;have hi:=aL h1;have hn:=hps.tk.len;clear IH;obtain ⟨i0,a1,an,ah,T⟩:=info_parts Tryz.infoEI;go_enter Tryz.func63,Tryz.ntmps63;go_wp2_with fail;refine (aN ⟨#[102,117,110]⟩ w hps h0).mono ?_;rintro e w1 ⟨rfl,rfl⟩;go_wp2_with fail;refine (bK ⟨#[105,102]⟩ w hps h1).mono ?_;rintro e w1 ⟨rfl,p1,b1⟩;have S1:=S0.low hP b1 p1;clear b1 S0 hps hot h0 h1;obtain ⟨I,A,h,rd⟩:=S1.read;have L:=S1.1.size;have z:=E.out (i + 1) w1 _ I p1 A (by rw [h,List.length_nil];omega) (by omega) (by omega);clear A p1 S1 h;go_wp2_with fail;refine z.mono ?_;clear z;intro e O l;obtain ⟨y,no,a⟩:=rd _ _ _ l;obtain ⟨r,s⟩:=xe (ay true ts f (i + 1));have F : Hid (ay true ts f (i + 1) = r):=s.symm;have b : Hid (ai (P :: v.ownBlock.toList) w O):=y;rw [<- s] at no a;clear s l rd y
 cases r with
 | none=>
   have l:=no rfl;subst l
   have u : Hid (ay true ts (f + 1) i = none):=by
    show _ = _;rw [p.out];unfold pF;rw [F.out]
   clear no a;go_wp2;exact ⟨rfl,by rw [u.out];exact ⟨b.out,rfl⟩⟩
 | some r=>
   obtain ⟨c,j⟩:=r;obtain ⟨v2,rfl,Z⟩:=a c j rfl;rw [List.nil_append] at Z;obtain ⟨f1,f2,f3⟩:=bS f _ _ _ F.out;have H : Hid (jj B P tb o ts eT eV w v xs c j v2 O):=Z;clear no a Z;go_wp2_with fail;cases h2 : isT ts j jK
   case false=>
    have u : Hid (ay true ts (f + 1) i = none):=by
     show _ = _;rw [p.out];unfold pF;rw [F.out];show (if isT ts j jK = true then _ else none) = none;rw [h2];rfl
    refine (aP ⟨#[116,104,101,110]⟩ O H.out.ps h2).mono ?_;rintro e w9 ⟨rfl,rfl⟩;clear h2;go_wp2;exact ⟨rfl,by rw [u.out];exact ⟨b.out,rfl⟩⟩
   have j1:=aL h2;refine (cG ⟨#[116,104,101,110]⟩ O H.out.ps h2).mono ?_;rintro e w3 ⟨rfl,X,b3⟩;have W:=H.out.low hP b3 X;clear b3 b;obtain ⟨I,A,h,rd⟩:=W.read;have L:=W.1.size;have z:=E.out (j + 1) w3 _ I X A (by omega) (by omega) (by omega);clear A X W h;go_wp2_with fail;refine z.mono ?_;clear z;intro e R l;obtain ⟨y,no,a⟩:=rd _ _ _ l;obtain ⟨r,s⟩:=xe (ay true ts f (j + 1));have J : Hid (ay true ts f (j + 1) = r):=s.symm;have b : Hid (ai (P :: v.ownBlock.toList) w R):=y;rw [<- s] at no a;clear s l rd y
   cases r with
   | none=>
     have l:=no rfl;subst l
     have u : Hid (ay true ts (f + 1) i = none):=by
      show _ = _;rw [p.out];unfold pF;rw [F.out];show (if isT ts j jK = true then _ else none) = none;rw [h2,J.out];rfl
     clear no a h2;go_wp2;exact ⟨rfl,by rw [u.out];exact ⟨b.out,rfl⟩⟩
   | some r=>
     obtain ⟨d,k⟩:=r;obtain ⟨v4,rfl,S4⟩:=a d k rfl;obtain ⟨f4,f5,f6⟩:=bS f _ _ _ J.out;have G : Hid (jj B P tb o ts eT eV w v xs (c ++ d) k v4 R):=S4;clear no a S4;go_wp2_with fail;cases h3 : isT ts k lJ
     case false=>
      have u : Hid (ay true ts (f + 1) i = none):=by
       show _ = _;rw [p.out];unfold pF;rw [F.out];show (if isT ts j jK = true then _ else none) = none;rw [h2,J.out];show (if isT ts k lJ = true then _ else none) = none;rw [h3];rfl
      refine (aP ⟨#[101,108,115,101]⟩ R G.out.ps h3).mono ?_;rintro e w9 ⟨rfl,rfl⟩;clear h2 h3;go_wp2;exact ⟨rfl,by rw [u.out];exact ⟨b.out,rfl⟩⟩
     have k1:=aL h3;refine (cG ⟨#[101,108,115,101]⟩ R G.out.ps h3).mono ?_;rintro e w5 ⟨rfl,Y,b5⟩;have V:=G.out.low hP b5 Y;clear b5 b;obtain ⟨I,A,h,rd⟩:=V.read;have L:=V.1.size;have z:=E.out (k + 1) w5 _ I Y A (by rw [h,lap];omega) (by omega) (by omega);clear A Y V h;go_wp2_with fail;refine z.mono ?_;clear z;intro e Q l;obtain ⟨y,no,a⟩:=rd _ _ _ l;obtain ⟨r,s⟩:=xe (ay true ts f (k + 1));have U : Hid (ay true ts f (k + 1) = r):=s.symm;have b : Hid (ai (P :: v.ownBlock.toList) w Q):=y;rw [<- s] at no a;clear s l rd y
     cases r with
     | none=>
       have l:=no rfl;subst l
       have u : Hid (ay true ts (f + 1) i = none):=by
        show _ = _;rw [p.out];unfold pF;rw [F.out];show (if isT ts j jK = true then _ else none) = none;rw [h2,J.out];show (if isT ts k lJ = true then _ else none) = none;rw [h3,U.out];rfl
       clear no a h2 h3;go_wp2;exact ⟨rfl,by rw [u.out];exact ⟨b.out,rfl⟩⟩
     | some r=>
       obtain ⟨g,m⟩:=r;obtain ⟨v6,rfl,S6⟩:=a g m rfl;obtain ⟨f7,f8,f9⟩:=bS f _ _ _ U.out
       have u : Hid (ay true ts (f + 1) i = some (c ++ d ++ g ++ [fM 8],m)):=by
        show _ = _;rw [p.out];unfold pF;rw [F.out];show (if isT ts j jK = true then _ else none) = _;rw [h2,J.out];show (if isT ts k lJ = true then _ else none) = _;rw [h3,U.out];rfl
       have bn:=S6.1.size;obtain ⟨va,n,vc,C,hv,N,OW,bf,push⟩:=S6.own hP htb;subst hv;have bv : n <= 5000:=by rw [N];simp only [lap];omega
       clear N no a S6 h2 h3;go_wp2_with (first | (at_builtin;refine wpList_append_lies _ rfl _ _ 35 rfl B 65 i0 _ 6 96 Tryz.underlying35 a1 an ah T rfl (by omega) (.slice va n vc) n C rfl (OW.alloc _) ⟨Q.heap.size,0,none⟩ 1 1 [.int .i64 8,.int .i64 0,.string ⟨#[]⟩,.string ⟨#[]⟩,.slice none 0 0,.slice none 0 0] rfl rfl (World.news_of_block (cs:=#[.int .i64 8,.int .i64 0,.string ⟨#[]⟩,.string ⟨#[]⟩,.slice none 0 0,.slice none 0 0]) (t:=65) (fr:=(0,0)) (heap_alloc_new Q _)) (by simp [Value.oneCell']) (by omega) (by unfold maxLen;omega) (by omega) (by simp;omega) (Q.heap.size + 1) (by simp) ?_;intro gg x M q K D a4));have S : Hid (jj B P tb o ts eT eV w v xs (c ++ d ++ g ++ [fM 8]) m (.slice (some ⟨gg,0,none⟩) (n + 1) x) M):=push (fM 8) M gg x _ rfl rfl q K D;clear q K D push OW;go_wp2;go_ret;rw [u.out];exact S.out.ret
theorem tj {B P tb o : Nat} {ts : List TK} {eT : TypeId} {eV : Value} {f : Nat} (HN : iB ts) (IH : lo B P tb o ts eT eV f) (hP : P < B) (htb : tb < B) {i : Nat} {w : World} {v : Value} {xs : List (EI × EPl)} (hps : ag w P tb o i ts eT eV) (hot : OE B w v xs) (hxi : xs.length <= i) (hB : B <= w.heap.size) (hf : ts.length - i < f + 1) (h0 : isT ts i ix = false) (h1 : isT ts i sk = false) :
  Calls Tryz.prog 63 #[.pointer (some ⟨P,0,none⟩),v] w (iK B P tb o ts eT eV w v xs (ay true ts (f + 1) i)):=by
 have h : Hid (ay true ts (f + 1) i = cY true ts (ay true ts f) i):=by show _ = _;rw [ay,h0,if_neg (by decide),h1,if_neg (by decide)]
 have I:=hQx IH;have N:=hQx HN;have y:=hQx hps;have CA:=zf HN IH hP htb hps hot hxi hB hf;have hn:=hps.tk.len;clear IH HN hps hot;obtain ⟨i0,R,L,K,H⟩:=info_parts Tryz.infoEI;go_enter Tryz.func63,Tryz.ntmps63;go_wp2_with fail;refine (aN ⟨#[102,117,110]⟩ w y.out h0).mono ?_;rintro e u ⟨rfl,rfl⟩;go_wp2_with fail;refine (aN ⟨#[105,102]⟩ w y.out h1).mono ?_;rintro e u ⟨rfl,rfl⟩;clear h0 h1;go_wp2_with fail;refine CA.mono ?_;clear CA;intro e u a;obtain ⟨r,s⟩:=xe (cu true ts (ay true ts f) i);have x : Hid (cu true ts (ay true ts f) i = r):=s.symm;rw [<- s] at a;clear s
 cases r with
 | none=>
   obtain ⟨V,a⟩:=a;have a : e = .panicked [{ v:=.iface eT eV,recovered:=false }]:=a;subst a;have S : Hid (ai (P :: v.ownBlock.toList) w u):=V;have q : Hid (ay true ts (f + 1) i = none):=by show _ = _;rw [h.out];unfold cY;rw [x.out]
   clear V;go_wp2;exact ⟨rfl,by rw [q.out];exact ⟨S.out,rfl⟩⟩
 | some r=>
   obtain ⟨l,j⟩:=r;obtain ⟨v1,rfl,S1⟩:=iK.some a;obtain ⟨f1,f2,f3⟩:=jY (bS f) _ _ _ x.out;have g : Hid (jj B P tb o ts eT eV w v xs l j v1 u):=S1;clear a S1;go_wp2_with fail;cases h2 : isT ts j jI
   case false=>
    have q : Hid (ay true ts (f + 1) i = some (l,j)):=by
     show _ = _;rw [h.out];unfold cY;rw [x.out];show (if isT ts j jI = true then _ else some (l,j)) = _;rw [h2];rfl
    refine (aN ⟨#[60]⟩ u g.out.ps h2).mono ?_;rintro e w9 ⟨rfl,rfl⟩;clear h2;go_wp2;go_ret;rw [q.out];exact g.out.ret
   have j1:=aL h2;refine (bK ⟨#[60]⟩ u g.out.ps h2).mono ?_;rintro e w3 ⟨rfl,Q,Z⟩;have G:=g.out.low hP Z Q;clear Z;obtain ⟨zs,W,M,rd⟩:=G.read;have a0:=G.1.size;have CE:=zf N.out I.out hP htb Q W (by omega) (by omega) (by omega);clear W Q G M;go_wp2_with fail;refine CE.mono ?_;clear CE;intro e E a;obtain ⟨Y,no,c⟩:=rd _ _ _ a;obtain ⟨r,s⟩:=xe (cu true ts (ay true ts f) (j + 1));have J : Hid (cu true ts (ay true ts f) (j + 1) = r):=s.symm;have O : Hid (ai (P :: v.ownBlock.toList) w E):=Y;rw [<- s] at no c;clear s a rd Y
   cases r with
   | none=>
     have a:=no rfl;subst a
     have q : Hid (ay true ts (f + 1) i = none):=by
      show _ = _;rw [h.out];unfold cY;rw [x.out];show (if isT ts j jI = true then _ else some (l,j)) = _;rw [h2,J.out];rfl
     clear no c h2;go_wp2;exact ⟨rfl,by rw [q.out];exact ⟨O.out,rfl⟩⟩
   | some r=>
     obtain ⟨d,k⟩:=r;obtain ⟨v4,rfl,T⟩:=c d k rfl;obtain ⟨f4,f5,f6⟩:=jY (bS f) _ _ _ J.out
     have q : Hid (ay true ts (f + 1) i = some (l ++ d ++ [fM 10],k)):=by
      show _ = _;rw [h.out];unfold cY;rw [x.out];show (if isT ts j jI = true then _ else some (l,j)) = _;rw [h2,J.out];rfl
     have a3:=T.1.size;obtain ⟨va,n,vc,C,hv,A,U,a1,push⟩:=T.own hP htb;subst hv;have ar : n <= 5000:=by rw [A];simp only [lap];omega
     clear A no c T h2;go_wp2_with (first | (at_builtin;refine wpList_append_lies _ rfl _ _ 35 rfl B 65 i0 _ 6 96 Tryz.underlying35 R L K H rfl (by omega) (.slice va n vc) n C rfl (U.alloc _) ⟨E.heap.size,0,none⟩ 1 1 [.int .i64 10,.int .i64 0,.string ⟨#[]⟩,.string ⟨#[]⟩,.slice none 0 0,.slice none 0 0] rfl rfl (World.news_of_block (cs:=#[.int .i64 10,.int .i64 0,.string ⟨#[]⟩,.string ⟨#[]⟩,.slice none 0 0,.slice none 0 0]) (t:=65) (fr:=(0,0)) (heap_alloc_new E _)) (by simp [Value.oneCell']) (by omega) (by unfold maxLen;omega) (by omega) (by simp;omega) (E.heap.size + 1) (by simp) ?_;intro gg m z b D p X));have F : Hid (jj B P tb o ts eT eV w v xs (l ++ d ++ [fM 10]) k (.slice (some ⟨gg,0,none⟩) (n + 1) m) z):=push (fM 10) z gg m _ rfl rfl b D p;clear b D p push U;go_wp2;go_ret;rw [q.out];exact F.out.ret
theorem nB {B P tb o : Nat} {ts : List TK} {eT : TypeId} {eV : Value} (HN : iB ts) (hP : P < B) (htb : tb < B) : ∀ f,lo B P tb o ts eT eV f
 | 0=>fun _ _ _ _ _ _ _ hf=>absurd hf (Nat.not_lt_zero _)
 | f + 1=>fun i w v xs hps hot hxi hf hB=>by
   cases h0 : isT ts i ix with
   | true=>exact uL (nB HN hP htb f) hP htb hps hot hxi hB hf h0
   | false=>
     cases h1 : isT ts i sk with
     | true=>exact xf (nB HN hP htb f) hP htb hps hot hxi hB hf h1
     | false=>exact tj HN (nB HN hP htb f) hP htb hps hot hxi hB hf h0 h1
end Go.Proofs.YtihedobejcaapaaGreatDoor
