/-
  VbD VbE VbF
-/
import Derived.Test.YtihedobejcaapaaGreatDoorB2
set_option maxHeartbeats 4000000
set_option maxRecDepth 100000
namespace Go.Proofs.YtihedobejcaapaaGreatDoor
open Go.RowKit
def yX (l : List TI) (e : Nat) : Prop:=∀ j,j < e -> aT l j = some (FT l j).needs.length
theorem wH {l : List TI} {xs : List (TI × NPl)} (hl : xs.map Prod.fst = l) {e k : Nat} (h : yX l e) (hk : k < e) (hx : k < xs.length) : dJ (fT xs[k].1) = ((FT l k).needs.length : Int):=by
 have a:=h k hk;rw [rm hl hx] at a
 cases hf : fT xs[k].1 with
 | none=>rw [hf] at a;cases a
 | some f=>
   rw [hf] at a;show (f.needs.length : Int) = _;have b : f.needs.length = (FT l k).needs.length:=Option.some.inj a;rw [b]
theorem zh {l : List TI} {xs : List (TI × NPl)} (hl : xs.map Prod.fst = l) (hs : ∀ x,x ∈ xs -> Ca x.1) (k : Nat) : (FT l k).needs.length <= 1048576:=by
 unfold FT
 cases h : (l[k]?).bind fT with
 | none=>exact Nat.zero_le _
 | some f=>
   obtain ⟨t,d,b⟩:=Option.bind_eq_some_iff.1 h;have a : t ∈ l:=List.mem_of_getElem? d;rw [<- hl] at a;obtain ⟨x,e,rfl⟩:=List.mem_map.1 a;have c:=(hs x e).1;show f.needs.length <= _;unfold fT at b;refine ac b (fun h=>ac h (fun h=>by cases h;exact Nat.zero_le _) aa) fun h=>?_;refine ac h (fun h=>?_) aa;refine ac h (fun h=>ac h (fun h=>by cases h;rw [(bq _ _ _).2.1];exact c) aa) fun h=>?_;refine ac h (fun h=>?_) aa;refine ac h (fun h=>by cases h;exact Nat.zero_le _) fun h=>?_;refine ac h (fun h=>by cases h;exact Nat.zero_le _) fun h=>?_;refine ac h (fun h=>by cases h;exact Nat.zero_le _) fun h=>?_;exact ac h (fun h=>by cases h;show 2 <= 1048576;omega) aa
theorem oE (w : World) {v : Value} {xs : List (TI × NPl)} (h : fq w v xs) {l : List TI} (hl : xs.map Prod.fst = l) {e : Nat} (he : e <= xs.length) (har : yX l e) {z : Int} (hz : z = e) :
  Calls Tryz.prog 67 #[v,.int .i64 z] w fun r w'=>r = .returned (.int .i64 (cl (fun i=>(FT l i).needs.length) e 1 : Nat)) /\ Bw w w':=by
 subst hz;obtain ⟨a,c,rfl⟩:=h.form;have N : Hid (∀ W,Bw w W -> fq W (.slice a xs.length c) xs):=fun W hb=>h.below hb;have M:=h.len;have E : Hid (∀ k (H : k < xs.length),k < e -> dJ (fT xs[k].1) = ((FT l k).needs.length : Int)):=fun k H hke=>wH hl har hke H;have t : Hid (∀ k,(FT l k).needs.length <= 1048576):=zh hl h.sz;obtain ⟨f,d⟩ : ∃ f : Nat -> Nat,f = fun i=>(FT l i).needs.length:=⟨_,rfl⟩;have j : Hid (∀ k,(FT l k).needs.length = f k):=fun k=>by rw [d]
 rw [<- d];obtain ⟨R,u⟩:=xe (cl f e 1);have Y : Hid (cl f e 1 = R):=u.symm;rw [<- u];clear h hl har d u;go_enter Tryz.func67,Tryz.ntmps67;go_wp2
 go_loopw [5,6] (fun nd i wr=>∃ k m : Nat,k <= e /\ m <= 1 + (e - k) * 1048576 /\ i = .int .i64 k /\ nd = .int .i64 m /\ Hid (cl f k m = R) /\ Hid (Bw w wr)) (fun _ i _=>(intOf i).toNat)
 case atStart=>exact ⟨e,1,nlr _,by omega,rfl,rfl,Y,Below.refl _ _⟩
 case round=>
  obtain ⟨k,m,H,S,rfl,rfl,B,q⟩:=hrel;by_cases T : 0 < k
  ·by_cases Z : 0 < m
   ·obtain ⟨b,rfl⟩ : ∃ b,k = b + 1:=⟨k - 1,by omega⟩
    have K : b < xs.length:=by omega
    obtain ⟨g,rfl,V,P,U,y3,y⟩:=(N.out wr q.out).item K;have p:=E.out b K (by omega);rw [j.out] at p;have F : f b <= 1048576:=by rw [<- j.out];exact t.out b
    obtain ⟨X,L⟩:=xe (xs[b]);rw [<- L] at V P U y3 y p;obtain ⟨n,G⟩:=xe (f b);rw [<- G] at p F;have C : Hid (Calls Tryz.prog 50 #[.agg #[.int .i64 X.1.op,.string X.1.md,.string X.1.nm,.slice X.2.a X.1.ns.length X.2.c]] wr fun e w'=>e = .returned (.int .i64 (n : Int)) /\ Bw wr w'):=by rw [<- p];exact vi wr y
    have HN : Hid (cl f b (m - 1 + n) = R):=by
     show _ = _;rw [<- B.out,cl,if_neg (by omega),G]
    have A : m - 1 + n <= 1 + (e - b) * 1048576:=by
     have : (e - b) * 1048576 = (e - (b + 1)) * 1048576 + 1048576:=by
      rw [show e - b = (e - (b + 1)) + 1 by omega,Nat.add_mul,Nat.one_mul]
     omega
    have Q : m <= 2000000000000:=by
     have : (e - (b + 1)) * 1048576 <= 1048576 * 1048576:=Nat.mul_le_mul_right _ (by omega);omega
    have kp : (0 : Int) < (b : Int) + 1:=by omega
    have mp : (0 : Int) < (m : Int):=by omega
    have w1 : IntKind.i64.wrap ((b : Int) + 1 - 1) = (b : Int):=wk (by omega);have O : IntKind.i64.wrap (b : Int) = (b : Int):=wk (by omega);have J : IntKind.i64.wrap ((m : Int) - 1) = (m : Int) - 1:=wk (by omega);have w3 : IntKind.i64.wrap ((m : Int) - 1 + (n : Int)) = (m : Int) - 1 + (n : Int):=wk (by omega);have ab : (b : Int) < (xs.length : Int):=by omega
    have an : (0 : Int) <= (b : Int):=by omega
    clear y L p G S;go_wp2_with (first | (go_at_call 50;refine C.out.mono ?_;rintro e J ⟨rfl,o⟩));have I : Hid (Bw w J):=q.out.trans (o.mono q.out.size);clear o
    go_roundw
    case rel=>exact ⟨b,m - 1 + n,by omega,A,by first | rfl | (congr 1;omega) | go_num,by congr 1;omega,HN,I⟩
    case measure=>simp [intOf]
   ·have x : m = 0:=by omega
    subst x;have s : Hid (R = k):=by show _ = _;rw [<- B.out,jo]
    have kp : (0 : Int) < (k : Int):=by omega
    go_wp2;go_ret;exact ⟨by rw [s.out];rfl,q.out⟩
  ·have D : k = 0:=by omega
   subst D;have s : Hid (R = 0):=by show _ = _;rw [<- B.out];rfl
   go_wp2;go_ret;exact ⟨by rw [s.out];rfl,q.out⟩
theorem jc {B : Nat} {w wr w5 : World} {o : Obj} {row : Option Nat} (h : Below B w wr) (hg : (wr.alloc o).grownBy w5 row) (hr : ∀ b,row = some b -> B <= b) (hB : B <= wr.heap.size:=by omega) : Below B w w5:=
 (h.alloc hB o).grown hg (by simp only [World.size_alloc];omega) hr
def itB (a : Nat -> Nat) : Nat -> Nat -> Nat
 | 0,at_=>at_
 | i + 1,at_=>cl a (itB a i at_) 1
theorem oO (a : Nat -> Nat) : ∀ i at_,itB a i (cl a at_ 1) = itB a (i + 1) at_
 | 0,_=>rfl
 | i + 1,at_=>by rw [itB,oO a i];rfl
theorem kv (a : Nat -> Nat) : ∀ i at_,cC a (i + 1) at_ = itB a i at_ :: cC a i at_
 | 0,_=>rfl
 | i + 1,at_=>by
   rw [cC,kv a i (cl a at_ 1),oO];rfl
theorem bw (a : Nat -> Nat) : ∀ i at_,(cC a i at_).length = i
 | 0,_=>rfl
 | i + 1,at_=>by rw [cC,lap,bw a i];rfl
theorem pZ (a : Nat -> Nat) : ∀ i at_,itB a i at_ <= at_
 | 0,_=>nlr _
 | i + 1,at_=>Nat.le_trans (mY a _ _) (pZ a i at_)
def eh (es : List Nat) : List Value:=es.flatMap fun e : Nat=>[Value.int .i64 (e : Int)]
theorem oY (es : List Nat) (e : Nat) : eh (es ++ [e]) = eh es ++ [.int .i64 (e : Int)]:=by simp [eh]
theorem xv (e : Nat) : ([Value.int .i64 (e : Int)]).length = 1:=rfl
theorem Tryz.infoInt : (Tryz.prog.info? 3).map (fun i=>(i.zero,i.size,i.bytes)) = some (some (.int .i64 0),1,8):=by kernel_rfl
theorem aU {B : Nat} {w : World} {v : Value} {es : List Nat} (h : w.ownsRow B 3 1 v es.length (eh es)) {g : Nat} (hg : v.ownBlock = some g) {j : Nat} (hj : j < es.length) : w.cell? ⟨g,j,none⟩ = some (.int .i64 (es[j] : Int)):=by
 have:=af (f:=fun e : Nat=>[Value.int .i64 (e : Int)]) xv h hg (j:=j) (r:=0) hj (by omega) rfl;rw [Nat.mul_one,Nat.add_zero] at this;exact this
theorem kq (w : World) {v : Value} {xs : List (TI × NPl)} (h : fq w v xs) {l : List TI} (hl : xs.map Prod.fst = l) {e : Nat} (he : e < xs.length) (har : yX l (e + 1)) {z : Int} (hz : z = ((e + 1 : Nat) : Int)) :
  Calls Tryz.prog 53 #[v,.int .i64 z] w fun r w'=>∃ va cp,r = .returned (.slice va (FT l e).needs.length cp) /\ w'.ownsRow w.heap.size 3 1 (.slice va (FT l e).needs.length cp) (FT l e).needs.length (eh (cC (fun i=>(FT l i).needs.length) (FT l e).needs.length e)) /\ Bw w w':=by
 subst hz;rw [show ((e + 1 : Nat) : Int) = (e : Int) + 1 by omega];obtain ⟨a,c,rfl⟩:=h.form;obtain ⟨i0,be,a9,a8,V⟩:=info_parts Tryz.infoInt;have bv:=h.len
 have L : Hid (∀ W,Bw w W -> ∃ g,a = some ⟨g,0,none⟩ /\ W.cell? ⟨g,e * 4,none⟩ = some (Value.int .i64 xs[e].1.op) /\ W.cell? ⟨g,e * 4 + 1,none⟩ = some (Value.string xs[e].1.md) /\ W.cell? ⟨g,e * 4 + 2,none⟩ = some (Value.string xs[e].1.nm) /\ W.cell? ⟨g,e * 4 + 3,none⟩ = some (Value.slice xs[e].2.a xs[e].1.ns.length xs[e].2.c) /\ Hid (Calls Tryz.prog 50 #[.agg #[.int .i64 xs[e].1.op,.string xs[e].1.md,.string xs[e].1.nm,.slice xs[e].2.a xs[e].1.ns.length xs[e].2.c]] W fun r w'=>r = .returned (.int .i64 ((FT l e).needs.length : Int)) /\ Hid (Bw W w'))):=fun W hb=>by
  obtain ⟨g,r1,Z,Y,y2,y3,ti⟩:=(h.below hb).item he;refine ⟨g,r1,Z,Y,y2,y3,?_⟩;have:=vi W ti;rw [wH hl har (Nat.lt_succ_self _) he] at this;exact this
 have K : Hid (∀ (W : World) (k : Nat) (z : Int),Bw w W -> k <= e -> z = k -> Calls Tryz.prog 67 #[.slice a xs.length c,.int .i64 z] W fun r w'=>r = .returned (.int .i64 (cl (fun i=>(FT l i).needs.length) k 1 : Nat)) /\ Bw W w'):=fun W k z hb hk hz=>oE W (h.below hb) hl (by omega) (fun j hj=>har j (by omega)) hz;obtain ⟨X,hX⟩:=xe (xs[e]);obtain ⟨n,T⟩:=xe ((FT l e).needs.length);have cc : n <= 1048576:=by rw [T];exact zh hl h.sz e
 obtain ⟨d,u⟩ : ∃ d : Nat -> Nat,d = fun i=>(FT l i).needs.length:=⟨_,rfl⟩;rw [<- u] at K;rw [<- hX,<- T] at L;rw [<- T,<- u];have ST : Hid ((w.alloc (.cells #[] 3)).ownsRow w.heap.size 3 1 (.slice (some ⟨w.heap.size,0,none⟩) 0 0) 0 (eh (cC d 0 e))):=World.ownsRow_lit (e:=3) (size:=1) w #[] 0 (nlr _) (by unfold maxLen;omega) (by rfl);clear h hl har u T hX;go_enter Tryz.func53,Tryz.ntmps53;have b2 : IntKind.i64.wrap ((e : Int) + 1 - 1) = (e : Int):=wk (by omega);have ck : IntKind.i64.wrap (e : Int) = (e : Int):=wk (by omega);have cn : (e : Int) < (xs.length : Int):=by omega
 have b9 : (0 : Int) <= (e : Int):=by omega
 go_wp2
 go_loopw [5,6,7,8,9] (fun o at_ i _ _ wr=>∃ (k : Nat) (I : Option Addr) (J : Nat),k <= n /\ i = .int .i64 k /\ at_ = .int .i64 (itB d k e : Nat) /\ o = .slice I k J /\ Hid (wr.ownsRow w.heap.size 3 1 (.slice I k J) k (eh (cC d k e))) /\ Hid (Bw w wr)) (fun _ _ i _ _ _=>n - (intOf i).toNat)
 case atStart=>exact ⟨0,_,_,Nat.zero_le _,rfl,by first | rfl | (simp [itB]),rfl,ST,bel1 _ _⟩
 case round=>
  clear ST;obtain ⟨k,I,J,hk,rfl,rfl,rfl,S,R⟩:=hrel;obtain ⟨g,rfl,Z,Y,y2,y3,CA⟩:=L.out wr R.out;obtain ⟨s,y⟩:=xe (itB d k e);have a7 : s <= e:=by rw [y];exact pZ _ _ _
  have Q : Hid (itB d k e = s):=y.symm;rw [<- y];clear y;by_cases ca : k < n
  ·have lk : (k : Int) < (n : Int):=by omega
   go_wp2_with fail;refine CA.out.mono ?_;rintro r p ⟨rfl,q⟩;have f : Hid (Bw w p):=R.out.trans (q.out.mono R.out.size);have B : Hid (p.ownsRow w.heap.size 3 1 (.slice I k J) k (eh (cC d k e))):=aG S.out (fun b e=>q.out.block b (S.out.lt b e.symm).2);have a0:=f.out.size
   have M : Hid ((p.alloc (.cells #[.int .i64 (s : Int)] 3)).ownsRow p.heap.size 3 1 (.slice (some ⟨p.heap.size,0,none⟩) 1 1) (0 + 1) (eh (s :: (cC d k e).take 0))):=by
    have:=World.ownsRow_lit (e:=3) (size:=1) p #[.int .i64 (s : Int)] 1 (nlr _) (by unfold maxLen;omega) (by rfl);exact this
   clear CA q Z Y y2 y3;go_wp2
   go_loopw [8,9] (fun nx j wr=>∃ (m : Nat) (D : Option Addr) (G : Nat),m <= k /\ j = .int .i64 m /\ nx = .slice D (m + 1) G /\ Hid (wr.ownsRow p.heap.size 3 1 (.slice D (m + 1) G) (m + 1) (eh (s :: (cC d k e).take m))) /\ Hid (Bw p wr)) (fun _ j _=>k - (intOf j).toNat)
   case atStart=>exact ⟨0,_,_,Nat.zero_le _,rfl,rfl,M,bel1 _ _⟩
   case round=>
    rename World=>C;clear M;obtain ⟨m,D,G,hm,rfl,rfl,U,A⟩:=hrel;have b7:=A.out.size;by_cases b8 : m < k
    ·have N : Hid (C.ownsRow w.heap.size 3 1 (.slice I k J) k (eh (cC d k e))):=aG B.out (fun b e=>A.out.block b (B.out.lt b e.symm).2)
     obtain ⟨go,gc,ev,_⟩:=au N.out (show 0 < k by omega);simp only [Value.slice.injEq] at ev;obtain ⟨rfl,-,rfl⟩:=ev;have O:=bw d k e;have cm : C.cell? ⟨go,m,none⟩ = some (.int .i64 ((cC d k e)[m]'(by omega) : Nat)):=aU (es:=cC d k e) (by rw [O];exact N.out) rfl (by omega);obtain ⟨x,hx⟩:=xe ((cC d k e)[m]'(by omega));rw [<- hx] at cm
     have an : Hid ((cC d k e).take (m + 1) = (cC d k e).take m ++ [x]):=by
      show _ = _;rw [List.take_add_one,List.getElem?_eq_getElem (by omega),hx];rfl
     clear O hx;go_wp2_with (first | (at_builtin;refine wpList_append_lies _ rfl _ _ 95 rfl p.heap.size 3 i0 _ 1 8 Tryz.underlying95 be a9 a8 V rfl (by omega) (.slice D (m + 1) G) (m + 1) (eh (s :: (cC d k e).take m)) rfl (U.out.alloc _) ⟨C.heap.size,0,none⟩ 1 1 [.int .i64 (x : Int)] rfl rfl (World.news_of_block (cs:=#[.int .i64 (x : Int)]) (t:=3) (fr:=(0,0)) (heap_alloc_new C _)) (by simp [Value.oneCell']) (by omega) (by unfold maxLen;omega) (by omega) (by simp only [World.size_alloc];omega) (C.heap.size + 1) (by simp) ?_;intro gg bn w5 E ah b0 bo));have a5 : Hid (Bw p w5):=jc A.out ah (fun b e=>(U.out.lt b e).1);refine ⟨⟨m + 1,_,_,by omega,by go_num,rfl,?_,a5⟩,by simp [intOf];omega⟩;show World.ownsRow _ _ _ _ _ _ _;rw [an.out,show s :: ((cC d k e).take m ++ [x]) = (s :: (cC d k e).take m) ++ [x] from rfl,oY];exact E
    ·have P : m = k:=by omega
     subst P
     have HF : Hid (C.ownsRow w.heap.size 3 1 (.slice D (m + 1) G) (m + 1) (eh (cC d (m + 1) e))):=by
      have:=U.out;rw [List.take_of_length_le (by rw [bw];exact nlr _),<- Q.out,<- kv] at this;exact aq this (by omega)
     have H : Hid (Bw w C):=f.out.trans (A.out.mono a0);have CS:=K.out C s (s : Int) H.out a7 rfl;have ao : Hid (cl d s 1 = itB d (m + 1) e):=by show _ = _;rw [<- Q.out];rfl
     clear U;go_wp2_with (first | (go_at_call 67;refine CS.mono ?_;rintro r w6 ⟨rfl,F⟩));have a3 : Hid (w6.ownsRow w.heap.size 3 1 (.slice D (m + 1) G) (m + 1) (eh (cC d (m + 1) e))):=aG HF.out (fun b e=>F.block b (HF.out.lt b e.symm).2);have ab : Hid (Bw w w6):=H.out.trans (F.mono H.out.size);clear F
     go_roundw
     case rel=>exact ⟨m + 1,D,G,by omega,by go_num,by rw [ao.out],rfl,a3,ab⟩
     case measure=>simp [intOf];omega
  ·have bb : k = n:=by omega
   subst bb;have lk : ¬ (k : Int) < (k : Int):=by omega
   go_wp2_with fail;refine CA.out.mono ?_;rintro r p ⟨rfl,q⟩;have f : Hid (Bw w p):=R.out.trans (q.out.mono R.out.size);have B : Hid (p.ownsRow w.heap.size 3 1 (.slice I k J) k (eh (cC d k e))):=aG S.out (fun b e=>q.out.block b (S.out.lt b e.symm).2);go_wp2;go_ret;exact ⟨_,_,rfl,B.out,f.out⟩
end Go.Proofs.YtihedobejcaapaaGreatDoor
namespace Go.Proofs.YtihedobejcaapaaGreatDoor
def bU (sign : ByteArray) (ns : List ByteArray) (P : Nat -> ByteArray) : Nat -> ByteArray
 | 0=>xO
 | i + 1=>((if 0 < i then bU sign ns P i ++ ld else bU sign ns P i) ++ ns.getD i e0) ++ sign ++ P i
theorem qj (p : Wh) : brk 0 p = p.1:=by unfold brk;rw [if_neg (Nat.not_lt_zero _)]
theorem qL (sign ah : ByteArray) (n : ByteArray) (ns : List ByteArray) (p : Wh) (ps : List Wh) : aC (List.replicate (n :: ns).length 0) (jq sign ah (n :: ns)) (p :: ps) = ah ++ n ++ sign ++ p.1 ++ aC (List.replicate ns.length 0) (jq sign ld ns) ps:=by
 rw [List.length_cons,List.replicate_succ,jq,aC,qj]
theorem vP {sign : ByteArray} {ns : List ByteArray} {ps : List Wh} (hl : ps.length = ns.length) : ∀ i,i < ns.length -> aC (List.replicate ns.length 0) (jq sign xO ns) ps = bU sign ns (fun i=>(ps.getD i (e0,0)).1) (i + 1) ++ aC (List.replicate (ns.drop (i + 1)).length 0) (jq sign ld (ns.drop (i + 1))) (ps.drop (i + 1))
 | 0,h=>by
   cases ns with
   | nil=>simp at h
   | cons n ns=>
     cases ps with
     | nil=>simp at hl
     | cons p ps=>
       rw [qL];rfl
 | i + 1,h=>by
   rw [vP hl i (by omega)];have h2 : i + 1 < ps.length:=by omega
   rw [List.drop_eq_getElem_cons h,List.drop_eq_getElem_cons h2,qL];have b : bU sign ns (fun i=>(ps.getD i (e0,0)).1) (i + 1 + 1) = ((bU sign ns (fun i=>(ps.getD i (e0,0)).1) (i + 1) ++ ld) ++ ns.getD (i + 1) e0) ++ sign ++ (ps.getD (i + 1) (e0,0)).1:=by rw [bU,if_pos (Nat.succ_pos _)]
   have a : ns.getD (i + 1) e0 = ns[i + 1]:=by rw [List.getD_eq_getElem?_getD,List.getElem?_eq_getElem h,Option.getD_some]
   rw [b,a];have e : (ps.getD (i + 1) (e0,0)).1 = ps[i + 1].1:=by rw [List.getD_eq_getElem?_getD,List.getElem?_eq_getElem h2,Option.getD_some]
   rw [e];simp only [ByteArray.append_assoc]
theorem mC {sign : ByteArray} {ns : List ByteArray} {ps : List Wh} (lev : Nat) (hl : ps.length = ns.length) : aC (fF ns sign lev).needs (fF ns sign lev).texts ps = bU sign ns (fun i=>(ps.getD i (e0,0)).1) ns.length ++ xC:=by
 unfold fF;by_cases h : ns.length = 0
 ·rw [if_pos h,h]
  rfl
 ·rw [if_neg h]
  obtain ⟨n,a⟩ : ∃ n,ns.length = n + 1:=⟨ns.length - 1,by omega⟩;have:=vP (sign:=sign) hl n (by omega);show aC (List.replicate ns.length 0) (jq sign xO ns) ps = _;rw [this,a,List.drop_of_length_le (by omega),List.drop_of_length_le (by omega)];rfl
theorem px {sign : ByteArray} {ns : List ByteArray} {ps : List Wh} (lev : Nat) (hl : ps.length = ns.length) {i : Nat} (hi : i <= ns.length) : (bU sign ns (fun i=>(ps.getD i (e0,0)).1) i).size <= (aC (fF ns sign lev).needs (fF ns sign lev).texts ps).size:=by
 rw [mC lev hl,bsa]
 have mono : ∀ j k,j <= k -> (bU sign ns (fun i=>(ps.getD i (e0,0)).1) j).size <= (bU sign ns (fun i=>(ps.getD i (e0,0)).1) k).size:=by
  intro j k a
  induction k with
  | zero=>have : j = 0:=by omega
          subst this;exact nlr _
  | succ k ih=>
    by_cases e : j = k + 1
    ·rw [e];exact nlr _
    ·have:=ih (by omega)
     rw [bU,bsa,bsa,bsa]
     split
     ·rw [bsa];omega
     ·omega
 have:=mono i ns.length hi;omega
theorem aZ {a : Nat -> Nat} {e n : Nat} (hv : Vk a e) (hn : n <= (en a e).length) {p : Nat} (hp : p ∈ cC a n e) : 0 < p /\ p <= e:=by
 rw [qv n e hv hn] at hp;obtain ⟨j,b,rfl⟩:=List.mem_iff_getElem.1 (List.mem_of_mem_drop hp);exact (qx hv (List.getElem?_eq_getElem b)).2
theorem uW {l : List TI} {e : Nat} {t : TI} {f : Fm} (ht : l[e]? = some t) (hf : fT t = some f) (hv : Vk (fun i=>(FT l i).needs.length) (e + 1)) : pw (FT l) (e + 1) = (aC f.needs f.texts ((cC (fun i=>(FT l i).needs.length) f.needs.length e).map (pw (FT l))),f.lev):=by
 have a : FT l e = f:=by unfold FT;rw [ht];show (fT t).getD wK = f;rw [hf];rfl
 rw [zo hv,a]
theorem ak {c : Prop} [Decidable c] {x y : Option Fm} {f : Fm} {P : Prop} (h : (if c then x else y) = some f) (h1 : c -> x = some f -> P) (h2 : ¬ c -> y = some f -> P) : P:=by
 split at h
 case isTrue z=>exact h1 z h
 case isFalse z=>exact h2 z h
theorem A4 {t : TI} {f : Fm} (h : fT t = some f) : (f.lev < 1) ↔ t.op = 6:=by
 unfold fT at h
 have no : ∀ {g : Fm},g.lev = 1 -> t.op ≠ 6 -> some g = some f -> ((f.lev < 1) ↔ t.op = 6):=fun h1 h2 e=>by
  cases e;exact ⟨fun z=>by omega,fun z=>absurd z h2⟩
 refine ak h (fun z h=>ac h (no rfl (by omega)) aa) fun z4 h=>?_;refine ac h (fun h=>?_) aa;refine ak h (fun z h=>ac h (no (bq _ _ _).2.2 (by omega)) aa) fun z5 h=>?_;refine ac h (fun h=>?_) aa;refine ak h (fun z h=>no rfl (by omega) h) fun z1 h=>?_;refine ak h (fun z h=>no rfl (by omega) h) fun z2 h=>?_;refine ak h (fun z h=>no rfl (by omega) h) fun z3 h=>?_;refine ak h (fun z h=>?_) fun _ h=>aa h;cases h;exact ⟨fun _=>z,fun _=>Nat.zero_lt_one⟩
end Go.Proofs.YtihedobejcaapaaGreatDoor
