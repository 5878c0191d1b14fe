/-
  YeI YeJ YeK YeL0
-/
import Derived.Test.YtihedobejcaapaaGreatDoorE3
import Derived.Test.YtihedobejcaapaaGreatDoorB9
import Derived.Deep.DeepCutAuto
import Derived.Lib.AppendIntMem
set_option maxHeartbeats 8000000
set_option maxRecDepth 100000
namespace Go.Proofs.YtihedobejcaapaaGreatDoor
open Go.RowKit
theorem wR {fo : Nat -> Option Fm} {lim k : Nat} (h : rn fo lim k = none) : ∀ n,k <= n -> rn fo lim n = none:=by
 intro n a
 induction n with
 | zero=>
   have : k = 0:=by omega
   rw [this] at h;exact h
 | succ n ih=>
   by_cases e : k = n + 1
   ·rw [<- e];exact h
   ·rw [rn,ih (by omega)]
theorem gV {fo : Nat -> Option Fm} {lim k n : Nat} (h : rn fo lim k = none) (hn : k <= n) : fP fo lim n = none:=by
 unfold fP;rw [wR h n hn]
theorem zb {fo : Nat -> Option Fm} {lim k : Nat} {st : List Wh} (h : rn fo lim k = some st) (hf : fo k = none) : rn fo lim (k + 1) = none:=by rw [rn,h,hf]
theorem uK {fo : Nat -> Option Fm} {lim k : Nat} {st : List Wh} {f : Fm} (h : rn fo lim k = some st) (hf : fo k = some f) (hl : st.length < f.needs.length) : rn fo lim (k + 1) = none:=by
 rw [rn,h,hf]
 dsimp only
 rw [if_neg (by omega)]
def oV (f : Fm) (st : List Wh) : Wh:=(aC f.needs f.texts (st.drop (st.length - f.needs.length)),f.lev)
def dC (f : Fm) (st : List Wh) : List Wh:=st.take (st.length - f.needs.length) ++ [oV f st]
theorem ri (f : Fm) (st : List Wh) : szW (dC f st) + szW (st.drop (st.length - f.needs.length)) = szW st + (oV f st).1.size:=by
 unfold dC;rw [gW,dQ];have:=dX st (st.length - f.needs.length);omega
theorem uv {fo : Nat -> Option Fm} {lim k : Nat} {st : List Wh} {f : Fm} (h : rn fo lim k = some st) (hf : fo k = some f) (hl : f.needs.length <= st.length) (hs : lim < szW (dC f st)) : rn fo lim (k + 1) = none:=by
 rw [rn,h,hf]
 dsimp only
 rw [if_pos hl,if_neg (by unfold dC oV at hs;omega)]
theorem uB {fo : Nat -> Option Fm} {lim k : Nat} {st : List Wh} {f : Fm} (h : rn fo lim k = some st) (hf : fo k = some f) (hl : f.needs.length <= st.length) (hs : szW (dC f st) <= lim) : rn fo lim (k + 1) = some (dC f st):=by
 rw [rn,h,hf]
 dsimp only
 rw [if_pos hl,if_pos (by unfold dC oV at hs;omega)];rfl
theorem qZ {fo : Nat -> Option Fm} {lim : Nat} : ∀ {k : Nat} {st : List Wh},rn fo lim k = some st -> szW st <= lim /\ st.length <= k
 | 0,st,h=>by
   cases h;exact ⟨Nat.zero_le _,nlr _⟩
 | k + 1,st,h=>by
   rw [rn] at h
   split at h
   ·rename_i tC f e0 ef
    obtain ⟨i1,i2⟩:=qZ e0
    split at h
    ·split at h
     ·rename_i hs
      cases h;refine ⟨hs,?_⟩;rw [lap,List.length_take,List.length_singleton];omega
     ·cases h
    ·cases h
   ·cases h
def Bm (x : Wh) : List Value:=[.string x.1,.int .i64 (x.2 : Int)]
def jk (st : List Wh) : List Value:=st.flatMap Bm
theorem iQ (x : Wh) : (Bm x).length = 2:=rfl
theorem yF (st : List Wh) : (jk st).length = st.length * 2:=ks Bm 2 iQ st
theorem oq (st : List Wh) (x : Wh) : jk (st ++ [x]) = jk st ++ [.string x.1,.int .i64 (x.2 : Int)]:=by simp [jk,Bm]
theorem oU : ∀ (st : List Wh) (j : Nat),(jk st).take (j * 2) = jk (st.take j)
 | [],j=>by simp [jk]
 | x :: st,0=>by simp [jk]
 | x :: st,j + 1=>by
   show (Value.string x.1 :: .int .i64 (x.2 : Int) :: jk st).take ((j + 1) * 2) = Value.string x.1 :: .int .i64 (x.2 : Int) :: jk (st.take j);rw [<- oU st j,show (j + 1) * 2 = j * 2 + 1 + 1 by omega,List.take_succ_cons,List.take_succ_cons]
theorem rL {w : World} {B m vc j : Nat} {va : Option Addr} {st : List Wh} (h : w.ownsRow B 115 2 (.slice va m vc) m (jk st)) (hm : m = st.length) (hj : j <= m) : w.ownsRow B 115 2 (.slice va j vc) j (jk (st.take j)):=by
 refine ⟨by rw [yF,List.length_take];omega,?_⟩;rcases h.2 with ⟨b,l⟩ | ⟨g,f,a,b,e,c,n,d,i,k⟩
 ·left
  cases b;have : j = 0:=by omega
  subst this;exact ⟨rfl,rfl⟩
 ·right
  cases b;refine ⟨g,vc,a,rfl,e,c,by omega,d,i,?_⟩;rw [<- oU,<- k,List.take_take,Nat.min_eq_left (by omega)]
theorem xS {w : World} {B m vc j g : Nat} {va : Option Addr} {st : List Wh} (h : w.ownsRow B 115 2 (.slice va m vc) m (jk st)) (hm : m = st.length) (ha : va = some ⟨g,0,none⟩) : tB w (some ⟨g,j * 2,none⟩) g (j * 2) (st.drop j):=by
 subst ha hm;refine ⟨fun _=>rfl,fun k hk=>?_,fun k hk=>?_⟩
 ·have a : j + k < st.length:=by rw [List.length_drop] at hk;omega
  have:=af iQ h rfl a (r:=0) (by omega) (u:=.string st[j + k].1) rfl;rw [List.getElem_drop,<- this];congr 2;omega
 ·have a : j + k < st.length:=by rw [List.length_drop] at hk;omega
  have:=af iQ h rfl a (r:=1) (by omega) (u:=.int .i64 (st[j + k].2 : Int)) rfl;rw [List.getElem_drop,<- this];congr 2;omega
theorem tB.nil {w : World} {a : Option Addr} {g o : Nat} : tB w a g o []:=⟨fun h=>absurd h (Nat.lt_irrefl _),fun _ h=>absurd h (Nat.not_lt_zero _),fun _ h=>absurd h (Nat.not_lt_zero _)⟩
theorem Tryz.infoW : (Tryz.prog.info? 115).map (fun i=>(i.zero,i.size,i.bytes)) = some (some (.agg #[.string ByteArray.empty,.int .i64 0]),2,24):=by kernel_rfl
theorem Tryz.elemW : Tryz.prog.elem 110 = 115:=by kernel_rfl
theorem Tryz.sizeW (w : World) : (Go.sizeOf 115).run Tryz.prog w = .ok 2 w:=by
 obtain ⟨e,b,d,a,c⟩:=info_parts Tryz.infoW;simp [Go.sizeOf,typeInfo,b,a]
theorem lV (va : Option Addr) (m vc j : Nat) (hj : j <= m) (W : World) : (Instr.slice 110 (.slice va m vc) (some (.int .i64 (j : Int))) none none).run Tryz.prog W = .ok (.slice (if vc = j then va else va.map (·.add (j * 2))) (m - j) (vc - j)) W:=by
 rw [run_slice_l (ht:=by rw [Tryz.elemW];exact Tryz.underlying110) (h0:=by omega) (h1:=by omega),Tryz.elemW,Tryz.sizeW];simp [sliced,Result.andThen]
theorem lY (va : Option Addr) (m vc j : Nat) (hj : j <= vc) (W : World) : (Instr.slice 110 (.slice va m vc) none (some (.int .i64 (j : Int))) none).run Tryz.prog W = .ok (.slice va j vc) W:=by
 rw [run_slice_h (ht:=by rw [Tryz.elemW];exact Tryz.underlying110) (h0:=by omega) (h2:=by omega),Tryz.elemW,Tryz.sizeW];simp only [sliced,Result.andThen,Int.toNat_natCast,Nat.zero_mul,Nat.sub_zero];have e : (va.map fun x=>x.add 0) = va:=by cases va <;> rfl
 rw [e,ite_self]
theorem iY {w : World} {B m vc j : Nat} {va : Option Addr} {st : List Wh} (h : w.ownsRow B 115 2 (.slice va m vc) m (jk st)) (hm : m = st.length) (hj : j <= m) : ∃ g o,tB w (if vc = j then va else va.map (·.add (j * 2))) g o (st.drop j):=by
 by_cases e : j = m
 ·refine ⟨0,0,?_⟩
  rw [List.drop_eq_nil_of_le (by omega)];exact tB.nil
 ·rcases h.2 with ⟨_,k⟩ | ⟨g,c,a,b,i,d,l,f,n,p⟩
  ·omega
  ·cases b
   refine ⟨g,j * 2,?_⟩;rw [if_neg (by omega)];have:=xS (j:=j) h hm rfl
   rw [show Option.map (fun x : Addr=>x.add (j * 2)) (some ⟨g,0,none⟩) = some ⟨g,j * 2,none⟩ from by
    show some (Addr.add ⟨g,0,none⟩ (j * 2)) = _;unfold Addr.add
    split
    ·rename_i z;rw [z]
    ·simp]
   exact this
theorem kC {w u w9 : World} {o : Obj} {B n size : Nat} {e : TypeId} {v : Value} {xs : List Value} (hb : Below B w u) (hB : B <= u.heap.size) (hown : u.ownsRow B e size v n xs) (hg : (u.alloc o).grownBy w9 v.ownBlock) : Below B w w9:=
 ⟨hg.os.trans hb.os,hg.tape.trans hb.tape,hg.output.trans hb.output,Nat.le_trans hb.size (Nat.le_trans (by simp) hg.size),fun b hlt=>((hg.block b (by simp;omega) (fun e=>by have:=(hown.lt b e.symm).1;omega)).trans (Below.heap_alloc _ _ _ (by omega))).trans (hb.block b hlt)⟩
theorem rJ (w : World) {a : Option Addr} {c : Nat} {xs : List (TI × NPl)} (h : fq w (.slice a xs.length c) xs) {ts : List TI} (hts : xs.map Prod.fst = ts) (hcost : bQ ts <= 1048576) (lim : Nat) (hlim : lim <= 1000000) :
  Calls Tryz.prog 44 #[.slice a xs.length c,.int .i64 (lim : Int),.func (.func 45) #[] #[]] w fun e w'=>e = .returned (.tuple #[.string ((fP (fun i=>(ts[i]?).bind fT) lim ts.length).getD e0),.bool (fP (fun i=>(ts[i]?).bind fT) lim ts.length).isSome]) /\ Bw w w':=by
 have bv : ts.length = xs.length:=by rw [<- hts,List.length_map]
 obtain ⟨I,b0⟩ : ∃ I : Nat -> Option Fm,I = fun i=>(ts[i]?).bind fT:=⟨_,rfl⟩;obtain ⟨n,hn⟩:=xe (xs.length);have gN : n <= 1048576:=by rw [hn];exact h.len
 have b7 : ∀ k (hk : k < xs.length),I k = fT xs[k].1:=fun k hk=>by
  rw [b0]
  dsimp only
  rw [<- hts,List.getElem?_map,List.getElem?_eq_getElem hk];rfl
 have ec : Hid (∀ W,Bw w W -> ∀ k,k < n -> ∃ (g : Nat) (t : TI) (p : NPl),a = some ⟨g,0,none⟩ /\ (W.cell? ⟨g,k * 4,none⟩ = some (Value.int .i64 t.op) /\ W.cell? ⟨g,k * 4 + 1,none⟩ = some (Value.string t.md) /\ W.cell? ⟨g,k * 4 + 2,none⟩ = some (Value.string t.nm) /\ W.cell? ⟨g,k * 4 + 3,none⟩ = some (Value.slice p.a t.ns.length p.c)) /\ ∀ W',Bw W W' -> Calls Tryz.prog 45 #[.agg #[.int .i64 t.op,.string t.md,.string t.nm,.slice p.a t.ns.length p.c]] W' (tF W' (I k))):=fun W hb k hk=>by
  have ah : k < xs.length:=by omega
  obtain ⟨g,e,y0,y1,y2,y3,T⟩:=(h.below hb).item ah;exact ⟨g,xs[k].1,xs[k].2,e,⟨y0,y1,y2,y3⟩,fun W' hb'=>by rw [b7 k ah];exact pP W' (T.below hb')⟩
 have e6 : Hid (∀ k f,k < n -> I k = some f -> qU f /\ d6 f.texts + 2 * f.needs.length <= 10000000):=fun k f hk hf=>by
  have ah : k < xs.length:=by omega
  rw [b7 k ah] at hf;refine ⟨uP hf,?_⟩;have h1:=(vq hf).1;have h2 : cT xs[k].1 <= (ts.map cT).sum:=mo cT (by rw [<- hts];exact List.mem_map_of_mem (List.getElem_mem ah));have h3 : bQ ts = ts.length + (ts.map cT).sum:=rfl;omega
 obtain ⟨i0,fm,e8,e7,dt⟩:=info_parts Tryz.infoW;rw [bv,<- b0,<- hn];clear b0 b7 h hts hcost bv hn;go_enter Tryz.func44,Tryz.ntmps44;go_wp2
 go_loopw [18,8,9] (fun i s z wr=>∃ (k m A sz : Nat) (D : Option Addr) (q : List Wh),k <= n /\ i = .int .i64 k /\ s = .slice D m A /\ z = .int .i64 sz /\ m <= 1048576 /\ sz <= 1000000 /\ Hid (m = q.length /\ sz = szW q /\ rn I lim k = some q) /\ Hid (wr.ownsRow w.heap.size 115 2 (.slice D m A) m (jk q)) /\ Hid (Bw w wr)) (fun i _ _ _=>n - (intOf i).toNat)
 case atStart=>exact ⟨0,0,0,0,none,[],Nat.zero_le _,rfl,rfl,rfl,by omega,by omega,⟨rfl,rfl,rfl⟩,⟨rfl,.inl ⟨rfl,rfl⟩⟩,Below.refl _ _⟩
 case round=>
  obtain ⟨k,m,A,sz,D,q,hk,rfl,rfl,rfl,hm,gm,d,be,HW⟩:=hrel;by_cases c3 : k < n
  ·obtain ⟨g,t,p,ea,⟨y0,y1,y2,y3⟩,C0⟩:=ec.out wr HW.out k c3
   have C1:=C0 (wr.alloc (.cells #[.int .i64 t.op,.string t.md,.string t.nm,.slice p.a t.ns.length p.c] 80)) (bel1 _ _);have es : (k : Int) < (n : Int):=by omega
   have gr : (0 : Int) <= (k : Int):=by omega
   rw [ea];clear C0 ea;obtain ⟨w1,Y⟩:=xe (wr.alloc (.cells #[.int .i64 t.op,.string t.md,.string t.nm,.slice p.a t.ns.length p.c] 80));have b3 : Hid (Bw w w1):=by rw [Y];exact HW.out.alloc HW.out.size _
   have bx : Hid (w1.ownsRow w.heap.size 115 2 (.slice D m A) m (jk q)):=by rw [Y];exact be.out.alloc _
   rw [<- Y] at C1;go_wp2_with fail;rw [<- Y];clear Y y0 y1 y2 y3 be HW;refine C1.mono ?_;rintro e v ⟨B2,L,O,tn,tc,N,fl,nc,ok,rfl,go,H,HF⟩;clear C1;have K : Hid (Bw w v):=b3.out.trans (B2.mono b3.out.size);have S : Hid (v.ownsRow w.heap.size 115 2 (.slice D m A) m (jk q)):=az bx.out (ax B2) (by decide);clear B2 b3 bx
   cases hff : I k with
   | none=>
     rw [hff] at H;have ao : ok = false:=H;subst ao;have G : Hid (fP I lim n = none):=gV (zb d.out.2.2 hff) (by omega);clear hff HF H;have a1 : IntKind.i64.wrap ((m : Int) - (fl : Int)) = (m : Int) - (fl : Int):=wk (by omega);go_wp2;go_ret2;exact ⟨by rw [G.out];rfl,K.out.alloc K.out.size _⟩
   | some f=>
     rw [hff] at H;have ao : ok = true:=H;subst ao;obtain ⟨nb,tb,eq,b2,eT,ew,_,_⟩:=HF f hff;unfold y8 at eq;simp only [Value.agg.injEq,Array.mk.injEq,List.cons.injEq,Value.int.injEq,Value.slice.injEq,true_and,and_true] at eq;obtain ⟨rfl,rfl,rfl⟩:=eq;have cb:=e6.out k f c3 hff;have c4 : Hid (jT v f N O nb tb):=b2;by_cases f0 : m < f.needs.length
     ·have G : Hid (fP I lim n = none):=gV (uK d.out.2.2 hff (by have:=d.out.1;omega)) (by omega)
      have a1 : IntKind.i64.wrap ((m : Int) - (f.needs.length : Int)) = (m : Int) - (f.needs.length : Int):=wk (by omega);have a2 : (m : Int) - (f.needs.length : Int) < 0:=by omega
      clear hff HF H cb b2;go_wp2;go_ret2;exact ⟨by rw [G.out];rfl,K.out.alloc K.out.size _⟩
     ·obtain ⟨j,hj⟩ : ∃ j,m = j + f.needs.length:=⟨m - f.needs.length,by omega⟩
      have a1 : IntKind.i64.wrap ((m : Int) - (f.needs.length : Int)) = (j : Int):=wk (by omega);have a2 : ¬ (j : Int) < 0:=by omega
      have a3 : (0 : Int) <= (j : Int):=by omega
      have a4 : (j : Int) <= (m : Int):=by omega
      have HJ : Hid (m = j + f.needs.length):=hj;have Z : Hid (I k = some f /\ qU f /\ d6 f.texts + 2 * f.needs.length <= 10000000):=⟨hff,cb⟩;obtain ⟨A1,bf⟩:=xe ((if A = j then D else D.map (·.add (j * 2))))
      have e2 : ∀ W,(Instr.slice 110 (.slice D m A) (some (.int .i64 (j : Int))) none none).run Tryz.prog W = .ok (.slice A1 f.needs.length (A - j)) W:=fun W=>by
       have e:=lV D m A j (by omega) W;rw [<- bf,show m - j = f.needs.length by omega] at e;exact e
      have gt : m <= A:=by
       rcases S.out.2 with ⟨h1,h0⟩ | ⟨_,_,_,h1,_,_,h3,_⟩
       ·omega
       ·cases h1;exact h3
      have eb : ∀ W,(Instr.slice 110 (.slice D m A) none (some (.int .i64 (j : Int))) none).run Tryz.prog W = .ok (.slice D j A) W:=lY D m A j (by omega);obtain ⟨l,J⟩:=xe (v.alloc (.cells #[.int .i64 (f.lev : Int),.slice N f.needs.length nc,.slice O f.texts.length tc] 112));have M : Hid (l.rowIs v.heap.size 112 3 (v3 (.int .i64 (f.lev : Int)) (.slice N f.needs.length nc) (.slice O f.texts.length tc))):=by rw [J];exact ej v _ _ _ _
      have ch : Hid (Bw w l):=by rw [J];exact K.out.alloc K.out.size _
      have E : Hid (l.ownsRow w.heap.size 115 2 (.slice D m A) m (jk q)):=by rw [J];exact S.out.alloc _
      have c9 : Hid (jT l f N O nb tb):=by rw [J];exact c4.out.below (bel1 _ _)
      obtain ⟨R,hR⟩:=xe (oV f q);have ab : (q.drop j).length = f.needs.length:=by rw [List.length_drop];have:=d.out.1;omega
      have ar : q.drop j = q.drop (q.length - f.needs.length):=by congr 1;have:=d.out.1;omega
      have g3 : R.1.size <= 11000000:=by
       have h1:=(iW f.needs f.texts (q.drop j) Z.out.2.1.texts ab).2;have h2:=dX q j;have h3:=d.out.2.1;have h4:=Z.out.2.2;rw [hR];show (aC f.needs f.texts (q.drop (q.length - f.needs.length))).size <= _;rw [<- ar];omega
      obtain ⟨z,hz⟩:=xe (szW (q.drop j));obtain ⟨s2,V⟩:=xe (szW (dC f q))
      have ez : s2 + z = sz + R.1.size /\ z <= sz:=by
       have h1:=ri f q;have h2:=dX q j;have h3:=d.out.2.1;rw [V,hz,hR,h3];rw [ar] at h2 ⊢;omega
      have CA : Hid (∀ W,Bw l W -> Calls Tryz.prog 69 #[.agg #[.int .i64 (f.lev : Int),.slice N f.needs.length nc,.slice O f.texts.length tc],.slice A1 f.needs.length (A - j)] W fun e w'=>e = .returned (.agg #[.string R.1,.int .i64 (R.2 : Int)]) /\ Hid (Bw W w')):=fun W hb=>by
       obtain ⟨g1,o1,hT⟩:=iY E.out d.out.1 (show j <= m by have:=HJ.out;omega);rw [<- bf] at hT
       have C:=oP W (c9.out.below hb) (c:=A - j) (hT.below hb) ab Z.out.2.1.texts (by omega) eT ew (by omega) (by
        have : (aC f.needs f.texts (q.drop j)).size = R.1.size:=by rw [hR,ar];rfl
        omega)
       rw [ab] at C;refine C.mono ?_;rintro e w' ⟨rfl,B⟩;exact ⟨by rw [hR,ar];rfl,B⟩
      have CS : Hid (∀ W,Bw l W -> Calls Tryz.prog 70 #[.slice A1 f.needs.length (A - j)] W fun e w'=>e = .returned (.int .i64 (z : Int)) /\ Hid (Bw W w')):=fun W hb=>by
       obtain ⟨g1,o1,hT⟩:=iY E.out d.out.1 (show j <= m by have:=HJ.out;omega);rw [<- bf] at hT;refine (oJ W (hT.below hb) (by omega) (by omega) ab.symm (by omega)).mono ?_;rintro e w' ⟨rfl,B⟩;exact ⟨by rw [hz],B⟩
      have a5 : IntKind.i64.wrap ((R.1.size : Int) - (z : Int)) = (R.1.size : Int) - (z : Int):=wk (by omega);have a6 : IntKind.i64.wrap ((sz : Int) + ((R.1.size : Int) - (z : Int))) = (s2 : Int):=wk (by omega);have ck : Hid (R = oV f q /\ s2 = szW (dC f q)):=⟨hR,V⟩;have fv : s2 <= 12000000:=by omega
      have cz : Hid (dC f q = q.take j ++ [R]):=by
       show _ = _;unfold dC;rw [<- hR];congr 2;have:=d.out.1;omega
      clear hff HF H cb b2 hj bf hR hz V ez ab ar c4 S;go_upto_region 10 with fail;rw [<- J];clear J;have b9 : Hid (Bw l l.drew):=(Below.refl _ _).drew;have cp : Hid (Bw l (l.alloc (.cells #[.string ⟨#[]⟩,.int .i64 0] 115)).drew):=(bel1 _ _).drew
      go_cut [15] (fun s15 wc=>∃ X,s15 = .pointer (some ⟨X,0,none⟩) /\ l.heap.size <= X /\ Hid (wc.rowIs X 115 2 (v2 (.string R.1) (.int .i64 (R.2 : Int)))) /\ Hid (Bw l wc))
      case first=>
       have x0 : l.cell? ⟨v.heap.size,0,none⟩ = some (.int .i64 (f.lev : Int)):=M.out.cell (i:=0) (by omega);have x1 : l.cell? ⟨v.heap.size,1,none⟩ = some (.slice N f.needs.length nc):=M.out.cell (i:=1) (by omega);have x2 : l.cell? ⟨v.heap.size,2,none⟩ = some (.slice O f.texts.length tc):=M.out.cell (i:=2) (by omega);have ca : Hid (∀ u : World,u.rowIs v.heap.size 112 3 (v3 (.int .i64 (f.lev : Int)) (.slice N f.needs.length nc) (.slice O f.texts.length tc)) -> u.cell? ⟨v.heap.size,0,none⟩ = some (.int .i64 (f.lev : Int)) /\ u.cell? ⟨v.heap.size,1,none⟩ = some (.slice N f.needs.length nc) /\ u.cell? ⟨v.heap.size,2,none⟩ = some (.slice O f.texts.length tc)):=fun u h=>⟨h.cell (i:=0) (by omega),h.cell (i:=1) (by omega),h.cell (i:=2) (by omega)⟩;have d5 : v.heap.size < l.heap.size:=M.out.lt
       have d1 : Hid (∀ (u : World) (x y : Value),u.rowIs v.heap.size 112 3 (v3 (.int .i64 (f.lev : Int)) (.slice N f.needs.length nc) (.slice O f.texts.length tc)) -> ((u.setCell ⟨l.heap.size,0,none⟩ x).setCell ⟨l.heap.size,1,none⟩ y).cell? ⟨v.heap.size,0,none⟩ = some (.int .i64 (f.lev : Int)) /\ ((u.setCell ⟨l.heap.size,0,none⟩ x).setCell ⟨l.heap.size,1,none⟩ y).cell? ⟨v.heap.size,1,none⟩ = some (.slice N f.needs.length nc) /\ ((u.setCell ⟨l.heap.size,0,none⟩ x).setCell ⟨l.heap.size,1,none⟩ y).cell? ⟨v.heap.size,2,none⟩ = some (.slice O f.texts.length tc)):=fun u x y h=>by
        have r:=(h.setOther (a:=⟨l.heap.size,0,none⟩) (by show v.heap.size ≠ l.heap.size;omega) x).setOther (a:=⟨l.heap.size,1,none⟩) (by show v.heap.size ≠ l.heap.size;omega) y;exact ca.out _ r
       go_region_held3 (fun w'=>w'.cell? ⟨v.heap.size,0,none⟩ = some (.int .i64 (f.lev : Int)) /\ w'.cell? ⟨v.heap.size,1,none⟩ = some (.slice N f.needs.length nc) /\ w'.cell? ⟨v.heap.size,2,none⟩ = some (.slice O f.texts.length tc)) (first | (with_reducible exact d1.out _ _ _ c5.out) | go_keep) (first
        | (go_at_call 69;(with_reducible refine (CA.out _ b9.out).mono ?_);rintro e u0 ⟨rfl,V0⟩;obtain ⟨x3,x4,x5⟩:=ca.out u0 (M.out.of_block (V0.out.block v.heap.size d5)))
        | (go_at_call 69;(with_reducible refine (CA.out _ cp.out).mono ?_);rintro e u1 ⟨rfl,V1⟩;have an:=(ol l (.string ⟨#[]⟩) (.int .i64 0) 115).of_block (w':=u1) (V1.out.block l.heap.size (by show l.heap.size < (l.alloc _).heap.size;simp));have c5 : Hid (u1.rowIs v.heap.size 112 3 (v3 (.int .i64 (f.lev : Int)) (.slice N f.needs.length nc) (.slice O f.texts.length tc))):=((M.out.alloc (.cells #[.string ⟨#[]⟩,.int .i64 0] 115)).of_block (V1.out.block v.heap.size (by show v.heap.size < (l.alloc _).heap.size;simp;omega)));obtain ⟨x3,x4,x5⟩:=ca.out u1 c5.out;have z0:=an.cell (i:=0) (by omega);have z1:=an.cell (i:=1) (by omega);have z2:=an.frozen 0;have z3:=an.frozen 1))
       all_goals
        go_wp2;go_meet
        case rel=>
         first
          | exact ⟨u0.heap.size,rfl,V0.out.size,ol _ _ _ _,(b9.out.trans (V0.out.mono (nlr _))).alloc (b9.out.trans (V0.out.mono (nlr _))).size _⟩
          | exact ⟨l.heap.size,rfl,nlr _,((an.set 0 _).set 1 _).congr (fun i hi=>by
            match i,hi with
            | 0,_=>rfl
            | 1,_=>rfl),((cp.out.trans (V1.out.mono (by show l.heap.size <= (l.alloc _).heap.size;simp))).setCell (p:=⟨l.heap.size,0,none⟩) (nlr _) _).setCell (p:=⟨l.heap.size,1,none⟩) (nlr _) _⟩
      case rest=>
       obtain ⟨X,rfl,gk,ce,a9⟩:=hcut;have q0 : wc.cell? ⟨X,0,none⟩ = some (.string R.1):=ce.out.cell (i:=0) (by omega);have bL : Hid (Bw l wc.drew):=a9.out.drew;have ef : X < wc.heap.size:=ce.out.lt;go_wp2
       go_region_held3 (fun w'=>w'.cell? ⟨X,0,none⟩ = some (.string R.1)) (go_keep) (first
        | (go_at_call 70;(with_reducible refine (CS.out _ bL.out).mono ?_);rintro e P ⟨rfl,V2⟩;have Q:=ce.out.of_block (w':=P) (V2.out.block X ef);have q1 : P.cell? ⟨X,0,none⟩ = some (.string R.1):=Q.cell (i:=0) (by omega)))
       have b4 : Hid (Bw w P):=(ch.out.trans (bL.out.mono ch.out.size)).trans (V2.out.mono (Nat.le_trans ch.out.size a9.out.size));have e3 : w.heap.size <= P.heap.size:=b4.out.size;by_cases c8 : lim < s2
       ·have G : Hid (fP I lim n = none):=gV (uv d.out.2.2 Z.out.1 (by have:=d.out.1;have:=HJ.out;omega) (by rw [<- ck.out.2];exact c8)) (by omega)
        have b1 : (lim : Int) < (s2 : Int):=by omega
        clear q0 q1 Q V2;go_wp2;go_ret2;exact ⟨by rw [G.out];rfl,b4.out⟩
       ·have b1 : ¬ (lim : Int) < (s2 : Int):=by omega
        have q2 : P.cell? ⟨X,1,none⟩ = some (.int .i64 (R.2 : Int)):=Q.cell (i:=1) (by omega);have bn : Hid (X < P.heap.size):=Q.lt
        have c7 : P.ownsRow w.heap.size 115 2 (.slice D m A) m (jk q):=aG E.out (fun b e=>by
         have hb:=(E.out.lt b e.symm).2;exact (V2.out.block b (Nat.lt_of_lt_of_le hb a9.out.size)).trans (a9.out.block b hb))
        have bp:=rL (j:=j) c7 d.out.1 (by have:=HJ.out;omega)
        have n1 : some X ≠ (Value.slice D j A).ownBlock:=fun e=>by
         have h1 : (Value.slice D m A).ownBlock = some X:=by
          rw [e];cases D <;> rfl
         have:=(E.out.lt X h1).2;omega
        have g0 : j <= 1048576:=by have:=HJ.out;omega
        have eV : j + 1 <= maxLen:=by unfold maxLen;omega
        have eR : (j + 1) * 24 <= 140737488355328:=by omega
        clear Q V2 c7;go_wp2
        go_region_held3 (fun w'=>w'.cell? ⟨X,0,none⟩ = some (.string R.1) /\ w'.cell? ⟨X,1,none⟩ = some (.int .i64 (R.2 : Int))) (go_keep) ((refine step_append_lies _ (by rfl) _ _ _ (by rfl) w.heap.size 115 i0 _ 2 24 Tryz.underlying110 fm e8 e7 dt rfl (by omega) (.slice D j A) j (jk (q.take j)) (by rfl) (by first | exact bp.alloc _ | exact (bp.alloc _).drew) ⟨P.heap.size,0,none⟩ 1 1 [.string R.1,.int .i64 (R.2 : Int)] (by rfl) (by rfl) (World.news_of_block (cs:=#[.string R.1,.int .i64 (R.2 : Int)]) (t:=115) (fr:=(0,0)) (heap_alloc_new P _)) (by simp [Value.oneCell']) (by omega) eV eR (by simp;omega) (P.heap.size + 1) (by simp) ?_;intro gg bs w9 U F co cx;have e0 : w9.cell? ⟨X,0,none⟩ = some (.string R.1):=(F.cell_far ⟨X,0,none⟩ (by have:=bn.out;simp;omega) n1).trans (((bel1 P _).cell (p:=⟨X,0,none⟩) bn.out).trans q1);have e1 : w9.cell? ⟨X,1,none⟩ = some (.int .i64 (R.2 : Int)):=(F.cell_far ⟨X,1,none⟩ (by have:=bn.out;simp;omega) n1).trans (((bel1 P _).cell (p:=⟨X,1,none⟩) bn.out).trans q2)))
        all_goals
         have dv : Hid (w9.ownsRow w.heap.size 115 2 (.slice (some ⟨gg,0,none⟩) (j + 1) bs) (j + 1) (jk (dC f q))):=by
          show World.ownsRow _ _ _ _ _ _ _;rw [cz.out,oq];exact U
         have d2 : Hid (Bw w w9):=kC (o:=.cells #[.string R.1,.int .i64 (R.2 : Int)] 115) b4.out e3 bp ⟨F.os,F.tape,F.output,F.size,F.block⟩
         have b5 : Hid (j + 1 = (dC f q).length /\ s2 = szW (dC f q) /\ rn I lim (k + 1) = some (dC f q)):=by
          have h1:=d.out.1;have h2:=HJ.out;refine ⟨?_,ck.out.2,uB d.out.2.2 Z.out.1 (by omega) (by rw [<- ck.out.2];omega)⟩;rw [cz.out,lap,List.length_take,List.length_singleton];omega
         clear U F co cx e0 e1 q0 q1 q2 bp n1 e2 eb CA CS;go_wp2
         go_roundw
         case rel=>
          exact ⟨k + 1,j + 1,bs,s2,some ⟨gg,0,none⟩,dC f q,by omega,by go_num,rfl,rfl,by have:=(qZ b5.out.2.2).2;have:=b5.out.1;omega,by omega,b5,dv,d2⟩
         case measure=>simp [intOf];omega
  ·have fi : k = n:=by omega
   subst fi;have es : ¬ (k : Int) < (k : Int):=by omega
   by_cases h1 : m = 1
   ·obtain ⟨x,hx⟩ : ∃ x,q = [x]:=by
     have:=d.out.1
     match q,this with
     | [x],_=>exact ⟨x,rfl⟩
     | [],h=>simp at h;omega
     | _ :: _ :: _,h=>simp at h;omega
    subst hx;subst h1
    have e5 : Hid (fP I lim k = some x.1):=by
     show _ = _;unfold fP;rw [d.out.2.2]
    obtain ⟨gg,cc,ev,_,_,_⟩:=au be.out (by omega);simp only [Value.slice.injEq,true_and] at ev;obtain ⟨rfl,rfl⟩:=ev
    have y0 : wr.cell? ⟨gg,0,none⟩ = some (.string x.1):=by
     have:=af (f:=Bm) iQ be.out rfl (j:=0) (by show 0 < 1;omega) (r:=0) (by omega) (u:=.string x.1) rfl;exact this
    go_wp2;go_ret2;exact ⟨by rw [e5.out];rfl,HW.out⟩
   ·have G : Hid (fP I lim k = none):=by
     show _ = _;unfold fP;rw [d.out.2.2];have:=d.out.1
     match q,this with
     | [x],h=>simp at h;omega
     | [],_=>rfl
     | _ :: _ :: _,_=>rfl
    have c1 : ((m : Int) == 1) = false:=bn2 (by omega);have c2 : ((m : Int) != 1) = true:=by rw [bne,c1];rfl
    go_wp2;go_ret2;exact ⟨by rw [G.out];rfl,HW.out⟩
def mI (pm : ByteArray) (r : Option ByteArray) : Option Fm:=match r with
 | some x=>if gn pm then some ⟨0,[0],[gu ++ pm ++ dz ++ x ++ ij,e0]⟩ else none
 | none=>none
theorem yW {fo : Nat -> Option Fm} {lim n : Nat} {x : ByteArray} (h : fP fo lim n = some x) : x.size <= lim:=by
 unfold fP at h
 split at h
 ·rename_i y e
  cases h;have:=(qZ e).1;rw [dQ] at this;exact this
 ·cases h
theorem pi {V : World} {X : Nat} {a b c d : Value} (r : V.rowIs X 112 3 (v3 a b c)) (tmps : Array Value) (h2 : tmps[6]?.getD undef = .pointer (some ⟨X,0,none⟩)) (h3 : tmps[7]?.getD undef = d) :
  (results Tryz.f77 tmps).run Tryz.prog V = .ok (.tuple #[.agg #[a,b,c],d]) V:=by
 have g : V.cell? ⟨X,0,none⟩ = some a:=r.cell (i:=0) (by omega);have f : V.cell? ⟨X,1,none⟩ = some b:=r.cell (i:=1) (by omega);have e : V.cell? ⟨X,2,none⟩ = some c:=r.cell (i:=2) (by omega);unfold results;rw [show Tryz.f77.results = #[.cell 6 112,.tmp 7] from rfl];simp [go_sem,h2,h3,g,f,e]
theorem sW (w : World) (pm : ByteArray) (hpm : pm.size <= 1048576) {a : Option Addr} {c : Nat} {xs : List (TI × NPl)} (h : fq w (.slice a xs.length c) xs) {ts : List TI} (hts : xs.map Prod.fst = ts) (hcost : bQ ts <= 1048576) (lim : Nat) (hlim : lim <= 1000000) :
  Calls Tryz.prog 77 #[.agg #[.int .i64 (lim : Int)],.string pm,.slice a xs.length c] w (tF w (mI pm (fP (fun i=>(ts[i]?).bind fT) lim ts.length))):=by
 obtain ⟨r,v⟩:=xe (fP (fun i=>(ts[i]?).bind fT) lim ts.length);have O : Hid (∀ x,r = some x -> x.size <= lim):=fun x C=>yW (by rw [<- v];exact C)
 have N : Hid (∀ W,Bw w W -> Calls Tryz.prog 44 #[.slice a xs.length c,.int .i64 (lim : Int),.func (.func 45) #[] #[]] W fun e w'=>e = .returned (.tuple #[.string (r.getD e0),.bool r.isSome]) /\ Bw W w'):=fun W hb=>by
  rw [v];exact rJ W (h.below hb) hts hcost lim hlim
 have HG : Hid (∀ W,Calls Tryz.prog 43 #[.string pm] W fun e w'=>e = .returned (.bool (gn pm)) /\ w' = W):=fun W=>tG pm W (by omega);obtain ⟨n,hn⟩:=xe (xs.length);rw [<- v];rw [<- hn] at N ⊢;obtain ⟨Y,s⟩:=xe ((w.alloc (.cells #[.int .i64 (lim : Int)] 56)).alloc (.cells #[.int .i64 0,.slice none 0 0,.slice none 0 0] 112));have t : Hid (Bw w Y):=by rw [s];exact eM _ _ _
 have B : Hid (Y.rowIs (w.heap.size + 1) 112 3 (v3 (.int .i64 0) (.slice none 0 0) (.slice none 0 0))):=by
  have U:=ej (w.alloc (.cells #[.int .i64 (lim : Int)] 56)) (.int .i64 0) (.slice none 0 0) (.slice none 0 0) 112;rw [World.size_alloc] at U;rw [s];exact U
 have C1:=N.out Y t.out;clear h hts hcost v hn N;go_enter Tryz.func77,Tryz.ntmps77;go_wp2_with fail;rw [<- s];clear s;refine C1.mono ?_;rintro e d ⟨rfl,J⟩;clear C1;have D : Hid (Bw w d):=t.out.trans (J.mono t.out.size);have F : Hid (d.rowIs (w.heap.size + 1) 112 3 (v3 (.int .i64 0) (.slice none 0 0) (.slice none 0 0))):=B.out.of_block (J.block _ B.out.lt);clear J t B;obtain ⟨x,C⟩:=xe (r.getD e0)
 have bb : x.size <= 1000000:=by
  rw [C]
  cases r with
  | none=>show (0 : Nat) <= _;omega
  | some y=>exact Nat.le_trans (O.out y rfl) hlim
 have z0 : (⟨#[102,117,110,40]⟩ : ByteArray).size = 4:=rfl;have z1 : (⟨#[58,32]⟩ : ByteArray).size = 2:=rfl;have z2 : (⟨#[41,32]⟩ : ByteArray).size = 2:=rfl;have c1:=rsa (⟨#[102,117,110,40]⟩ : ByteArray) pm (by omega);have c2:=rsa ((⟨#[102,117,110,40]⟩ : ByteArray) ++ pm) ⟨#[58,32]⟩ (by simp only [bsa];omega);have c3:=rsa (((⟨#[102,117,110,40]⟩ : ByteArray) ++ pm) ++ ⟨#[58,32]⟩) x (by simp only [bsa];omega);have Z:=rsa ((((⟨#[102,117,110,40]⟩ : ByteArray) ++ pm) ++ ⟨#[58,32]⟩) ++ x) ⟨#[41,32]⟩ (by simp only [bsa];omega);obtain ⟨T,P⟩:=xe ((((((⟨#[102,117,110,40]⟩ : ByteArray) ++ pm) ++ ⟨#[58,32]⟩) ++ x) ++ ⟨#[41,32]⟩));rw [<- P] at Z;rw [<- C];have HX : Hid (x = r.getD e0):=C;have HT : Hid (T = gu ++ pm ++ dz ++ x ++ ij):=P;clear C P z0 z1 z2;obtain ⟨ok,A⟩:=xe (r.isSome);rw [<- A];have S : Hid (ok = r.isSome):=A;clear A;obtain ⟨g,l⟩:=xe (((d.alloc (.cells #[.int .i64 0] 3)).alloc (.cells #[.string T,.string ⟨#[]⟩] 9)).alloc (.cells #[.int .i64 0,.slice (some ⟨d.heap.size,0,none⟩) 1 1,.slice (some ⟨d.heap.size + 1,0,none⟩) 2 2] 112))
 have I : Hid (Bw w g):=by
  have s2:=D.out.size;rw [l];exact ((D.out.alloc s2 _).alloc (by simp;omega) _).alloc (by simp;omega) _
 have m : Hid (g.rowIs (w.heap.size + 1) 112 3 (v3 (.int .i64 0) (.slice none 0 0) (.slice none 0 0))):=by rw [l];exact ((F.out.alloc _).alloc _).alloc _
 have u : Hid (g.rowIs (d.heap.size + 1 + 1) 112 3 (v3 (.int .i64 0) (.slice (some ⟨d.heap.size,0,none⟩) 1 1) (.slice (some ⟨d.heap.size + 1,0,none⟩) 2 2))):=by
  have q:=ej ((d.alloc (.cells #[.int .i64 0] 3)).alloc (.cells #[.string T,.string ⟨#[]⟩] 9)) (.int .i64 0) (.slice (some ⟨d.heap.size,0,none⟩) 1 1) (.slice (some ⟨d.heap.size + 1,0,none⟩) 2 2) 112;simp only [World.size_alloc] at q;rw [l];exact q
 have M : Hid (g.rowIs d.heap.size 3 1 (fun _=>.int .i64 0)):=by rw [l];exact ((aK d (.int .i64 0) 3).alloc _).alloc _
 have R : Hid (g.rowIs (d.heap.size + 1) 9 2 (v2 (.string T) (.string ⟨#[]⟩))):=by
  have q:=ol (d.alloc (.cells #[.int .i64 0] 3)) (.string T) (.string ⟨#[]⟩) 9;rw [World.size_alloc] at q;rw [l];exact q.alloc _
 have E : w.heap.size + 1 < d.heap.size:=F.out.lt
 have z : Hid (∀ (b : Bool),b = (ok && gn pm) -> ∀ V : World,V = ((g.setCell ⟨w.heap.size + 1,0,none⟩ (.int .i64 0)).setCell ⟨w.heap.size + 1,1,none⟩ (.slice (some ⟨d.heap.size,0,none⟩) 1 1)).setCell ⟨w.heap.size + 1,2,none⟩ (.slice (some ⟨d.heap.size + 1,0,none⟩) 2 2) -> V.drew.rowIs (w.heap.size + 1) 112 3 (v3 (.int .i64 0) (.slice (some ⟨d.heap.size,0,none⟩) 1 1) (.slice (some ⟨d.heap.size + 1,0,none⟩) 2 2)) /\ tF w (mI pm r) (.returned (.tuple #[.agg #[.int .i64 0,.slice (some ⟨d.heap.size,0,none⟩) 1 1,.slice (some ⟨d.heap.size + 1,0,none⟩) 2 2],.bool b])) V.drew):=fun b hb V hV=>by
  have q : w.heap.size <= w.heap.size + 1:=by omega
  have o : ∀ k j,k ≠ w.heap.size + 1 -> k ≠ (⟨w.heap.size + 1,j,none⟩ : Addr).block:=fun k j hk=>hk;have nr:=((M.out.setOther (o _ 0 (by omega)) (.int .i64 0)).setOther (o _ 1 (by omega)) (.slice (some ⟨d.heap.size,0,none⟩) 1 1)).setOther (o _ 2 (by omega)) (.slice (some ⟨d.heap.size + 1,0,none⟩) 2 2);have tr:=((R.out.setOther (o _ 0 (by omega)) (.int .i64 0)).setOther (o _ 1 (by omega)) (.slice (some ⟨d.heap.size,0,none⟩) 1 1)).setOther (o _ 2 (by omega)) (.slice (some ⟨d.heap.size + 1,0,none⟩) 2 2);rw [hV];refine ⟨((((m.out.set 0 (.int .i64 0)).set 1 (.slice (some ⟨d.heap.size,0,none⟩) 1 1)).set 2 (.slice (some ⟨d.heap.size + 1,0,none⟩) 2 2)).congr fun i hi=>?_).drew,?_,0,_,2,2,_,1,1,b,rfl,by omega,?_,fun f hf=>?_⟩
  ·match i,hi with
   | 0,_=>rfl
   | 1,_=>rfl
   | 2,_=>rfl
  ·exact (((I.out.setCell (p:=⟨w.heap.size + 1,0,none⟩) q _).setCell (p:=⟨w.heap.size + 1,1,none⟩) q _).setCell (p:=⟨w.heap.size + 1,2,none⟩) q _).drew
  ·rw [hb,S.out]
   unfold mI
   cases r with
   | none=>rfl
   | some y=>cases gn pm <;> rfl
  ·have L : f = ⟨0,[0],[T,e0]⟩:=by
    unfold mI at hf
    cases v : r with
    | none=>rw [v] at hf;cases hf
    | some y=>
      rw [v] at hf;have K : x = y:=by rw [HX.out,v];rfl
      dsimp only at hf
      split at hf
      ·cases hf
       rw [HT.out,K]
      ·cases hf
   rw [L];refine ⟨d.heap.size,d.heap.size + 1,rfl,⟨fun _=>rfl,fun k hk=>?_,fun _=>rfl,fun k hk=>?_⟩,nlr _,nlr _,by omega,by omega⟩
   ·have X : k < 1:=hk
    have k0 : k = 0:=by omega
    subst k0;exact nr.cell X
   ·have Q : k < 2:=hk
    match k,Q with
    | 0,_=>exact tr.cell (i:=0) (by omega)
    | 1,_=>exact tr.cell (i:=1) (by omega)
 go_upto_region 3 with fail;rw [<- l];have f0 : g.cell? ⟨d.heap.size + 1 + 1,0,none⟩ = some (.int .i64 0):=u.out.cell (i:=0) (by omega);have f1 : g.cell? ⟨d.heap.size + 1 + 1,1,none⟩ = some (.slice (some ⟨d.heap.size,0,none⟩) 1 1):=u.out.cell (i:=1) (by omega);have f2 : g.cell? ⟨d.heap.size + 1 + 1,2,none⟩ = some (.slice (some ⟨d.heap.size + 1,0,none⟩) 2 2):=u.out.cell (i:=2) (by omega);have r0 : g.cell? ⟨w.heap.size + 1,0,none⟩ = some (.int .i64 0):=m.out.cell (i:=0) (by omega);have r1 : g.cell? ⟨w.heap.size + 1,1,none⟩ = some (.slice none 0 0):=m.out.cell (i:=1) (by omega);have U : g.cell? ⟨w.heap.size + 1,2,none⟩ = some (.slice none 0 0):=m.out.cell (i:=2) (by omega);have t0:=m.out.frozen 0;have t1:=m.out.frozen 1;have t2:=m.out.frozen 2
 have H : Hid (((((g.setCell ⟨w.heap.size + 1,0,none⟩ (.int .i64 0)).setCell ⟨w.heap.size + 1,1,none⟩ (.slice (some ⟨d.heap.size,0,none⟩) 1 1)).setCell ⟨w.heap.size + 1,2,none⟩ (.slice (some ⟨d.heap.size + 1,0,none⟩) 2 2)).cell? ⟨d.heap.size + 1 + 1,0,none⟩ = some (.int .i64 0)) /\ ((((g.setCell ⟨w.heap.size + 1,0,none⟩ (.int .i64 0)).setCell ⟨w.heap.size + 1,1,none⟩ (.slice (some ⟨d.heap.size,0,none⟩) 1 1)).setCell ⟨w.heap.size + 1,2,none⟩ (.slice (some ⟨d.heap.size + 1,0,none⟩) 2 2)).cell? ⟨d.heap.size + 1 + 1,1,none⟩ = some (.slice (some ⟨d.heap.size,0,none⟩) 1 1)) /\ ((((g.setCell ⟨w.heap.size + 1,0,none⟩ (.int .i64 0)).setCell ⟨w.heap.size + 1,1,none⟩ (.slice (some ⟨d.heap.size,0,none⟩) 1 1)).setCell ⟨w.heap.size + 1,2,none⟩ (.slice (some ⟨d.heap.size + 1,0,none⟩) 2 2)).cell? ⟨d.heap.size + 1 + 1,2,none⟩ = some (.slice (some ⟨d.heap.size + 1,0,none⟩) 2 2))):=by
  have o : ∀ j,d.heap.size + 1 + 1 ≠ (⟨w.heap.size + 1,j,none⟩ : Addr).block:=fun j=>by show d.heap.size + 1 + 1 ≠ w.heap.size + 1;omega
  have q:=((u.out.setOther (o 0) (.int .i64 0)).setOther (o 1) (.slice (some ⟨d.heap.size,0,none⟩) 1 1)).setOther (o 2) (.slice (some ⟨d.heap.size + 1,0,none⟩) 2 2);exact ⟨q.cell (i:=0) (by omega),q.cell (i:=1) (by omega),q.cell (i:=2) (by omega)⟩
 clear l c1 c2 c3 Z E
 cases ok with
 | false=>
   go_region
   all_goals
    go_wp2;have G:=z.out false rfl _ rfl;exact bodyPost_ret (pi G.1 _ rfl rfl) rfl G.2
 | true=>
   go_region_held3 (fun w'=>w'.cell? ⟨d.heap.size + 1 + 1,0,none⟩ = some (.int .i64 0) /\ w'.cell? ⟨d.heap.size + 1 + 1,1,none⟩ = some (.slice (some ⟨d.heap.size,0,none⟩) 1 1) /\ w'.cell? ⟨d.heap.size + 1 + 1,2,none⟩ = some (.slice (some ⟨d.heap.size + 1,0,none⟩) 2 2)) (first | exact H.out | go_keep) (first
    | (go_at_call 43;(with_reducible refine (HG.out _).mono ?_);rintro e u0 ⟨rfl,rfl⟩))
   all_goals
    go_wp2;have G:=z.out (gn pm) (by show _ = _;rw [Bool.true_and]) _ rfl;exact bodyPost_ret (pi G.1 _ rfl rfl) rfl G.2
def iX (ok : Bool) (num : Int) (md nm : ByteArray) (n m : Nat) : Bool:=ok && decide (num = 0) && decide (md.size = 0) && decide (nm.size = 0) && decide (n = 0) && decide (m = 0)
theorem C9 {lim : Nat} {e : EI} (ho : e.op = 1) : ir lim e = if iX (decide (0 <= e.num) && decide (e.num <= 999999999)) 0 e.md e.nm e.ns.length e.ty.length then some ⟨4,[],[hU e.num.toNat]⟩ else none:=by
 unfold ir fE iX;rw [ho];by_cases b : e.md.size = 0 <;> by_cases d : e.ty.length = 0 <;> by_cases a : e.nm.size = 0 <;> by_cases f : e.ns.length = 0 <;> by_cases c : 0 <= e.num <;> by_cases g : e.num <= 999999999 <;> simp [b,d,a,f,c,g]
theorem Db {lim : Nat} {e : EI} (ho : e.op = 2) : ir lim e = if iX (decide (e.num = 0) || decide (e.num = 1)) 0 e.md e.nm e.ns.length e.ty.length then some ⟨4,[],[if e.num = 0 then cg else d9]⟩ else none:=by
 unfold ir fE iX;rw [ho];by_cases b : e.md.size = 0 <;> by_cases d : e.ty.length = 0 <;> by_cases a : e.nm.size = 0 <;> by_cases f : e.ns.length = 0 <;> by_cases c : e.num = 0 <;> by_cases g : e.num = 1 <;> simp [b,d,a,f,c,g]
theorem De {lim : Nat} {e : EI} (ho : e.op = 3) : ir lim e = if iX (aI e.md e.nm) e.num ⟨#[]⟩ ⟨#[]⟩ e.ns.length e.ty.length then some ⟨4,[],[ia e.md e.nm]⟩ else none:=by
 unfold ir fE iX;rw [ho,show decide ((⟨#[]⟩ : ByteArray).size = 0) = true from rfl];cases hg : aI e.md e.nm <;> by_cases b : e.ty.length = 0 <;> by_cases a : e.ns.length = 0 <;> by_cases c : e.num = 0 <;> simp [b,a,c]
theorem Cx {lim : Nat} {e : EI} (ho : e.op = 4) : ir lim e = if iX (dN e.ns) e.num e.md e.nm 0 e.ty.length then some (fF e.ns ft 4) else none:=by
 unfold ir fE iX;rw [ho];cases hg : dN e.ns <;> by_cases c : e.md.size = 0 <;> by_cases a : e.ty.length = 0 <;> by_cases b : e.nm.size = 0 <;> by_cases d : e.num = 0 <;> simp [c,a,b,d]
theorem CV {lim : Nat} {e : EI} (ho : e.op = 5) : ir lim e = if iX (gn e.nm) e.num e.md ⟨#[]⟩ e.ns.length e.ty.length then some ⟨3,[3],[e0,gi ++ e.nm]⟩ else none:=by
 unfold ir fE iX;rw [ho,show decide ((⟨#[]⟩ : ByteArray).size = 0) = true from rfl];cases hg : gn e.nm <;> by_cases b : e.md.size = 0 <;> by_cases a : e.ty.length = 0 <;> by_cases d : e.ns.length = 0 <;> by_cases c : e.num = 0 <;> simp [b,a,d,c]
theorem Cy {lim : Nat} {e : EI} (ho : e.op = 6) : ir lim e = if iX (mI e.nm (fP (fun i=>(e.ty[i]?).bind fT) lim e.ty.length)).isSome e.num e.md ⟨#[]⟩ e.ns.length 0 then some ⟨0,[0],[gu ++ e.nm ++ dz ++ fW e.ty ++ ij,e0]⟩ else none:=by
 rw [vh];unfold ir fE iX;rw [ho,show decide ((⟨#[]⟩ : ByteArray).size = 0) = true from rfl];cases hg : gn e.nm <;> cases hk : dH e.ty <;> by_cases c : e.md.size = 0 <;> by_cases a : e.ns.length = 0 <;> by_cases d : e.num = 0 <;> by_cases b : (fW e.ty).size <= lim <;> simp [c,a,d,b,mI,hg] <;> omega
theorem BO {lim : Nat} {e : EI} {f : Fm} (h : mI e.nm (fP (fun i=>(e.ty[i]?).bind fT) lim e.ty.length) = some f) : f = ⟨0,[0],[gu ++ e.nm ++ dz ++ fW e.ty ++ ij,e0]⟩:=by
 rw [vh] at h;unfold mI at h
 split at h
 ·rename_i x hx
  split at hx
  ·cases hx
   split at h
   ·cases h;rfl
   ·cases h
  ·cases hx
 ·cases h
theorem wY {lim : Nat} {e : EI} {o : Int} (ho : e.op = o) : (o = 7 -> ir lim e = if iX true e.num e.md e.nm e.ns.length e.ty.length then some ⟨3,[3,0],[e0,sL,sR]⟩ else none) /\ (o = 8 -> ir lim e = if iX true e.num e.md e.nm e.ns.length e.ty.length then some ⟨0,[0,0,0],[wP,il,iq,e0]⟩ else none) /\ (o = 9 -> ir lim e = if iX true e.num e.md e.nm e.ns.length e.ty.length then some ⟨2,[2,3],[e0,mK,e0]⟩ else none) /\ (o = 10 -> ir lim e = if iX true e.num e.md e.nm e.ns.length e.ty.length then some ⟨1,[2,2],[e0,iR,e0]⟩ else none):=by
 unfold ir fE iX;rw [ho];refine ⟨?_,?_,?_,?_⟩ <;>
 ·intro z
  subst z;by_cases b : e.md.size = 0 <;> by_cases d : e.ty.length = 0 <;> by_cases a : e.nm.size = 0 <;> by_cases f : e.ns.length = 0 <;> by_cases c : e.num = 0 <;> simp [b,d,a,f,c]
theorem xb {lim : Nat} {e : EI} (h : ¬ e.op = 1 /\ ¬ e.op = 2 /\ ¬ e.op = 3 /\ ¬ e.op = 4 /\ ¬ e.op = 5 /\ ¬ e.op = 6 /\ ¬ e.op = 7 /\ ¬ e.op = 8 /\ ¬ e.op = 9 /\ ¬ e.op = 10) : ir lim e = none:=by
 obtain ⟨c,f,b,i,d,j,k,g,l,a⟩:=h;unfold ir fE;simp [c,f,b,i,d,j,k,g,l,a]
theorem db {c : Bool} {F : Fm} {ff : Option Fm} (h : ff = if c then some F else none) : c = ff.isSome:=by
 rw [h];cases c <;> rfl
theorem eP {c : Bool} {F f : Fm} {ff : Option Fm} (h : ff = if c then some F else none) (hf : ff = some f) : f = F:=by
 rw [h] at hf
 split at hf
 ·cases hf;rfl
 ·cases hf
theorem qD (w : World) (k : Nat) (os : Array Obj) : Bw w (Go.Sort.grow (w.drewN k) os):=by
 refine ⟨rfl,rfl,rfl,?_,fun x hx=>?_⟩
 ·show w.heap.size <= (w.heap ++ os).size
  simp
 ·show (w.heap ++ os)[x]? = _
  exact Array.getElem?_append_left hx
def fG (n : Int) : Prop:=-9223372036854775808 <= n /\ n <= 9223372036854775807
def sq (w : World) : Prop:=Lib.TabIs Tryz.prog w "internal/strconv.uint64pow10" .u64 Lib.pow10Tab
theorem sq.below {w w' : World} (h : sq w) (hb : Bw w w') : sq w':=Lib.tabBelow_of_tabIs h w' hb
theorem tK : ∀ n : Nat,(bP n).data.toList = Lib.decDigits n:=by
 intro n
 induction n using Nat.strongRecOn with
 | _ n ih=>
   have one : ∀ d,d < 10 -> (bV.extract d (d + 1)).data.toList = [UInt8.ofNat (48 + d)]:=by
    intro d a;have : ∀ d : Fin 10,(bV.extract d.val (d.val + 1)).data.toList = [UInt8.ofNat (48 + d.val)]:=by decide
    exact this ⟨d,a⟩
   rw [bP,Lib.decDigits];by_cases h : n < 10
   ·rw [if_pos h,dif_pos h];exact one n h
   ·rw [if_neg h,dif_neg h,ByteArray.data_append,Array.toList_append,ih (n / 10) (by omega),one (n % 10) (by omega)]
theorem tf {n : Int} (h : 0 <= n) : (⟨(Lib.itoa n).toArray⟩ : ByteArray) = hU n.toNat:=by
 apply ByteArray.ext;show (Lib.itoa n).toArray = _;rw [<- Array.toArray_toList (xs:=(hU n.toNat).data)];congr 1;unfold Lib.itoa hU;rw [if_neg (by omega),tK]
theorem uE (n : Int) (h : fG n) (w : World) (ht : sq w) :
  Calls Tryz.prog 75 #[.int .i64 n] w fun e w'=>(∃ x : ByteArray,e = .returned (.string x) /\ (0 <= n -> x = hU n.toNat)) /\ Bw w w':=by
 refine (Tryz.strconv_Itoa n h.1 h.2 w ht).mono ?_;rintro e w' ⟨rfl,k,a,rfl⟩;exact ⟨⟨_,rfl,fun h0=>tf h0⟩,qD w k a⟩
end Go.Proofs.YtihedobejcaapaaGreatDoor
