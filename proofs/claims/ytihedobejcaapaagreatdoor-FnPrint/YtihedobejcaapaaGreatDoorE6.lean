/-
  YeM YeN YeO
-/
import Derived.Test.YtihedobejcaapaaGreatDoorE5
import Derived.Deep.DeepCutAuto
import Derived.Test.YtihedobejcaapaaGreatDoorB9
set_option maxHeartbeats 8000000
set_option maxRecDepth 100000
namespace Go.Proofs.YtihedobejcaapaaGreatDoor
open Go.RowKit
theorem xR (w : World) {a : Option Addr} {c : Nat} {xs : List (EI × EPl)} (h : kh w (.slice a xs.length c) xs) {ts : List EI} (hts : xs.map Prod.fst = ts) (hcost : ed ts <= 1048576) (hnum : ∀ e,e ∈ ts -> fG e.num) (hten : sq w) (lim : Nat) (hlim : lim <= 1000000) :
  Calls Tryz.prog 46 #[.slice a xs.length c,.int .i64 (lim : Int),.func (.func 47) #[.agg #[.int .i64 (lim : Int)]] #[]] w fun e w'=>e = .returned (.tuple #[.string ((fP (fun i=>(ts[i]?).bind (ir lim)) lim ts.length).getD e0),.bool (fP (fun i=>(ts[i]?).bind (ir lim)) lim ts.length).isSome]) /\ Bw w w':=by
 have b2 : ts.length = xs.length:=by rw [<- hts,List.length_map]
 obtain ⟨M,b5⟩ : ∃ M : Nat -> Option Fm,M = fun i=>(ts[i]?).bind (ir lim):=⟨_,rfl⟩;obtain ⟨n,hn⟩:=xe (xs.length);have g8 : n <= 1048576:=by rw [hn];exact h.len
 have ce : ∀ k (Y : k < xs.length),M k = ir lim xs[k].1:=fun k Y=>by
  rw [b5]
  dsimp only
  rw [<- hts,List.getElem?_map,List.getElem?_eq_getElem Y];rfl
 have bb : ∀ k (Y : k < xs.length),xs[k].1 ∈ ts:=fun k Y=>by rw [<- hts];exact List.mem_map_of_mem (List.getElem_mem Y)
 have ca : ∀ k (Y : k < xs.length),cE xs[k].1 <= 1048576:=fun k Y=>by
  have h2 : cE xs[k].1 <= (ts.map cE).sum:=mo cE (bb k Y);have h3 : ed ts = ts.length + (ts.map cE).sum:=rfl;omega
 have es : Hid (∀ W,Bw w W -> ∀ k,k < n -> ∃ (g : Nat) (t : EI) (p : EPl) (G : Option Addr) (K : Nat),a = some ⟨g,0,none⟩ /\ (W.cell? ⟨g,k * 6,none⟩ = some (Value.int .i64 t.op) /\ W.cell? ⟨g,k * 6 + 1,none⟩ = some (Value.int .i64 t.num) /\ W.cell? ⟨g,k * 6 + 2,none⟩ = some (Value.string t.md) /\ W.cell? ⟨g,k * 6 + 3,none⟩ = some (Value.string t.nm) /\ W.cell? ⟨g,k * 6 + 4,none⟩ = some (Value.slice p.np.a t.ns.length p.np.c) /\ W.cell? ⟨g,k * 6 + 5,none⟩ = some (Value.slice G t.ty.length K)) /\ ∀ W',Bw W W' -> Calls Tryz.prog 47 #[.agg #[.int .i64 (lim : Int)],.agg #[.int .i64 t.op,.int .i64 t.num,.string t.md,.string t.nm,.slice p.np.a t.ns.length p.np.c,.slice G t.ty.length K]] W' (tF W' (M k))):=fun W hb k Y=>by
  have H : k < xs.length:=by omega
  obtain ⟨g,G,K,e,y0,y1,y2,y3,y4,y5,T,ex⟩:=(h.below hb).item H;refine ⟨g,xs[k].1,xs[k].2,G,K,e,⟨y0,y1,y2,y3,y4,y5⟩,fun W' hb'=>?_⟩;rw [ce k H];refine qa W' (T.below hb') ex (hnum _ (bb k H)) ((hten.below hb).below hb') ?_ lim hlim;have V:=ca k H;have h2 : cE xs[k].1 = xs[k].1.md.size + xs[k].1.nm.size + cN xs[k].1.ns + bQ xs[k].1.ty:=rfl;omega
 have fn : Hid (∀ k f,k < n -> M k = some f -> qU f /\ d6 f.texts + 2 * f.needs.length <= 40000000):=fun k f Y hf=>by
  have H : k < xs.length:=by omega
  rw [ce k H] at hf
  have dd : fE xs[k].1 = some f:=by
   unfold ir at hf
   split at hf
   ·cases hf
   ·exact hf
  refine ⟨qY dd,?_⟩;have V:=(uf dd).1;have h2:=ca k H;omega
 obtain ⟨i0,f2,fv,fs,d3⟩:=info_parts Tryz.infoW;rw [b2,<- b5,<- hn];clear b5 ce h hts hcost b2 hn bb ca hnum hten;go_enter Tryz.func46,Tryz.ntmps46;go_wp2
 go_loopw [18,8,9] (fun i s z wr=>∃ (k m A sz : Nat) (D : Option Addr) (q : List Wh),k <= n /\ i = .int .i64 k /\ s = .slice D m A /\ z = .int .i64 sz /\ m <= 1048576 /\ sz <= 1000000 /\ Hid (m = q.length /\ sz = szW q /\ rn M lim k = some q) /\ Hid (wr.ownsRow w.heap.size 115 2 (.slice D m A) m (jk q)) /\ Hid (Bw w wr)) (fun i _ _ _=>n - (intOf i).toNat)
 case atStart=>exact ⟨0,0,0,0,none,[],Nat.zero_le _,rfl,rfl,rfl,by omega,by omega,⟨rfl,rfl,rfl⟩,⟨rfl,.inl ⟨rfl,rfl⟩⟩,Below.refl _ _⟩
 case round=>
  obtain ⟨k,m,A,sz,D,q,Y,rfl,rfl,rfl,hm,gM,d,bs,HW⟩:=hrel;by_cases c9 : k < n
  ·obtain ⟨g,t,p,G,K,ea,⟨y0,y1,y2,y3,y4,y5⟩,C0⟩:=es.out wr HW.out k c9
   have C1:=C0 (wr.alloc (.cells #[.int .i64 t.op,.int .i64 t.num,.string t.md,.string t.nm,.slice p.np.a t.ns.length p.np.c,.slice G t.ty.length K] 65)) (bel1 _ _);have eR : (k : Int) < (n : Int):=by omega
   have g0 : (0 : Int) <= (k : Int):=by omega
   rw [ea];clear C0 ea;obtain ⟨w1,ao⟩:=xe (wr.alloc (.cells #[.int .i64 t.op,.int .i64 t.num,.string t.md,.string t.nm,.slice p.np.a t.ns.length p.np.c,.slice G t.ty.length K] 65));have b7 : Hid (Bw w w1):=by rw [ao];exact HW.out.alloc HW.out.size _
   have b3 : Hid (w1.ownsRow w.heap.size 115 2 (.slice D m A) m (jk q)):=by rw [ao];exact bs.out.alloc _
   rw [<- ao] at C1;go_wp2_with fail;rw [<- ao];clear ao y0 y1 y2 y3 y4 y5 bs HW;refine C1.mono ?_;rintro e v ⟨B2,L,S,tn,tc,Q,fl,nc,ok,rfl,gN,J,HF⟩;clear C1;have O : Hid (Bw w v):=b7.out.trans (B2.mono b7.out.size);have ab : Hid (v.ownsRow w.heap.size 115 2 (.slice D m A) m (jk q)):=az b3.out (ax B2) (by decide);clear B2 b7 b3
   cases hff : M k with
   | none=>
     rw [hff] at J;have a8 : ok = false:=J;subst a8;have I : Hid (fP M lim n = none):=gV (zb d.out.2.2 hff) (by omega);clear hff HF J;have a1 : IntKind.i64.wrap ((m : Int) - (fl : Int)) = (m : Int) - (fl : Int):=wk (by omega);go_wp2;go_ret2;exact ⟨by rw [I.out];rfl,O.out.alloc O.out.size _⟩
   | some f=>
     rw [hff] at J;have a8 : ok = true:=J;subst a8;obtain ⟨nb,tb,eq,b6,e7,eV,_,_⟩:=HF f hff;unfold y8 at eq;simp only [Value.agg.injEq,Array.mk.injEq,List.cons.injEq,Value.int.injEq,Value.slice.injEq,true_and,and_true] at eq;obtain ⟨rfl,rfl,rfl⟩:=eq;have cn:=fn.out k f c9 hff;have de : Hid (jT v f Q S nb tb):=b6;by_cases f8 : m < f.needs.length
     ·have I : Hid (fP M lim n = none):=gV (uK d.out.2.2 hff (by have:=d.out.1;omega)) (by omega)
      have a1 : IntKind.i64.wrap ((m : Int) - (f.needs.length : Int)) = (m : Int) - (f.needs.length : Int):=wk (by omega);have a2 : (m : Int) - (f.needs.length : Int) < 0:=by omega
      clear hff HF J cn b6;go_wp2;go_ret2;exact ⟨by rw [I.out];rfl,O.out.alloc O.out.size _⟩
     ·obtain ⟨j,hj⟩ : ∃ j,m = j + f.needs.length:=⟨m - f.needs.length,by omega⟩
      have a1 : IntKind.i64.wrap ((m : Int) - (f.needs.length : Int)) = (j : Int):=wk (by omega);have a2 : ¬ (j : Int) < 0:=by omega
      have a3 : (0 : Int) <= (j : Int):=by omega
      have a4 : (j : Int) <= (m : Int):=by omega
      have HJ : Hid (m = j + f.needs.length):=hj;have ar : Hid (M k = some f /\ qU f /\ d6 f.texts + 2 * f.needs.length <= 40000000):=⟨hff,cn⟩;obtain ⟨A1,bv⟩:=xe ((if A = j then D else D.map (·.add (j * 2))))
      have e9 : ∀ W,(Instr.slice 110 (.slice D m A) (some (.int .i64 (j : Int))) none none).run Tryz.prog W = .ok (.slice A1 f.needs.length (A - j)) W:=fun W=>by
       have e:=lV D m A j (by omega) W;rw [<- bv,show m - j = f.needs.length by omega] at e;exact e
      have g3 : m <= A:=by
       rcases ab.out.2 with ⟨V,h0⟩ | ⟨_,_,_,V,_,_,h3,_⟩
       ·omega
       ·cases V;exact h3
      have ep : ∀ W,(Instr.slice 110 (.slice D m A) none (some (.int .i64 (j : Int))) none).run Tryz.prog W = .ok (.slice D j A) W:=lY D m A j (by omega);obtain ⟨l,N⟩:=xe (v.alloc (.cells #[.int .i64 (f.lev : Int),.slice Q f.needs.length nc,.slice S f.texts.length tc] 112));have P : Hid (l.rowIs v.heap.size 112 3 (v3 (.int .i64 (f.lev : Int)) (.slice Q f.needs.length nc) (.slice S f.texts.length tc))):=by rw [N];exact ej v _ _ _ _
      have cp : Hid (Bw w l):=by rw [N];exact O.out.alloc O.out.size _
      have E : Hid (l.ownsRow w.heap.size 115 2 (.slice D m A) m (jk q)):=by rw [N];exact ab.out.alloc _
      have dn : Hid (jT l f Q S nb tb):=by rw [N];exact de.out.below (bel1 _ _)
      obtain ⟨R,hR⟩:=xe (oV f q);have a0 : (q.drop j).length = f.needs.length:=by rw [List.length_drop];have:=d.out.1;omega
      have a9 : q.drop j = q.drop (q.length - f.needs.length):=by congr 1;have:=d.out.1;omega
      have hd : R.1.size <= 42000000:=by
       have V:=(iW f.needs f.texts (q.drop j) ar.out.2.1.texts a0).2;have h2:=dX q j;have h3:=d.out.2.1;have h4:=ar.out.2.2;rw [hR];show (aC f.needs f.texts (q.drop (q.length - f.needs.length))).size <= _;rw [<- a9];omega
      obtain ⟨z,hz⟩:=xe (szW (q.drop j));obtain ⟨s2,an⟩:=xe (szW (dC f q))
      have e3 : s2 + z = sz + R.1.size /\ z <= sz:=by
       have V:=ri f q;have h2:=dX q j;have h3:=d.out.2.1;rw [an,hz,hR,h3];rw [a9] at h2 ⊢;omega
      have CA : Hid (∀ W,Bw l W -> Calls Tryz.prog 69 #[.agg #[.int .i64 (f.lev : Int),.slice Q f.needs.length nc,.slice S f.texts.length tc],.slice A1 f.needs.length (A - j)] W fun e w'=>e = .returned (.agg #[.string R.1,.int .i64 (R.2 : Int)]) /\ Hid (Bw W w')):=fun W hb=>by
       obtain ⟨g1,o1,hT⟩:=iY E.out d.out.1 (show j <= m by have:=HJ.out;omega);rw [<- bv] at hT
       have C:=oP W (dn.out.below hb) (c:=A - j) (hT.below hb) a0 ar.out.2.1.texts (by omega) e7 eV (by omega) (by
        have : (aC f.needs f.texts (q.drop j)).size = R.1.size:=by rw [hR,a9];rfl
        omega)
       rw [a0] at C;refine C.mono ?_;rintro e w' ⟨rfl,B⟩;exact ⟨by rw [hR,a9];rfl,B⟩
      have CS : Hid (∀ W,Bw l W -> Calls Tryz.prog 70 #[.slice A1 f.needs.length (A - j)] W fun e w'=>e = .returned (.int .i64 (z : Int)) /\ Hid (Bw W w')):=fun W hb=>by
       obtain ⟨g1,o1,hT⟩:=iY E.out d.out.1 (show j <= m by have:=HJ.out;omega);rw [<- bv] at hT;refine (oJ W (hT.below hb) (by omega) (by omega) a0.symm (by omega)).mono ?_;rintro e w' ⟨rfl,B⟩;exact ⟨by rw [hz],B⟩
      have a5 : IntKind.i64.wrap ((R.1.size : Int) - (z : Int)) = (R.1.size : Int) - (z : Int):=wk (by omega);have a6 : IntKind.i64.wrap ((sz : Int) + ((R.1.size : Int) - (z : Int))) = (s2 : Int):=wk (by omega);have cq : Hid (R = oV f q /\ s2 = szW (dC f q)):=⟨hR,an⟩;have f5 : s2 <= 44000000:=by omega
      have c7 : Hid (dC f q = q.take j ++ [R]):=by
       show _ = _;unfold dC;rw [<- hR];congr 2;have:=d.out.1;omega
      clear hff HF J cn b6 hj bv hR hz an e3 a0 a9 de ab;go_upto_region 10 with fail;rw [<- N];clear N;have ck : Hid (Bw l l.drew):=(Below.refl _ _).drew;have c0 : Hid (Bw l (l.alloc (.cells #[.string ⟨#[]⟩,.int .i64 0] 115)).drew):=(bel1 _ _).drew
      go_cut [15] (fun s15 wc=>∃ X,s15 = .pointer (some ⟨X,0,none⟩) /\ l.heap.size <= X /\ Hid (wc.rowIs X 115 2 (v2 (.string R.1) (.int .i64 (R.2 : Int)))) /\ Hid (Bw l wc))
      case first=>
       have x0 : l.cell? ⟨v.heap.size,0,none⟩ = some (.int .i64 (f.lev : Int)):=P.out.cell (i:=0) (by omega);have x1 : l.cell? ⟨v.heap.size,1,none⟩ = some (.slice Q f.needs.length nc):=P.out.cell (i:=1) (by omega);have x2 : l.cell? ⟨v.heap.size,2,none⟩ = some (.slice S f.texts.length tc):=P.out.cell (i:=2) (by omega);have cm : Hid (∀ u : World,u.rowIs v.heap.size 112 3 (v3 (.int .i64 (f.lev : Int)) (.slice Q f.needs.length nc) (.slice S f.texts.length tc)) -> u.cell? ⟨v.heap.size,0,none⟩ = some (.int .i64 (f.lev : Int)) /\ u.cell? ⟨v.heap.size,1,none⟩ = some (.slice Q f.needs.length nc) /\ u.cell? ⟨v.heap.size,2,none⟩ = some (.slice S f.texts.length tc)):=fun u h=>⟨h.cell (i:=0) (by omega),h.cell (i:=1) (by omega),h.cell (i:=2) (by omega)⟩;have el : v.heap.size < l.heap.size:=P.out.lt
       have ee : Hid (∀ (u : World) (x y : Value),u.rowIs v.heap.size 112 3 (v3 (.int .i64 (f.lev : Int)) (.slice Q f.needs.length nc) (.slice S f.texts.length tc)) -> ((u.setCell ⟨l.heap.size,0,none⟩ x).setCell ⟨l.heap.size,1,none⟩ y).cell? ⟨v.heap.size,0,none⟩ = some (.int .i64 (f.lev : Int)) /\ ((u.setCell ⟨l.heap.size,0,none⟩ x).setCell ⟨l.heap.size,1,none⟩ y).cell? ⟨v.heap.size,1,none⟩ = some (.slice Q f.needs.length nc) /\ ((u.setCell ⟨l.heap.size,0,none⟩ x).setCell ⟨l.heap.size,1,none⟩ y).cell? ⟨v.heap.size,2,none⟩ = some (.slice S f.texts.length tc)):=fun u x y h=>by
        have r:=(h.setOther (a:=⟨l.heap.size,0,none⟩) (by show v.heap.size ≠ l.heap.size;omega) x).setOther (a:=⟨l.heap.size,1,none⟩) (by show v.heap.size ≠ l.heap.size;omega) y;exact cm.out _ r
       go_region_held3 (fun w'=>w'.cell? ⟨v.heap.size,0,none⟩ = some (.int .i64 (f.lev : Int)) /\ w'.cell? ⟨v.heap.size,1,none⟩ = some (.slice Q f.needs.length nc) /\ w'.cell? ⟨v.heap.size,2,none⟩ = some (.slice S f.texts.length tc)) (first | (with_reducible exact ee.out _ _ _ di.out) | go_keep) (first
        | (go_at_call 69;(with_reducible refine (CA.out _ ck.out).mono ?_);rintro e u0 ⟨rfl,V0⟩;obtain ⟨x3,x4,x5⟩:=cm.out u0 (P.out.of_block (V0.out.block v.heap.size el)))
        | (go_at_call 69;(with_reducible refine (CA.out _ c0.out).mono ?_);rintro e u1 ⟨rfl,V1⟩;have a7:=(ol l (.string ⟨#[]⟩) (.int .i64 0) 115).of_block (w':=u1) (V1.out.block l.heap.size (by show l.heap.size < (l.alloc _).heap.size;simp));have di : Hid (u1.rowIs v.heap.size 112 3 (v3 (.int .i64 (f.lev : Int)) (.slice Q f.needs.length nc) (.slice S f.texts.length tc))):=((P.out.alloc (.cells #[.string ⟨#[]⟩,.int .i64 0] 115)).of_block (V1.out.block v.heap.size (by show v.heap.size < (l.alloc _).heap.size;simp;omega)));obtain ⟨x3,x4,x5⟩:=cm.out u1 di.out;have z0:=a7.cell (i:=0) (by omega);have z1:=a7.cell (i:=1) (by omega);have z2:=a7.frozen 0;have z3:=a7.frozen 1))
       all_goals
        go_wp2;go_meet
        case rel=>
         first
          | exact ⟨u0.heap.size,rfl,V0.out.size,ol _ _ _ _,(ck.out.trans (V0.out.mono (nlr _))).alloc (ck.out.trans (V0.out.mono (nlr _))).size _⟩
          | exact ⟨l.heap.size,rfl,nlr _,((a7.set 0 _).set 1 _).congr (fun i hi=>by
            match i,hi with
            | 0,_=>rfl
            | 1,_=>rfl),((c0.out.trans (V1.out.mono (by show l.heap.size <= (l.alloc _).heap.size;simp))).setCell (p:=⟨l.heap.size,0,none⟩) (nlr _) _).setCell (p:=⟨l.heap.size,1,none⟩) (nlr _) _⟩
      case rest=>
       obtain ⟨X,rfl,gD,co,bo⟩:=hcut;have q0 : wc.cell? ⟨X,0,none⟩ = some (.string R.1):=co.out.cell (i:=0) (by omega);have b4 : Hid (Bw l wc.drew):=bo.out.drew;have ew : X < wc.heap.size:=co.out.lt;go_wp2
       go_region_held3 (fun w'=>w'.cell? ⟨X,0,none⟩ = some (.string R.1)) (go_keep) (first
        | (go_at_call 70;(with_reducible refine (CS.out _ b4.out).mono ?_);rintro e U ⟨rfl,V2⟩;have Z:=co.out.of_block (w':=U) (V2.out.block X ew);have q1 : U.cell? ⟨X,0,none⟩ = some (.string R.1):=Z.cell (i:=0) (by omega)))
       have b8 : Hid (Bw w U):=(cp.out.trans (b4.out.mono cp.out.size)).trans (V2.out.mono (Nat.le_trans cp.out.size bo.out.size));have ff : w.heap.size <= U.heap.size:=b8.out.size;by_cases dl : lim < s2
       ·have I : Hid (fP M lim n = none):=gV (uv d.out.2.2 ar.out.1 (by have:=d.out.1;have:=HJ.out;omega) (by rw [<- cq.out.2];exact dl)) (by omega)
        have b1 : (lim : Int) < (s2 : Int):=by omega
        clear q0 q1 Z V2;go_wp2;go_ret2;exact ⟨by rw [I.out];rfl,b8.out⟩
       ·have b1 : ¬ (lim : Int) < (s2 : Int):=by omega
        have q2 : U.cell? ⟨X,1,none⟩ = some (.int .i64 (R.2 : Int)):=Z.cell (i:=1) (by omega);have bx : Hid (X < U.heap.size):=Z.lt
        have dk : U.ownsRow w.heap.size 115 2 (.slice D m A) m (jk q):=aG E.out (fun b e=>by
         have hb:=(E.out.lt b e.symm).2;exact (V2.out.block b (Nat.lt_of_lt_of_le hb bo.out.size)).trans (bo.out.block b hb))
        have bL:=rL (j:=j) dk d.out.1 (by have:=HJ.out;omega)
        have n1 : some X ≠ (Value.slice D j A).ownBlock:=fun e=>by
         have V : (Value.slice D m A).ownBlock = some X:=by
          rw [e];cases D <;> rfl
         have:=(E.out.lt X V).2;omega
        have ha : j <= 1048576:=by have:=HJ.out;omega
        have e8 : j + 1 <= maxLen:=by unfold maxLen;omega
        have e6 : (j + 1) * 24 <= 140737488355328:=by omega
        clear Z V2 dk;go_wp2
        go_region_held3 (fun w'=>w'.cell? ⟨X,0,none⟩ = some (.string R.1) /\ w'.cell? ⟨X,1,none⟩ = some (.int .i64 (R.2 : Int))) (go_keep) ((refine step_append_lies _ (by rfl) _ _ _ (by rfl) w.heap.size 115 i0 _ 2 24 Tryz.underlying110 f2 fv fs d3 rfl (by omega) (.slice D j A) j (jk (q.take j)) (by rfl) (by first | exact bL.alloc _ | exact (bL.alloc _).drew) ⟨U.heap.size,0,none⟩ 1 1 [.string R.1,.int .i64 (R.2 : Int)] (by rfl) (by rfl) (World.news_of_block (cs:=#[.string R.1,.int .i64 (R.2 : Int)]) (t:=115) (fr:=(0,0)) (heap_alloc_new U _)) (by simp [Value.oneCell']) (by omega) e8 e6 (by simp;omega) (U.heap.size + 1) (by simp) ?_;intro gg b0 w9 ah F cM c5;have e0 : w9.cell? ⟨X,0,none⟩ = some (.string R.1):=(F.cell_far ⟨X,0,none⟩ (by have:=bx.out;simp;omega) n1).trans (((bel1 U _).cell (p:=⟨X,0,none⟩) bx.out).trans q1);have e1 : w9.cell? ⟨X,1,none⟩ = some (.int .i64 (R.2 : Int)):=(F.cell_far ⟨X,1,none⟩ (by have:=bx.out;simp;omega) n1).trans (((bel1 U _).cell (p:=⟨X,1,none⟩) bx.out).trans q2)))
        all_goals
         have d5 : Hid (w9.ownsRow w.heap.size 115 2 (.slice (some ⟨gg,0,none⟩) (j + 1) b0) (j + 1) (jk (dC f q))):=by
          show World.ownsRow _ _ _ _ _ _ _;rw [c7.out,oq];exact ah
         have ef : Hid (Bw w w9):=kC (o:=.cells #[.string R.1,.int .i64 (R.2 : Int)] 115) b8.out ff bL ⟨F.os,F.tape,F.output,F.size,F.block⟩
         have b9 : Hid (j + 1 = (dC f q).length /\ s2 = szW (dC f q) /\ rn M lim (k + 1) = some (dC f q)):=by
          have V:=d.out.1;have h2:=HJ.out;refine ⟨?_,cq.out.2,uB d.out.2.2 ar.out.1 (by omega) (by rw [<- cq.out.2];omega)⟩;rw [c7.out,lap,List.length_take,List.length_singleton];omega
         clear ah F cM c5 e0 e1 q0 q1 q2 bL n1 e9 ep CA CS;go_wp2
         go_roundw
         case rel=>
          exact ⟨k + 1,j + 1,b0,s2,some ⟨gg,0,none⟩,dC f q,by omega,by go_num,rfl,rfl,by have:=(qZ b9.out.2.2).2;have:=b9.out.1;omega,by omega,b9,d5,ef⟩
         case measure=>simp [intOf];omega
  ·have f1 : k = n:=by omega
   subst f1;have eR : ¬ (k : Int) < (k : Int):=by omega
   by_cases V : m = 1
   ·obtain ⟨x,hx⟩ : ∃ x,q = [x]:=by
     have:=d.out.1
     match q,this with
     | [x],_=>exact ⟨x,rfl⟩
     | [],h=>simp at h;omega
     | _ :: _ :: _,h=>simp at h;omega
    subst hx;subst V
    have fm : Hid (fP M lim k = some x.1):=by
     show _ = _;unfold fP;rw [d.out.2.2]
    obtain ⟨gg,cc,ev,_,_,_⟩:=au bs.out (by omega);simp only [Value.slice.injEq,true_and] at ev;obtain ⟨rfl,rfl⟩:=ev
    have y0 : wr.cell? ⟨gg,0,none⟩ = some (.string x.1):=by
     have:=af (f:=Bm) iQ bs.out rfl (j:=0) (by show 0 < 1;omega) (r:=0) (by omega) (u:=.string x.1) rfl;exact this
    go_wp2;go_ret2;exact ⟨by rw [fm.out];rfl,HW.out⟩
   ·have I : Hid (fP M lim k = none):=by
     show _ = _;unfold fP;rw [d.out.2.2];have:=d.out.1
     match q,this with
     | [x],h=>simp at h;omega
     | [],_=>rfl
     | _ :: _ :: _,_=>rfl
    have c1 : ((m : Int) == 1) = false:=bn2 (by omega);have c2 : ((m : Int) != 1) = true:=by rw [bne,c1];rfl
    go_wp2;go_ret2;exact ⟨by rw [I.out];rfl,HW.out⟩
def wM (lim : Nat) (ts : List TI) : Option ByteArray:=fP (fun i=>(ts[i]?).bind fT) lim ts.length
def yL (lim : Nat) (es : List EI) : Option ByteArray:=fP (fun i=>(es[i]?).bind (ir lim)) lim es.length
def sI (lim : Nat) (d : DC) : Bool:=gn d.nm && (
 if d.kind = 1 then decide (d.ty.length = 0) && decide (d.ex.length = 0)
 else if d.kind = 2 then (wM lim d.ty).isSome && decide (d.ex.length = 0)
 else decide (d.kind = 3) && (wM lim d.ty).isSome && (yL lim d.ex).isSome)
def uk (lim : Nat) (d : DC) : ByteArray:=
 if d.kind = 1 then pQ ++ d.nm ++ iH
 else if d.kind = 2 then pL ++ d.nm ++ ft ++ (wM lim d.ty).getD e0 ++ iH
 else pV ++ d.nm ++ dz ++ (wM lim d.ty).getD e0 ++ ft ++ (yL lim d.ex).getD e0 ++ iH
theorem j4 {fo : Nat -> Option Fm} {lim n : Nat} : ((fP fo lim n).getD e0).size <= lim:=by
 cases h : fP fo lim n with
 | none=>show (0 : Nat) <= _;omega
 | some x=>exact yW h
theorem AP {lim : Nat} {d : DC} (h : sI lim d = true) : fO d = true /\ uk lim d = nN d:=by
 unfold sI wM yL at h;unfold fO uk nN wM yL;rw [vh,Af] at h;rw [vh,Af];by_cases c : d.kind = 1
 ·simp only [c,if_true] at h ⊢
  exact ⟨h,trivial⟩
 ·by_cases b : d.kind = 2
  ·simp only [b] at h ⊢
   by_cases a : dH d.ty = true /\ (fW d.ty).size <= lim
   ·simp [a] at h ⊢
    exact h
   ·simp [a] at h
  ·simp only [if_neg c,if_neg b] at h ⊢
   by_cases a : dH d.ty = true /\ (fW d.ty).size <= lim
   ·by_cases e : nO d.ex = true /\ (ww d.ex).size <= lim
    ·simp [a,e] at h ⊢
     exact h
    ·simp [a,e] at h
   ·simp [a] at h
theorem zY {lim : Nat} {d : DC} (h : fO d = true) (hs : (nN d).size <= lim) : sI lim d = true:=by
 unfold sI wM yL;unfold fO at h;unfold nN at hs;rw [vh,Af];by_cases c : d.kind = 1
 ·simp only [c,if_true] at h ⊢
  exact h
 ·by_cases b : d.kind = 2
  ·simp only [b] at h hs ⊢
   simp only [show ((2 : Int) = 1) = False by simp,if_false,if_true,bsa] at hs h ⊢;have a : (fW d.ty).size <= lim:=by omega
   simp only [Bool.and_eq_true] at h ⊢;simp [h,a];exact List.length_eq_zero_iff.1 (of_decide_eq_true h.2.2)
  ·simp only [if_neg c,if_neg b,bsa] at h hs ⊢
   have a : (fW d.ty).size <= lim:=by omega
   have e : (ww d.ex).size <= lim:=by omega
   simp only [Bool.and_eq_true] at h ⊢;simp [h,a,e]
def vO (gnm : Bool) (kind : Int) (tn en : Nat) (tb eb : Bool) : Bool:=gnm && (
 if kind = 1 then decide (tn = 0) && decide (en = 0)
 else if kind = 2 then tb && decide (en = 0)
 else decide (kind = 3) && tb && eb)
theorem yv (w : World) {d : DC} {p : DPl} (h : jJ w d p) (hnum : ∀ e,e ∈ d.ex -> fG e.num) (hten : sq w) {ta ea : Option Addr} {tc ec : Nat} (htv : p.tv = .slice ta d.ty.length tc) (hev : p.ev = .slice ea d.ex.length ec) (hnm : d.nm.size <= 1048576) (lim : Nat) (hlim : lim <= 1000000) :
  Calls Tryz.prog 22 #[.agg #[.int .i64 (lim : Int)],.agg #[.int .i64 d.kind,.string d.nm,.slice ta d.ty.length tc,.slice ea d.ex.length ec]] w fun e w'=>(∃ t : ByteArray,e = .returned (.tuple #[.string t,.bool (sI lim d)]) /\ (sI lim d = true -> t = uk lim d)) /\ Bw w w':=by
 have s : p.zs.length = d.ty.length:=by rw [<- h.isT,List.length_map]
 have v : p.es.length = d.ex.length:=by rw [<- h.isE,List.length_map]
 obtain ⟨x,V⟩:=xe ((wM lim d.ty).getD e0);obtain ⟨X,D⟩:=xe ((wM lim d.ty).isSome);obtain ⟨y,U⟩:=xe ((yL lim d.ex).getD e0);obtain ⟨Y,G⟩:=xe ((yL lim d.ex).isSome);have a1 : cD d = d.nm.size + bQ d.ty + ed d.ex:=rfl;have Z:=h.cost
 have E : Hid (∀ W,Bw w W -> Calls Tryz.prog 44 #[.slice ta d.ty.length tc,.int .i64 (lim : Int),.func (.func 45) #[] #[]] W fun e w'=>e = .returned (.tuple #[.string x,.bool X]) /\ Bw W w'):=fun W hb=>by
  have T:=h.ty.below hb;rw [htv,<- s] at T;have C:=rJ W T h.isT (by omega) lim hlim;rw [s] at C;rw [V,D];exact C
 have I : Hid (∀ W,Bw w W -> Calls Tryz.prog 46 #[.slice ea d.ex.length ec,.int .i64 (lim : Int),.func (.func 47) #[.agg #[.int .i64 (lim : Int)]] #[]] W fun e w'=>e = .returned (.tuple #[.string y,.bool Y]) /\ Bw W w'):=fun W hb=>by
  have T:=h.ex.below hb;rw [hev,<- v] at T;have C:=xR W T h.isE (by omega) hnum (hten.below hb) lim hlim;rw [v] at C;rw [U,G];exact C
 have bv : x.size <= 1000000:=by rw [V];exact Nat.le_trans j4 hlim
 have bx : y.size <= 1000000:=by rw [U];exact Nat.le_trans j4 hlim
 have r : Hid (∀ W,Calls Tryz.prog 43 #[.string d.nm] W fun e w'=>e = .returned (.bool (gn d.nm)) /\ w' = W):=fun W=>tG d.nm W (by omega);obtain ⟨R,hR⟩:=xe (sI lim d);have k : Hid (R = vO (gn d.nm) d.kind d.ty.length d.ex.length X Y):=by show _ = _;rw [hR,D,G];rfl
 have n : Hid (uk lim d = if d.kind = 1 then pQ ++ d.nm ++ iH else if d.kind = 2 then pL ++ d.nm ++ ft ++ x ++ iH else pV ++ d.nm ++ dz ++ x ++ ft ++ y ++ iH):=by show _ = _;rw [V,U];rfl
 rw [<- hR];obtain ⟨P,hP⟩:=xe (uk lim d);rw [<- hP] at n ⊢;obtain ⟨an,K⟩:=xe (gn d.nm);rw [<- K] at r k;obtain ⟨kind,u⟩:=xe (d.kind);obtain ⟨nm,g⟩:=xe (d.nm);obtain ⟨F,o⟩:=xe (d.ty.length);obtain ⟨en,m⟩:=xe (d.ex.length);have a3 : F <= 1048576:=by rw [o,<- s];exact h.ty.len
 have a2 : en <= 1048576:=by rw [m,<- v];exact h.ex.len
 rw [<- u,<- g] at n;rw [<- u,<- o,<- m] at k;rw [<- g] at r hnm;rw [<- o] at E;rw [<- m] at I;rw [<- u,<- g,<- o,<- m];clear V D U G a1 Z h hnum hten htv hev s v hR hP K u g o m;obtain ⟨B,b⟩:=xe ((w.alloc (.cells #[.int .i64 (lim : Int)] 56)).alloc (.cells #[.int .i64 kind,.string nm,.slice ta F tc,.slice ea en ec] 37));have j : Hid (Bw w B):=by rw [b];exact eM _ _ _
 have N : Hid (B.rowIs (w.heap.size + 1) 37 4 (v4 (.int .i64 kind) (.string nm) (.slice ta F tc) (.slice ea en ec))):=by
  have q:=fK (w.alloc (.cells #[.int .i64 (lim : Int)] 56)) (.int .i64 kind) (.string nm) (.slice ta F tc) (.slice ea en ec) 37;rw [World.size_alloc] at q;rw [b];exact q
 have M : Hid (B.rowIs w.heap.size 56 1 (fun _=>.int .i64 (lim : Int))):=by rw [b];exact (aK w (.int .i64 (lim : Int)) 56).alloc _
 have H : Hid (∀ W,Bw B W -> W.cell? ⟨w.heap.size + 1,0,none⟩ = some (.int .i64 kind) /\ W.cell? ⟨w.heap.size + 1,1,none⟩ = some (.string nm) /\ W.cell? ⟨w.heap.size + 1,2,none⟩ = some (.slice ta F tc) /\ W.cell? ⟨w.heap.size + 1,3,none⟩ = some (.slice ea en ec) /\ W.cell? ⟨w.heap.size,0,none⟩ = some (.int .i64 (lim : Int))):=fun W hb=>by
  have S:=N.out.of_block (hb.block _ N.out.lt);have r2:=M.out.of_block (hb.block _ M.out.lt);exact ⟨S.cell (i:=0) (by omega),S.cell (i:=1) (by omega),S.cell (i:=2) (by omega),S.cell (i:=3) (by omega),r2.cell (i:=0) (by omega)⟩
 cases an with
 | false=>
   have a : Hid (R = false):=k.out;go_enter Tryz.func22,Tryz.ntmps22;go_wp2_with (first | (go_at_call 43;refine (r.out _).mono ?_;rintro e f ⟨rfl,rfl⟩));go_ret2;exact ⟨⟨_,by rw [a.out];rfl,fun z=>by rw [a.out] at z;cases z⟩,eM _ _ _⟩
 | true=>
   by_cases k1 : kind = 1
   ·subst k1
    have l : Hid (P = (⟨#[105,109,112,111,114,116,32]⟩ ++ nm) ++ ⟨#[59,10]⟩):=n.out;have c1:=rsa (⟨#[105,109,112,111,114,116,32]⟩ : ByteArray) nm (by show 7 + nm.size <= _;omega);have c2:=rsa ((⟨#[105,109,112,111,114,116,32]⟩ : ByteArray) ++ nm) ⟨#[59,10]⟩ (by rw [bsa];show 7 + nm.size + 2 <= _;omega);by_cases z1 : F = 0
    ·subst z1
     by_cases L : en = 0
     ·subst L
      have a : Hid (R = true):=k.out;go_enter Tryz.func22,Tryz.ntmps22;go_wp2_with (first | (go_at_call 43;refine (r.out _).mono ?_;rintro e f ⟨rfl,rfl⟩));go_quiet (fail);go_wp2;go_ret2;exact ⟨⟨_,by rw [a.out];rfl,fun _=>l.out.symm⟩,ph _ _ _ _⟩
     ·have z3 : ((en : Int) == 0) = false:=bn2 (by omega)
      have a : Hid (R = false):=by show _ = _;rw [k.out];unfold vO;simp [L]
      go_enter Tryz.func22,Tryz.ntmps22;go_wp2_with (first | (go_at_call 43;refine (r.out _).mono ?_;rintro e f ⟨rfl,rfl⟩));go_quiet (fail);go_wp2;go_ret2;exact ⟨⟨_,by rw [a.out];rfl,fun z=>by rw [a.out] at z;cases z⟩,ph _ _ _ _⟩
    ·have z3 : ((F : Int) == 0) = false:=bn2 (by omega)
     have a : Hid (R = false):=by show _ = _;rw [k.out];unfold vO;simp [z1]
     go_enter Tryz.func22,Tryz.ntmps22;go_wp2_with (first | (go_at_call 43;refine (r.out _).mono ?_;rintro e f ⟨rfl,rfl⟩));go_quiet (fail);go_wp2;go_ret2;exact ⟨⟨_,by rw [a.out];rfl,fun z=>by rw [a.out] at z;cases z⟩,ph _ _ _ _⟩
   by_cases k2 : kind = 2
   ·subst k2
    have l : Hid (P = (((⟨#[116,121,112,101,32]⟩ ++ nm) ++ ⟨#[32,61,32]⟩) ++ x) ++ ⟨#[59,10]⟩):=n.out;have c1:=rsa (⟨#[116,121,112,101,32]⟩ : ByteArray) nm (by show 5 + nm.size <= _;omega);have c2:=rsa ((⟨#[116,121,112,101,32]⟩ : ByteArray) ++ nm) ⟨#[32,61,32]⟩ (by simp only [bsa];show 5 + nm.size + 3 <= _;omega);have c3:=rsa (((⟨#[116,121,112,101,32]⟩ : ByteArray) ++ nm) ++ ⟨#[32,61,32]⟩) x (by simp only [bsa];show 5 + nm.size + 3 + x.size <= _;omega);have c4:=rsa ((((⟨#[116,121,112,101,32]⟩ : ByteArray) ++ nm) ++ ⟨#[32,61,32]⟩) ++ x) ⟨#[59,10]⟩ (by simp only [bsa];show 5 + nm.size + 3 + x.size + 2 <= _;omega);have O:=E.out B j.out;go_enter Tryz.func22,Tryz.ntmps22;go_wp2_with (first | (go_at_call 43;refine (r.out _).mono ?_;rintro e f ⟨rfl,rfl⟩));rw [<- b];clear b;refine O.mono ?_;rintro e f ⟨rfl,A⟩;obtain ⟨l0,l1,l2,l3,l4⟩:=H.out f A;have c : Hid (Bw w f):=j.out.trans (A.mono j.out.size);clear O A
    cases X with
    | false=>
      have a : Hid (R = false):=k.out;go_wp2;go_quiet (fail);go_wp2;go_ret2;exact ⟨⟨_,by rw [a.out];rfl,fun z=>by rw [a.out] at z;cases z⟩,below_drewN c.out _⟩
    | true=>
      by_cases L : en = 0
      ·subst L
       have a : Hid (R = true):=k.out;go_wp2;go_quiet (fail);go_wp2;go_ret2;exact ⟨⟨_,by rw [a.out];rfl,fun _=>l.out.symm⟩,below_drewN c.out _⟩
      ·have z3 : ((en : Int) == 0) = false:=bn2 (by omega)
       have a : Hid (R = false):=by show _ = _;rw [k.out];unfold vO;simp [L]
       go_wp2;go_quiet (fail);go_wp2;go_ret2;exact ⟨⟨_,by rw [a.out];rfl,fun z=>by rw [a.out] at z;cases z⟩,below_drewN c.out _⟩
   by_cases k3 : kind = 3
   ·subst k3
    have l : Hid (P = (((((⟨#[118,97,108,32]⟩ ++ nm) ++ ⟨#[58,32]⟩) ++ x) ++ ⟨#[32,61,32]⟩) ++ y) ++ ⟨#[59,10]⟩):=n.out;have c1:=rsa (⟨#[118,97,108,32]⟩ : ByteArray) nm (by show 4 + nm.size <= _;omega);have c2:=rsa ((⟨#[118,97,108,32]⟩ : ByteArray) ++ nm) ⟨#[58,32]⟩ (by simp only [bsa];show 4 + nm.size + 2 <= _;omega);have c3:=rsa (((⟨#[118,97,108,32]⟩ : ByteArray) ++ nm) ++ ⟨#[58,32]⟩) x (by simp only [bsa];show 4 + nm.size + 2 + x.size <= _;omega);have c4:=rsa ((((⟨#[118,97,108,32]⟩ : ByteArray) ++ nm) ++ ⟨#[58,32]⟩) ++ x) ⟨#[32,61,32]⟩ (by simp only [bsa];show 4 + nm.size + 2 + x.size + 3 <= _;omega);have c5:=rsa (((((⟨#[118,97,108,32]⟩ : ByteArray) ++ nm) ++ ⟨#[58,32]⟩) ++ x) ++ ⟨#[32,61,32]⟩) y (by simp only [bsa];show 4 + nm.size + 2 + x.size + 3 + y.size <= _;omega);have c6:=rsa ((((((⟨#[118,97,108,32]⟩ : ByteArray) ++ nm) ++ ⟨#[58,32]⟩) ++ x) ++ ⟨#[32,61,32]⟩) ++ y) ⟨#[59,10]⟩ (by simp only [bsa];show 4 + nm.size + 2 + x.size + 3 + y.size + 2 <= _;omega);have O:=E.out B j.out;go_enter Tryz.func22,Tryz.ntmps22;go_wp2_with (first | (go_at_call 43;refine (r.out _).mono ?_;rintro e f ⟨rfl,rfl⟩));rw [<- b];clear b;refine O.mono ?_;rintro e f ⟨rfl,A⟩;obtain ⟨l0,l1,l2,l3,l4⟩:=H.out f A;have c : Hid (Bw w f):=j.out.trans (A.mono j.out.size);have Q : Hid (Bw B f):=A;have C3:=I.out f c.out;clear O A;go_wp2_with fail;refine C3.mono ?_;rintro e w3 ⟨rfl,B3⟩;obtain ⟨m0,m1,m2,m3,m4⟩:=H.out w3 (Q.out.trans (B3.mono Q.out.size));have J : Hid (Bw w w3):=c.out.trans (B3.mono c.out.size);clear C3 B3 l0 l1 l2 l3 l4
    cases X with
    | false=>
      have a : Hid (R = false):=k.out;go_wp2;go_ret2;exact ⟨⟨_,by rw [a.out];rfl,fun z=>by rw [a.out] at z;cases z⟩,J.out⟩
    | true=>
      have a : Hid (R = Y):=k.out;go_wp2;go_ret2;exact ⟨⟨_,by rw [a.out];rfl,fun _=>l.out.symm⟩,J.out⟩
   ·have a : Hid (R = false):=by show _ = _;rw [k.out];unfold vO;simp [k1,k2,k3]
    have d1 : (kind == 1) = false:=bn2 k1;have d2 : (kind == 2) = false:=bn2 k2;have d3 : (kind == 3) = false:=bn2 k3;go_enter Tryz.func22,Tryz.ntmps22;go_wp2_with (first | (go_at_call 43;refine (r.out _).mono ?_;rintro e f ⟨rfl,rfl⟩));go_ret2;exact ⟨⟨_,by rw [a.out];rfl,fun z=>by rw [a.out] at z;cases z⟩,eM _ _ _⟩
theorem zz (lim : Nat) (d : DC) : (uk lim d).size <= d.nm.size + 2 * lim + 20:=by
 have b : ((wM lim d.ty).getD e0).size <= lim:=j4;have e : ((yL lim d.ex).getD e0).size <= lim:=j4;have g : pQ.size = 7:=rfl;have h : iH.size = 2:=rfl;have i : pL.size = 5:=rfl;have c : ft.size = 3:=rfl;have a : pV.size = 4:=rfl;have f : dz.size = 2:=rfl;unfold uk
 split
 ·simp only [bsa];omega
 ·split
  ·simp only [bsa];omega
  ·simp only [bsa];omega
def qW : ByteArray -> List DC -> Option ByteArray
 | acc,[]=>some acc
 | acc,d :: ds=>if sI 1000 d = true /\ acc.size + (uk 1000 d).size <= 1000 then qW (acc ++ uk 1000 d) ds else none
theorem vu : ∀ (ds : List DC) (acc : ByteArray),acc.size <= 1000 -> qW acc ds = if ds.all fO = true /\ (acc ++ bR ds).size <= 1000 then some (acc ++ bR ds) else none
 | [],acc,h=>by
   have e : acc ++ bR [] = acc:=by show acc ++ e0 = acc;exact ByteArray.append_empty
   rw [e,if_pos ⟨rfl,h⟩];rfl
 | d :: ds,acc,h=>by
   rw [qW]
   have e : acc ++ bR (d :: ds) = (acc ++ nN d) ++ bR ds:=by
    show acc ++ (nN d ++ bR ds) = _;rw [ByteArray.append_assoc]
   by_cases b : sI 1000 d = true
   ·obtain ⟨a,c⟩:=AP b
    rw [c];by_cases f : acc.size + (nN d).size <= 1000
    ·rw [if_pos ⟨b,f⟩,vu ds _ (by rw [bsa];exact f),<- e]
     simp [a]
    ·rw [if_neg (fun z=>f z.2),if_neg]
     intro z;have:=z.2;rw [e] at this;simp only [bsa] at this;omega
   ·rw [if_neg (fun z=>b z.1),if_neg]
    intro z;have a:=z.2;rw [e] at a;simp only [bsa] at a
    have c : fO d = true:=by
     have:=z.1;simp only [List.all_cons,Bool.and_eq_true] at this;exact this.1
    exact b (zY c (by omega))
theorem xq (ds : List DC) : qW e0 ds = if fS ds = true then some (bR ds) else none:=by
 rw [vu ds e0 (by decide)];have e : e0 ++ bR ds = bR ds:=gI _;rw [e];unfold fS;by_cases b : ds.all fO = true <;> by_cases a : (bR ds).size <= 1000 <;> simp [b,a]
theorem te (w : World) {a : Option Addr} {c : Nat} {xs : List (DC × DPl)} (h : fV w (.slice a xs.length c) xs) {ds : List DC} (hds : xs.map Prod.fst = ds) (hnum : ∀ d,d ∈ ds -> ∀ e,e ∈ d.ex -> fG e.num) (hten : sq w) :
  Calls Tryz.prog 10 #[.agg #[.slice a xs.length c]] w fun e w'=>e = .returned (.tuple #[.string (pD ds),.bool (fS ds)]) /\ Bw w w':=by
 have S : ds.length = xs.length:=by rw [<- hds,List.length_map]
 obtain ⟨n,hn⟩:=xe (xs.length);have bx : n <= 1048576:=by rw [hn];exact h.len
 have a4 : Hid (∀ W,Bw w W -> ∀ k,k < n -> ∃ (g : Nat) (d : DC) (I B : Option Addr) (E F : Nat),a = some ⟨g,0,none⟩ /\ (W.cell? ⟨g,k * 4,none⟩ = some (Value.int .i64 d.kind) /\ W.cell? ⟨g,k * 4 + 1,none⟩ = some (Value.string d.nm) /\ W.cell? ⟨g,k * 4 + 2,none⟩ = some (Value.slice I d.ty.length E) /\ W.cell? ⟨g,k * 4 + 3,none⟩ = some (Value.slice B d.ex.length F)) /\ ds.drop k = d :: ds.drop (k + 1) /\ d.nm.size <= 1048576 /\ ∀ W',Bw W W' -> Calls Tryz.prog 22 #[.agg #[.int .i64 1000],.agg #[.int .i64 d.kind,.string d.nm,.slice I d.ty.length E,.slice B d.ex.length F]] W' fun e w'=>(∃ t : ByteArray,e = .returned (.tuple #[.string t,.bool (sI 1000 d)]) /\ (sI 1000 d = true -> t = uk 1000 d)) /\ Bw W' w'):=fun W hb k hk=>by
  have Q : k < xs.length:=by omega
  obtain ⟨g,I,E,B,F,e,y0,X,Y,y3,D,v⟩:=(h.below hb).item Q;have T : xs[k].1 ∈ ds:=by rw [<- hds];exact List.mem_map_of_mem (List.getElem_mem Q)
  have hc : cD xs[k].1 = xs[k].1.nm.size + bQ xs[k].1.ty + ed xs[k].1.ex:=rfl;have bs:=D.cost;refine ⟨g,xs[k].1,I,B,E,F,e,⟨y0,X,Y,y3⟩,?_,by omega,fun W' hb'=>?_⟩
  ·rw [List.drop_eq_getElem_cons (by omega)]
   congr 1;simp only [<- hds,List.getElem_map]
  ·unfold dV at v
   simp only [Value.agg.injEq,Array.mk.injEq,List.cons.injEq,true_and,and_true] at v;exact yv W' (D.below hb') (hnum _ T) ((hten.below hb).below hb') v.1 v.2 (by omega) 1000 (by omega)
 have l : Hid (qW e0 ds = if fS ds = true then some (bR ds) else none):=xq ds;obtain ⟨ok,f⟩:=xe (fS ds);obtain ⟨K,o⟩:=xe (pD ds)
 have y : Hid (qW e0 ds = none -> ok = false /\ K = e0):=fun hz=>by
  rw [l.out] at hz
  have : fS ds = false:=by
   cases hb : fS ds with
   | false=>rfl
   | true=>rw [hb] at hz;cases hz
  rw [f,o,this];exact ⟨rfl,by unfold pD;rw [this];rfl⟩
 have G : Hid (∀ x,qW e0 ds = some x -> ok = true /\ K = x):=fun x hz=>by
  rw [l.out] at hz
  have : fS ds = true:=by
   cases hb : fS ds with
   | false=>rw [hb] at hz;cases hz
   | true=>rfl
  rw [this,if_pos rfl] at hz;rw [f,o,this];exact ⟨rfl,by unfold pD;rw [this];exact Option.some.inj hz⟩
 have V : Hid (ds.drop n = []):=by show _ = _;exact List.drop_eq_nil_of_le (by omega)
 rw [<- f,<- o,<- hn];clear h hds hnum hten S hn f o l;obtain ⟨U,r⟩:=xe ((w.alloc (.cells #[.slice a n c] 25)).alloc (.cells #[.int .i64 1000] 56));have j : Hid (Bw w U):=by rw [r];exact eM _ _ _
 have R : Hid (U.rowIs (w.heap.size + 1) 56 1 (fun _=>.int .i64 1000)):=by
  have q:=aK (w.alloc (.cells #[.slice a n c] 25)) (.int .i64 1000) 56;rw [World.size_alloc] at q;rw [r];exact q
 go_enter Tryz.func10,Tryz.ntmps10;go_wp2;rw [<- r];clear r
 go_loopw [14,5] (fun i s wr=>∃ (k : Nat) (b : ByteArray),k <= n /\ i = .int .i64 k /\ s = .string b /\ b.size <= 1000 /\ Hid (qW b (ds.drop k) = qW e0 ds) /\ Hid (Bw U wr)) (fun i _ _=>n - (intOf i).toNat)
 case atStart=>exact ⟨0,e0,Nat.zero_le _,rfl,rfl,by decide,rfl,Below.refl _ _⟩
 case round=>
  obtain ⟨k,b,hk,rfl,rfl,a6,u,O⟩:=hrel;have p0 : wr.cell? ⟨w.heap.size + 1,0,none⟩ = some (.int .i64 1000):=(R.out.of_block (O.out.block _ R.out.lt)).cell (i:=0) (by omega);have P : Hid (Bw w wr):=j.out.trans (O.out.mono j.out.size);by_cases ah : k < n
  ·obtain ⟨g,d,I,B,E,F,N,⟨y0,X,Y,y3⟩,M,bf,C0⟩:=a4.out wr P.out k ah
   have C1:=C0 (wr.alloc (.cells #[.int .i64 d.kind,.string d.nm,.slice I d.ty.length E,.slice B d.ex.length F] 37)) (bel1 _ _);have H : Hid (ds.drop k = d :: ds.drop (k + 1)):=M;have a0 : (k : Int) < (n : Int):=by omega
   have bn : (0 : Int) <= (k : Int):=by omega
   rw [N];clear C0 N M;have p1 : (wr.alloc (.cells #[.int .i64 d.kind,.string d.nm,.slice I d.ty.length E,.slice B d.ex.length F] 37)).cell? ⟨w.heap.size + 1,0,none⟩ = some (.int .i64 1000):=((bel1 wr _).cell (p:=⟨w.heap.size + 1,0,none⟩) (blt p0)).trans p0;go_wp2_with fail;refine C1.mono ?_;rintro e w2 ⟨⟨t,rfl,ht⟩,B2⟩;have J : Hid (Bw U w2):=(O.out.alloc O.out.size _).trans (B2.mono (Nat.le_trans O.out.size (by simp)));clear C1 B2 p1 y0 X Y y3
   cases f : sI 1000 d with
   | false=>
     have A : Hid (ok = false /\ K = e0):=y.out (by
      rw [<- u.out,H.out,qW,if_neg];intro z;rw [f] at z;cases z.1)
     clear ht f;go_wp2;go_ret2;exact ⟨by rw [A.out.1,A.out.2];rfl,j.out.trans (J.out.mono j.out.size)⟩
   | true=>
     have L:=ht f;have m : Hid (t = uk 1000 d /\ sI 1000 d = true):=⟨L,f⟩;clear ht L f;by_cases C : b.size + t.size <= 1000
     ·have a1 : IntKind.i64.wrap ((b.size : Int) + (t.size : Int)) = (b.size : Int) + (t.size : Int):=wk (by omega)
      have a2 : ¬ (1000 : Int) < (b.size : Int) + (t.size : Int):=by omega
      have c1:=rsa b t (by omega)
      have ao : Hid (qW (b ++ t) (ds.drop (k + 1)) = qW e0 ds):=by
       show _ = _;rw [<- u.out,H.out,qW,if_pos ⟨m.out.2,by rw [<- m.out.1];exact C⟩,m.out.1]
      go_wp2
      go_roundw
      case rel=>exact ⟨k + 1,b ++ t,by omega,by go_num,rfl,by rw [bsa];exact C,ao,J⟩
      case measure=>simp [intOf];omega
     ·have a1 : IntKind.i64.wrap ((b.size : Int) + (t.size : Int)) = (b.size : Int) + (t.size : Int):=by
       have h1:=zz 1000 d;rw [<- m.out.1] at h1;rw [IntKind.wrap_i64];omega
      have a2 : (1000 : Int) < (b.size : Int) + (t.size : Int):=by omega
      have A : Hid (ok = false /\ K = e0):=y.out (by
       rw [<- u.out,H.out,qW,if_neg];intro z;rw [<- m.out.1] at z;exact C z.2)
      go_wp2;go_ret2;exact ⟨by rw [A.out.1,A.out.2];rfl,j.out.trans (J.out.mono j.out.size)⟩
  ·have Z : k = n:=by omega
   subst Z;have a0 : ¬ (k : Int) < (k : Int):=by omega
   have A : Hid (ok = true /\ K = b):=G.out b (by rw [<- u.out,V.out];rfl);go_wp2;go_ret2;exact ⟨by rw [A.out.1,A.out.2];rfl,P.out⟩
theorem yc (w : World) {a : Option Addr} {c : Nat} {xs : List (DC × DPl)} (h : fV w (.slice a xs.length c) xs) {ds : List DC} (hds : xs.map Prod.fst = ds) (hnum : ∀ d,d ∈ ds -> ∀ e,e ∈ d.ex -> fG e.num) (hten : sq w) :
  Calls Tryz.prog 5 #[.agg #[.slice a xs.length c]] w fun e w'=>e = .returned (.string (pD ds)) /\ Bw w w':=by
 have C:=te (w.alloc (.cells #[.slice a xs.length c] 25)) (h.below (bel1 _ _)) hds hnum (hten.below (bel1 _ _));obtain ⟨n,f⟩:=xe (xs.length);rw [<- f] at C ⊢;clear h hds hnum hten f;go_enter Tryz.func5,Tryz.ntmps5;go_wp2_with fail;refine C.mono ?_;rintro e g ⟨rfl,b⟩;have i : Hid (Bw w g):=(bel1 w _).trans (b.mono (by simp));clear C b;go_wp2;go_ret;exact ⟨rfl,i.out⟩
end Go.Proofs.YtihedobejcaapaaGreatDoor
