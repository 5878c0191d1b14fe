/-
  YeA YeB YeC
-/
import Derived.Test.YtihedobejcaapaaGreatDoorB5
set_option maxHeartbeats 2000000
set_option maxRecDepth 100000
namespace Go.Proofs.YtihedobejcaapaaGreatDoor
open Go.RowKit
theorem gL {s : ByteArray} (h : ¬ s.size = 0) : s.toList.isEmpty = false:=by
 have e : s.toList = s.data.toList:=Go.ByteArray.toList_eq s;rw [e]
 cases hz : s.data.toList with
 | nil=>
   exfalso;apply h;show s.data.size = 0;rw [<- Array.length_toList,hz];rfl
 | cons x l=>rfl
theorem ko (w : World) (md nm : ByteArray) (hm : md.size <= 1048576) (hn : nm.size <= 1048576) :
  Calls Tryz.prog 72 #[.string md,.string nm] w fun e w'=>e = .returned (.bool (aI md nm)) /\ w' = w:=by
 have d : Hid (Calls Tryz.prog 43 #[.string nm] w fun e w'=>e = .returned (.bool (gn nm)) /\ w' = w):=tG nm w (by omega);have f : Hid (Calls Tryz.prog 43 #[.string md] w fun e w'=>e = .returned (.bool (gn md)) /\ w' = w):=tG md w (by omega);obtain ⟨b,a⟩:=xe (aI md nm);rw [<- a];unfold aI at a
 cases h1 : gn nm with
 | false=>
   rw [h1,Bool.false_and] at a;subst a;rw [h1] at d;clear h1 f;go_enter Tryz.func72,Tryz.ntmps72;go_wp2_with (first | (go_at_call 43;refine d.out.mono ?_;rintro e g ⟨rfl,rfl⟩));go_ret;exact ⟨rfl,rfl⟩
 | true=>
   rw [h1,Bool.true_and] at a;rw [h1] at d;clear h1;by_cases c : md.size = 0
   ·rw [decide_eq_true c,Bool.true_or] at a
    subst a;have h : md = ByteArray.empty:=bJ c;subst h;clear c f;go_enter Tryz.func72,Tryz.ntmps72;go_wp2_with (first | (go_at_call 43;refine d.out.mono ?_;rintro e g ⟨rfl,rfl⟩));go_ret;exact ⟨rfl,rfl⟩
   ·rw [decide_eq_false c,Bool.false_or] at a
    rw [<- a] at f;have h : md.toList.isEmpty = false:=gL c;clear a c;cases b <;>
    ·go_enter Tryz.func72,Tryz.ntmps72
     go_wp2_with fail;refine d.out.mono ?_;rintro e g ⟨rfl,rfl⟩;go_wp2_with fail;refine f.out.mono ?_;rintro e g ⟨rfl,rfl⟩;go_wp2;go_ret;exact ⟨rfl,rfl⟩
theorem ip (w : World) (md nm : ByteArray) (hm : md.size <= 1048576) (hn : nm.size <= 1048576) :
  Calls Tryz.prog 71 #[.string md,.string nm] w fun e w'=>e = .returned (.string (ia md nm)) /\ w' = w:=by
 have b : Hid (ia md nm = if md.size = 0 then nm else md ++ aQ ++ nm):=by show _ = _;rfl
 obtain ⟨r,f⟩:=xe (ia md nm);rw [<- f] at b ⊢;clear f;go_enter Tryz.func71,Tryz.ntmps71;by_cases a : md.size = 0
 ·have c : Hid (r = nm):=by show _ = _;rw [b.out,if_pos a]
  have g : md = ByteArray.empty:=bJ a;subst g;clear b a;go_wp2;go_ret;exact ⟨by rw [c.out];rfl,rfl⟩
 ·have c : Hid (r = md ++ (⟨#[58]⟩ : ByteArray) ++ nm):=by show _ = _;rw [b.out,if_neg a];rfl
  have g : md.toList.isEmpty = false:=gL a;have d : (⟨#[58]⟩ : ByteArray).size = 1:=rfl;have h:=rsa md (⟨#[58]⟩ : ByteArray) (by rw [d];omega);have i:=rsa (md ++ (⟨#[58]⟩ : ByteArray)) nm (by rw [bsa,d];omega);clear b a;go_wp2;go_ret;exact ⟨by rw [c.out];rfl,rfl⟩
theorem lh (w : World) (n : Int) :
  Calls Tryz.prog 76 #[.int .i64 n] w fun e w'=>e = .returned (.string (if n = 0 then cg else d9)) /\ w' = w:=by
 go_enter Tryz.func76,Tryz.ntmps76;by_cases a : n = 0
 ·rw [if_pos a]
  subst a;go_wp2;go_ret;exact ⟨rfl,rfl⟩
 ·rw [if_neg a]
  go_wp2;go_ret;exact ⟨rfl,rfl⟩
theorem ai.to_below {S : List Nat} {N : Nat} {w w1 w2 : World} (h : Below N w w1) (hb : ai S w1 w2) (hs : ∀ k,k ∈ S -> N <= k) (hN : N <= w1.heap.size) : Below N w w2:=
 ⟨hb.os.trans h.os,hb.tape.trans h.tape,hb.output.trans h.output,Nat.le_trans h.size hb.size,fun k hk=>(hb.block k (by omega) (fun z=>by have:=hs k z;omega)).trans (h.block k hk)⟩
theorem jO (w : World) {p : NPl} {ns : List ByteArray} (h : lG w p ns) (hl : ns.length <= 1048576) (hs : ∀ k,k < ns.length -> (ns.getD k e0).size <= 1048576) {n : Nat} (hn : n = ns.length) (hc : n <= p.c) :
  Calls Tryz.prog 74 #[.slice p.a n p.c] w fun e w'=>e = .returned (.bool (dN ns)) /\ Bw w w':=by
 have U : Hid (∀ W,Bw w W -> ∀ k,k < n -> p.a = some ⟨p.b,0,none⟩ /\ W.cell? ⟨p.b,k,none⟩ = some (.string (ns.getD k e0)) /\ (ns.getD k e0).size <= 1048576):=fun W A k I=>⟨h.at_ (by omega),(h.below A).cell k (by omega),hs k (by omega)⟩;have S : n <= 1048576:=by omega
 obtain ⟨b,A⟩:=xe (dN ns);have L : Hid (b = (List.range n).all fun i=>gn (ns.getD i e0) && !bC (ns.take i) (ns.getD i e0)):=by show _ = _;rw [A,hn];rfl
 have M : Hid (∀ k,k < n -> ns.take (k + 1) = ns.take k ++ [ns.getD k e0] /\ (ns.take k).length <= 1048576):=fun k I=>by
  rw [List.take_add_one,List.getElem?_eq_getElem (by omega),List.getD_eq_getElem?_getD,List.getElem?_eq_getElem (by omega),List.length_take];exact ⟨rfl,by omega⟩
 have E : Hid (∀ (W : World) (v : Value) (k : Nat),k < n -> fH W (w.heap.size + 1) w.heap.size v ((ns.take k).map fun s=>s.data.toList) -> (ns.getD k e0).size <= 1048576 -> Bw w W -> Calls Tryz.prog 92 #[.pointer (some ⟨w.heap.size + 1,0,none⟩),.string (ns.getD k e0)] W fun e w'=>∃ (x : Int) (q : Value),e = .returned (.tuple #[.int .i64 x,.bool (!bC (ns.take k) (ns.getD k e0))]) /\ (bC (ns.take k) (ns.getD k e0) = false -> Hid (fH w' (w.heap.size + 1) w.heap.size q ((ns.take (k + 1)).map fun s=>s.data.toList))) /\ Hid (Bw w w')):=fun W v k I K sz hW=>by
  have t:=M.out k I
  have C:=jr (w.heap.size + 1) w.heap.size v ((ns.take k).map fun s=>s.data.toList) (ns.getD k e0).data.toList W K (by
   rw [Array.length_toList];show (ns.getD k e0).size <= _;exact Nat.le_trans sz (by decide)) (by rw [List.length_map];omega)
  have e1 : (⟨(ns.getD k e0).data.toList.toArray⟩ : ByteArray) = ns.getD k e0:=by rw [Array.toArray_toList]
  rw [e1,bZ] at C;refine C.mono ?_;rintro e w' ⟨x,q,T,J,X,h4⟩;refine ⟨x,q,T,fun hf=>?_,?_⟩
  ·show fH _ _ _ _ _
   unfold iA at J;rw [bZ,hf] at J;rw [t.1,List.map_append];exact J
  ·refine X.to_below hW (fun j f=>?_) hW.size
   rcases List.mem_cons.1 f with e | f
   ·omega
   rcases List.mem_cons.1 f with e | f
   ·omega
   have:=(K.ids.2.2 j (by simpa using f)).1;omega
 have B : Hid (Calls Tryz.prog 91 #[] w fun e w'=>e = .returned (.pointer (some ⟨w.heap.size + 1,0,none⟩)) /\ Hid (fH w' (w.heap.size + 1) w.heap.size (.slice none 0 0) []) /\ Hid (Bw w w')):=(qi w).mono fun e w' h=>⟨h.1,h.2.1,h.2.2.to_below (Below.refl _ _) (by simp) (nlr _)⟩;have HG : Hid (∀ (W : World) (x : ByteArray),x.size <= 1048576 -> Calls Tryz.prog 43 #[.string x] W fun e w'=>e = .returned (.bool (gn x)) /\ w' = W):=fun W x m=>tG x W (by omega);rw [<- A];clear h hs hn A hl;go_enter Tryz.func74,Tryz.ntmps74;go_wp2_with fail;refine B.out.mono ?_;rintro e w1 ⟨rfl,o,y⟩;clear B;go_wp2
 go_loopw [11] (fun i wr=>∃ (k : Nat) (v : Value),k <= n /\ i = .int .i64 k /\ Hid (fH wr (w.heap.size + 1) w.heap.size v ((ns.take k).map fun s=>s.data.toList)) /\ Hid (∀ j,j < k -> (gn (ns.getD j e0) && !bC (ns.take j) (ns.getD j e0)) = true) /\ Hid (Bw w wr)) (fun i _=>n - (intOf i).toNat)
 case atStart=>exact ⟨0,_,Nat.zero_le _,rfl,o,fun j f=>absurd f (Nat.not_lt_zero _),y⟩
 case round=>
  clear o y;obtain ⟨k,v,I,rfl,o,Q,y⟩:=hrel;by_cases l : k < n
  ·obtain ⟨H,Z,O⟩:=U.out wr y.out k l
   have g:=E.out wr v k l o.out O y.out;obtain ⟨x,m⟩:=xe (ns.getD k e0);rw [<- m] at Z O g;rw [H];have an : (k : Int) < (n : Int):=by omega
   have Y : (0 : Int) <= (k : Int):=by omega
   cases ht : bC (ns.take k) x with
   | true=>
     have u : Hid (false = b):=by show _ = _;rw [L.out,iP k l (by rw [<- m,ht];simp)]
     rw [ht] at g;clear m H E o;go_wp2_with fail;refine g.mono ?_;rintro e F ⟨R,r,rfl,-,d⟩;clear g;go_wp2;go_ret;exact ⟨by rw [<- u.out];rfl,d.out⟩
   | false=>
     rw [ht] at g;have G:=fun W=>HG.out W x O
     cases hg : gn x with
     | false=>
       have u : Hid (false = b):=by show _ = _;rw [L.out,iP k l (by rw [<- m,hg];rfl)]
       rw [hg] at G;clear m H E o;go_wp2_with fail;refine g.mono ?_;rintro e F ⟨R,r,rfl,-,d⟩;have z:=G F;clear g G;go_wp2_with fail;refine z.mono ?_;rintro e V ⟨rfl,rfl⟩;clear z;go_wp2;go_ret;exact ⟨by rw [<- u.out];rfl,d.out⟩
     | true=>
       have u : Hid ((gn (ns.getD k e0) && !bC (ns.take k) (ns.getD k e0)) = true):=by show _ = _;rw [<- m,hg,ht];rfl
       rw [hg] at G;clear m H E o;go_wp2_with fail;refine g.mono ?_;rintro e F ⟨R,r,rfl,D,d⟩;have P:=D trivial;have z:=G F;clear g G D;go_wp2_with fail;refine z.mono ?_;rintro e V ⟨rfl,rfl⟩;clear z;go_wp2
       go_roundw
       case rel=>
        refine ⟨k + 1,r,by omega,by go_num,P,fun j f=>?_,d⟩;by_cases e : j = k
        ·rw [e];exact u.out
        ·exact Q.out j (by omega)
       case measure=>simp [intOf];omega
  ·have N : k = n:=by omega
   subst N;have u : Hid (true = b):=by show _ = _;rw [L.out];exact (List.all_eq_true.2 fun j f=>Q.out j (List.mem_range.1 f)).symm
   go_wp2;go_ret;exact ⟨by rw [<- u.out];rfl,y.out⟩
structure tB (w : World) (a : Option Addr) (g o : Nat) (ps : List Wh) : Prop where
 at_ : 0 < ps.length -> a = some ⟨g,o,none⟩
 txt : ∀ k (h : k < ps.length),w.cell? ⟨g,o + k * 2,none⟩ = some (.string ps[k].1)
 lev : ∀ k (h : k < ps.length),w.cell? ⟨g,o + k * 2 + 1,none⟩ = some (.int .i64 (ps[k].2 : Int))
theorem tB.below {w w' : World} {a : Option Addr} {g o : Nat} {ps : List Wh} (h : tB w a g o ps) (hb : Bw w w') : tB w' a g o ps:=
 ⟨h.at_,fun k hk=>(hb.cell (p:=⟨g,o + k * 2,none⟩) (blt (h.txt k hk))).trans (h.txt k hk),fun k hk=>(hb.cell (p:=⟨g,o + k * 2 + 1,none⟩) (blt (h.lev k hk))).trans (h.lev k hk)⟩
theorem wu {ps : List Wh} {k : Nat} (hk : k < ps.length) : szW (ps.take (k + 1)) = szW (ps.take k) + ps[k].1.size:=by
 rw [List.take_add_one,List.getElem?_eq_getElem hk,gW];show _ + szW [ps[k]] = _;rw [dQ]
theorem vJ (ps : List Wh) (k : Nat) : szW (ps.take k) <= szW ps:=by have:=dX ps k;omega
theorem oJ (w : World) {a : Option Addr} {g o c : Nat} {ps : List Wh} (h : tB w a g o ps) (hl : ps.length <= 1048576) (hs : szW ps <= 1000000000) {n : Nat} (hn : n = ps.length) (hc : n <= c) :
  Calls Tryz.prog 70 #[.slice a n c] w fun e w'=>e = .returned (.int .i64 (szW ps : Int)) /\ Bw w w':=by
 have C : Hid (∀ W,Bw w W -> tB W a g o ps):=fun W x=>h.below x;have J:=hQx hn;have H : n <= 1048576:=by omega
 have A : Hid (∀ k (q : k < ps.length),szW (ps.take (k + 1)) = szW (ps.take k) + ps[k].1.size /\ szW (ps.take (k + 1)) <= 1000000000):=fun k q=>⟨wu q,Nat.le_trans (vJ ps _) hs⟩;have u : Hid (szW (ps.take n) = szW ps):=by show _ = _;rw [hn,List.take_length]
 obtain ⟨R,t⟩:=xe (szW ps);rw [<- t] at u ⊢;clear h hl hs hn t;go_enter Tryz.func70,Tryz.ntmps70;go_wp2
 go_loopw [3,8] (fun s i wr=>∃ k m : Nat,k <= n /\ i = .int .i64 k /\ s = .int .i64 m /\ Hid (m = szW (ps.take k)) /\ Hid (Bw w wr)) (fun _ i _=>n - (intOf i).toNat)
 case atStart=>exact ⟨0,0,Nat.zero_le _,rfl,rfl,rfl,Below.refl _ _⟩
 case round=>
  obtain ⟨k,m,q,rfl,rfl,y,d⟩:=hrel;by_cases F : k < n
  ·have b : k < ps.length:=by have:=J.out;omega
   have f:=C.out wr d.out;have r:=f.at_ (by omega);have E:=f.txt k b;have B:=f.lev k b;obtain ⟨j,G⟩:=A.out k b;rw [<- y.out] at j;obtain ⟨X,v⟩:=xe (ps[k]);rw [<- v] at E B j;have l : Hid (m + X.1.size = szW (ps.take (k + 1))):=j.symm;have x : m + X.1.size <= 1000000000:=by omega
   have I : (k : Int) < (n : Int):=by omega
   have D : (0 : Int) <= (k : Int):=by omega
   have K : IntKind.i64.wrap ((m : Int) + (X.1.size : Int)) = (m : Int) + (X.1.size : Int):=wk (by omega);rw [r];clear f r v j G;go_wp2
   go_roundw
   case rel=>exact ⟨k + 1,m + X.1.size,by omega,by go_num,by congr 1,l,d.out.alloc d.out.size _⟩
   case measure=>simp [intOf];omega
  ·have p : k = n:=by omega
   subst p;have z : Hid (m = R):=by show _ = _;rw [y.out,u.out]
   go_wp2;go_ret;exact ⟨by rw [<- z.out];rfl,d.out⟩
end Go.Proofs.YtihedobejcaapaaGreatDoor
