/-
  VbA VbB VbC
-/
import Derived.Test.YtihedobejcaapaaGreatDoorAD
import Derived.Test.YtihedobejcaapaaGreatDoorB1
import Derived.Test.YtihedobejcaapaaGreatDoorA1
set_option maxHeartbeats 4000000
set_option maxRecDepth 100000
namespace Go.Proofs.YtihedobejcaapaaGreatDoor
open Go.RowKit
theorem gw {P : Program} {f : FuncId} {args : Array Value} {W : World} {m n : Nat} {v : Value}
  (h : Calls P f args (W.drewN (m + n)) fun e w'=>e = .returned v /\ ∃ k,w' = (W.drewN (m + n)).drewN k) : Calls P f args (W.drewN (m + n)) fun e w''=>e = .returned v /\ ∃ n',w'' = W.drewN (m + n'):=
 h.mono fun _ _ ⟨he,k,hk⟩=>⟨he,n + k,by rw [hk,World.drewN_drewN,Nat.add_assoc]⟩
structure lG (w : World) (p : NPl) (ns : List ByteArray) : Prop where
 at_ : 0 < ns.length -> p.a = some ⟨p.b,0,none⟩
 cell : ∀ k,k < ns.length -> w.cell? ⟨p.b,k,none⟩ = some (.string (ns.getD k e0))
theorem aD.nsa {B : Nat} {w : World} {ns : List ByteArray} {p : NPl} (h : aD B w ns p) : lG w p ns:=
 ⟨fun z=>(h (List.length_pos_iff.1 z)).1,fun k hk=>by
  obtain ⟨_,_,N,f,r,hl,hf⟩:=h (List.length_pos_iff.1 (by omega));rw [r.cell (by omega),hf k hk]⟩
theorem lG.below {w w' : World} {p : NPl} {ns : List ByteArray} (h : lG w p ns) (hb : Bw w w') : lG w' p ns:=
 ⟨h.at_,fun k hk=>(hb.cell (p:=⟨p.b,k,none⟩) (blt (h.cell k hk))).trans (h.cell k hk)⟩
theorem sG {ns : List ByteArray} {n : Nat} {s : ByteArray} (hn : n <= ns.length) : bC (ns.take n) s = (List.range n).any fun j=>(ns.getD j e0).toList == s.toList:=by
 rw [Bool.eq_iff_iff];unfold bC;rw [List.any_eq_true,List.any_eq_true]
 constructor
 ·rintro ⟨x,d,a⟩
  obtain ⟨j,b,rfl⟩:=List.mem_iff_getElem.1 d;rw [List.length_take] at b;refine ⟨j,List.mem_range.2 (by omega),?_⟩;rw [List.getElem_take] at a;rw [List.getD_eq_getElem?_getD,List.getElem?_eq_getElem (by omega),Option.getD_some,ByteArray.toList_eq,ByteArray.toList_eq];exact a
 ·rintro ⟨j,b,a⟩
  have c:=List.mem_range.1 b;rw [List.getD_eq_getElem?_getD,List.getElem?_eq_getElem (by omega),Option.getD_some,ByteArray.toList_eq,ByteArray.toList_eq] at a;exact ⟨ns[j],List.mem_iff_getElem.2 ⟨j,by rw [List.length_take];omega,by rw [List.getElem_take]⟩,a⟩
theorem jW (w : World) {p : NPl} {ns : List ByteArray} (h : lG w p ns) {va : Option Addr} {n c : Nat} (hn : n <= ns.length) (hva : 0 < n -> va = some ⟨p.b,0,none⟩) (hl : n <= 2000000) (s : ByteArray) :
  Calls Tryz.prog 36 #[.slice va n c,.string s] w fun e w'=>e = .returned (.bool (bC (ns.take n) s)) /\ w' = w:=by
 have l : Hid (bC (ns.take n) s = (List.range n).any fun j=>(ns.getD j e0).toList == s.toList):=sG hn;have q : Hid (∀ k,k < n -> va = some ⟨p.b,0,none⟩ /\ w.cell? ⟨p.b,k,none⟩ = some (.string (ns.getD k e0))):=fun k u=>⟨hva (by omega),h.cell k (by omega)⟩;obtain ⟨b,o⟩:=xe (bC (ns.take n) s);rw [<- o] at l ⊢;clear h hn hva o;go_enter Tryz.func36,Tryz.ntmps36;go_wp2
 go_loopw [5] (fun i wr=>∃ k : Nat,k <= n /\ i = .int .i64 k /\ w = wr /\ Hid (∀ j,j < k -> ((ns.getD j e0).toList == s.toList) = false)) (fun i _=>n - (intOf i).toNat)
 case atStart=>exact ⟨0,Nat.zero_le _,rfl,rfl,fun j hj=>absurd hj (Nat.not_lt_zero _)⟩
 case round=>
  obtain ⟨k,u,rfl,rfl,m⟩:=hrel;by_cases f : k < n
  ·obtain ⟨rfl,t⟩:=q.out k f
   obtain ⟨x,a⟩:=xe (ns.getD k e0);rw [<- a] at t;cases r : (x.toList == s.toList)
   ·have d : Hid (((ns.getD k e0).toList == s.toList) = false):=by show _ = _;rw [<- a];exact r
    clear a;go_wp2;refine ⟨⟨k + 1,by omega,by go_num,trivial,fun j hjk=>?_⟩,by simp [intOf];omega⟩;by_cases e : j = k
    ·subst e;exact d.out
    ·exact m.out j (by omega)
   ·have d : Hid (true = b):=by
     show _ = _;rw [l.out];exact (List.any_eq_true.2 ⟨k,List.mem_range.2 f,by rw [<- a];exact r⟩).symm
    clear a;go_wp2;go_ret;exact ⟨by rw [<- d.out];rfl,rfl⟩
  ·have g : k = n:=by omega
   subst g
   have d : Hid (false = b):=by
    show _ = _;rw [l.out];refine (List.any_eq_false.2 fun j hj=>?_).symm;rw [m.out j (List.mem_range.1 hj)];exact Bool.false_ne_true
   go_wp2;go_ret;exact ⟨by rw [<- d.out];rfl,rfl⟩
theorem iP {n : Nat} {f : Nat -> Bool} (k : Nat) (hk : k < n) (h : f k = false) : (List.range n).all f = false:=List.all_eq_false.2 ⟨k,List.mem_range.2 hk,by rw [h];exact Bool.false_ne_true⟩
theorem l9 (w : World) {p : NPl} {ns : List ByteArray} (h : lG w p ns) (hl : ns.length <= 1048576) (hs : ∀ k,k < ns.length -> (ns.getD k e0).size <= 1048576) {n : Nat} (hn : n = ns.length) (hc : n <= p.c) :
  Calls Tryz.prog 78 #[.slice p.a n p.c] w fun e w'=>e = .returned (.bool (dN ns)) /\ ∃ k,w' = w.drewN k:=by
 have A : Hid (∀ k,k < n -> p.a = some ⟨p.b,0,none⟩ /\ w.cell? ⟨p.b,k,none⟩ = some (.string (ns.getD k e0)) /\ (ns.getD k e0).size <= 9223372036854775807):=fun k v=>⟨h.at_ (by omega),h.cell k (by omega),by have:=hs k (by omega);omega⟩
 have B : Hid (∀ (W : World) (k m : Nat) (s : ByteArray),(∃ j,W = w.drewN j) -> k < n -> Calls Tryz.prog 36 #[.slice (some ⟨p.b,0,none⟩) k m,.string s] W fun e w'=>e = .returned (.bool (bC (ns.take k) s)) /\ w' = W):=fun W k m s hW v=>by
  obtain ⟨j,rfl⟩:=hW;exact jW (w.drewN j) (h.below (bh _ _)) (by omega) (fun _=>rfl) (by omega) s
 have y : n <= 1048576:=by omega
 have D:=hQx hn;obtain ⟨b,q⟩:=xe (dN ns);have o : Hid (b = (List.range n).all fun i=>gn (ns.getD i e0) && !bC (ns.take i) (ns.getD i e0)):=by show _ = _;rw [q,hn];rfl
 rw [<- q];clear h hs hn q hl;go_enter Tryz.func78,Tryz.ntmps78;go_wp2
 go_loopw [3] (fun i wr=>∃ k : Nat,k <= n /\ i = .int .i64 k /\ (∃ m,wr = w.drewN m) /\ Hid (∀ j,j < k -> (gn (ns.getD j e0) && !bC (ns.take j) (ns.getD j e0)) = true)) (fun i _=>n - (intOf i).toNat)
 case atStart=>exact ⟨0,Nat.zero_le _,rfl,⟨0,rfl⟩,fun j hj=>absurd hj (Nat.not_lt_zero _)⟩
 case round=>
  obtain ⟨k,v,rfl,⟨m,rfl⟩,t⟩:=hrel;by_cases d : k < n
  ·obtain ⟨l,z,u⟩:=A.out k d
   obtain ⟨x,f⟩:=xe (ns.getD k e0);rw [<- f] at z u;rw [l];have C : k <= p.c:=by omega
   have G : Hid (∀ j,Calls Tryz.prog 23 #[.string x] (w.drewN j) fun e w'=>e = .returned (.bool (gn x)) /\ ∃ i,w' = (w.drewN j).drewN i):=fun j=>(Bl x (w.drewN j) u).mono fun e w' h=>⟨h.1,0,h.2⟩;have T : Hid (∀ j mm,Calls Tryz.prog 36 #[.slice (some ⟨p.b,0,none⟩) k mm,.string x] (w.drewN j) fun e w'=>e = .returned (.bool (bC (ns.take k) x)) /\ ∃ i,w' = (w.drewN j).drewN i):=fun j mm=>(B.out (w.drewN j) k mm x ⟨j,rfl⟩ d).mono fun e w' h=>⟨h.1,0,h.2⟩;cases hg : gn x
   ·have g : Hid (false = b):=by show _ = _;rw [o.out,iP k d (by rw [<- f,hg];rfl)]
    rw [hg] at G;clear f l;go_wp2;go_quiet (first | (go_at_call 23;first | (exact Calls.quiet_of (G.out _)) | (exact gw (G.out _))));go_wp2;go_ret;exact ⟨by rw [<- g.out];rfl,_,by first | rfl | exact World.drewN_drewN ..⟩
   ·rw [hg] at G
    cases ht : bC (ns.take k) x
    ·have g : Hid ((gn (ns.getD k e0) && !bC (ns.take k) (ns.getD k e0)) = true):=by show _ = _;rw [<- f,hg,ht];rfl
     rw [ht] at T;clear f l;go_wp2;go_quiet (first | (go_at_call 23;first | (exact Calls.quiet_of (G.out _)) | (exact gw (G.out _))) | (go_at_call 36;first | (exact Calls.quiet_of (T.out _ _)) | (exact gw (T.out _ _))));go_wp2
     go_roundw
     case rel=>exact ⟨k + 1,by omega,by go_num,⟨_,rfl⟩,fun j hj=>by
      by_cases e : j = k
      ·rw [e];exact g.out
      ·exact t.out j (by omega)⟩
     case measure=>simp [intOf];omega
    ·have g : Hid (false = b):=by show _ = _;rw [o.out,iP k d (by rw [<- f,hg,ht];rfl)]
     rw [ht] at T;clear f l;go_wp2;go_quiet (first | (go_at_call 23;first | (exact Calls.quiet_of (G.out _)) | (exact gw (G.out _))) | (go_at_call 36;first | (exact Calls.quiet_of (T.out _ _)) | (exact gw (T.out _ _))));go_wp2;go_ret;exact ⟨by rw [<- g.out];rfl,_,by first | rfl | exact World.drewN_drewN ..⟩
  ·have r : k = n:=by omega
   subst r
   have g : Hid (true = b):=by
    show _ = _;rw [o.out];exact (List.all_eq_true.2 fun j hj=>t.out j (List.mem_range.1 hj)).symm
   go_wp2;go_ret;exact ⟨by rw [<- g.out];rfl,_,rfl⟩
theorem bJ {s : ByteArray} (h : s.size = 0) : s = ByteArray.empty:=by
 apply ByteArray.ext;exact Array.eq_empty_of_size_eq_zero h
theorem fZ {s : ByteArray} (h : ¬ s.size = 0) : ¬ s = ByteArray.empty:=fun e=>h (by rw [e];rfl)
def dJ (o : Option Fm) : Int:=match o with
 | none=>-1
 | some f=>(f.needs.length : Int)
structure yT (w : World) (t : TI) (p : NPl) : Prop where
 ns : lG w p t.ns
 len : t.ns.length <= 1048576
 sz : ∀ k,k < t.ns.length -> (t.ns.getD k e0).size <= 1048576
 cap : t.ns.length <= p.c
 md : t.md.size <= 1048576
 nm : t.nm.size <= 1048576
theorem yT.below {w w' : World} {t : TI} {p : NPl} (h : yT w t p) (hb : Bw w w') : yT w' t p:=⟨h.ns.below hb,h.len,h.sz,h.cap,h.md,h.nm⟩
def Cn (t : TI) (p : NPl) : Value:=.agg #[.int .i64 t.op,.string t.md,.string t.nm,.slice p.a t.ns.length p.c]
theorem vi (w : World) {t : TI} {p : NPl} (h : yT w t p) :
  Calls Tryz.prog 50 #[Cn t p] w fun e w'=>e = .returned (.int .i64 (dJ (fT t))) /\ Bw w w':=by
 have R : Hid (∀ W,Bw w W -> Calls Tryz.prog 78 #[.slice p.a t.ns.length p.c] W fun e w'=>e = .returned (.bool (dN t.ns)) /\ ∃ k,w' = W.drewN k):=fun W hb=>l9 W (h.ns.below hb) h.len h.sz rfl h.cap;have HD:=hQx h;unfold Cn;obtain ⟨j,F⟩:=xe (t.op);obtain ⟨m,B⟩:=xe (t.md);obtain ⟨u,y⟩:=xe (t.nm);obtain ⟨n,M⟩:=xe (t.ns.length);have q : Hid (t.op = j /\ t.md = m /\ t.nm = u /\ t.ns.length = n):=⟨F.symm,B.symm,y.symm,M.symm⟩;have zm : m.size <= 9223372036854775807:=by have:=h.md;rw [B];omega
 have T : u.size <= 9223372036854775807:=by have:=h.nm;rw [y];omega
 have zl : n <= 1048576:=by have:=h.len;omega
 rw [<- F,<- B,<- y,<- M];rw [<- M] at R;obtain ⟨r,P⟩:=xe (dJ (fT t));have s : Hid (dJ (fT t) = r):=P.symm;rw [<- P];have K : Hid (∀ W,Calls Tryz.prog 23 #[.string u] W fun e w'=>e = .returned (.bool (gn u)) /\ w' = W):=fun W=>Bl u W T;have J : Hid (∀ W,Calls Tryz.prog 23 #[.string m] W fun e w'=>e = .returned (.bool (gn m)) /\ w' = W):=fun W=>Bl m W zm;clear h F B y M P;go_enter Tryz.func50,Tryz.ntmps50;by_cases d : j = 4
 ·have Z : (j == 4) = true:=beq_iff_eq.2 d
  cases hg : gn u
  case false=>
   have A:=K;rw [hg] at A
   have g : Hid (r = -1):=by
    show _ = _;obtain ⟨i,v2,v3,v4⟩:=q.out;rw [<- s.out];unfold fT;rw [i,v2,v3,v4];rw [if_pos d];unfold aI;rw [hg];rfl
   clear d;go_wp2_with (first | (go_at_call 23;(with_reducible refine (A.out _).mono ?_);rintro e w' ⟨rfl,rfl⟩));go_ret;exact ⟨by rw [g.out];rfl,by first | exact bel1 _ _ | exact below_drewN (bel1 _ _) _⟩
  case true=>
   have A:=K;rw [hg] at A;by_cases f : m.size = 0
   case pos=>
    have N : ¬ (0 : Int) < (m.size : Int):=by omega
    have L : m = ByteArray.empty:=bJ f;have E : ¬ 0 < m.size:=by omega
    by_cases b : n = 0
    case pos=>
     have g : Hid (r = 0):=by
      show _ = _;obtain ⟨i,v2,v3,v4⟩:=q.out;rw [<- s.out];unfold fT;rw [i,v2,v3,v4];rw [if_pos d];unfold aI;rw [hg,f,b];rfl
     have I : ¬ (0 : Int) < (n : Int):=by omega
     clear d f b;go_wp2_with (first | (go_at_call 23;(with_reducible refine (A.out _).mono ?_);rintro e w' ⟨rfl,rfl⟩));go_ret;exact ⟨by rw [g.out];rfl,by first | exact bel1 _ _ | exact below_drewN (bel1 _ _) _⟩
    case neg=>
     have g : Hid (r = -1):=by
      show _ = _;obtain ⟨i,v2,v3,v4⟩:=q.out;rw [<- s.out];unfold fT;rw [i,v2,v3,v4];rw [if_pos d];unfold aI;rw [hg,f,if_neg (by simp [b])];rfl
     have I : (0 : Int) < (n : Int):=by omega
     clear d f b;go_wp2_with (first | (go_at_call 23;(with_reducible refine (A.out _).mono ?_);rintro e w' ⟨rfl,rfl⟩));go_ret;exact ⟨by rw [g.out];rfl,by first | exact bel1 _ _ | exact below_drewN (bel1 _ _) _⟩
   case neg=>
    have N : (0 : Int) < (m.size : Int):=by omega
    have L : ¬ m = ByteArray.empty:=fZ f;have E : 0 < m.size:=by omega
    cases hm : gn m
    case false=>
     have G:=J;rw [hm] at G
     have g : Hid (r = -1):=by
      show _ = _;obtain ⟨i,v2,v3,v4⟩:=q.out;rw [<- s.out];unfold fT;rw [i,v2,v3,v4];rw [if_pos d];unfold aI;rw [hg,hm,decide_eq_false f];rfl
     clear d f;go_wp2_with (first | (go_at_call 23;(with_reducible refine (A.out _).mono ?_);rintro e w' ⟨rfl,rfl⟩) | (go_at_call 23;(with_reducible refine (G.out _).mono ?_);rintro e w' ⟨rfl,rfl⟩));go_ret;exact ⟨by rw [g.out];rfl,by first | exact bel1 _ _ | exact below_drewN (bel1 _ _) _⟩
    case true=>
     have G:=J;rw [hm] at G;by_cases b : n = 0
     case pos=>
      have g : Hid (r = 0):=by
       show _ = _;obtain ⟨i,v2,v3,v4⟩:=q.out;rw [<- s.out];unfold fT;rw [i,v2,v3,v4];rw [if_pos d];unfold aI;rw [hg,hm,decide_eq_false f,b];rfl
      have I : ¬ (0 : Int) < (n : Int):=by omega
      clear d f b;go_wp2_with (first | (go_at_call 23;(with_reducible refine (A.out _).mono ?_);rintro e w' ⟨rfl,rfl⟩) | (go_at_call 23;(with_reducible refine (G.out _).mono ?_);rintro e w' ⟨rfl,rfl⟩));go_ret;exact ⟨by rw [g.out];rfl,by first | exact bel1 _ _ | exact below_drewN (bel1 _ _) _⟩
     case neg=>
      have g : Hid (r = -1):=by
       show _ = _;obtain ⟨i,v2,v3,v4⟩:=q.out;rw [<- s.out];unfold fT;rw [i,v2,v3,v4];rw [if_pos d];unfold aI;rw [hg,hm,decide_eq_false f,if_neg (by simp [b])];rfl
      have I : (0 : Int) < (n : Int):=by omega
      clear d f b;go_wp2_with (first | (go_at_call 23;(with_reducible refine (A.out _).mono ?_);rintro e w' ⟨rfl,rfl⟩) | (go_at_call 23;(with_reducible refine (G.out _).mono ?_);rintro e w' ⟨rfl,rfl⟩));go_ret;exact ⟨by rw [g.out];rfl,by first | exact bel1 _ _ | exact below_drewN (bel1 _ _) _⟩
 have Z : (j == 4) = false:=bn2 d;by_cases f : m.size = 0
 case neg=>
  have N : (0 : Int) < (m.size : Int):=by omega
  have L : ¬ m = ByteArray.empty:=fZ f;have E : 0 < m.size:=by omega
  have g : Hid (r = -1):=by
   show _ = _;obtain ⟨i,v2,v3,v4⟩:=q.out;rw [<- s.out];unfold fT;rw [i,v2,v3,v4];rw [if_neg d,if_neg (fun z=>f z.1)];rfl
  clear d f;go_wp2;go_ret;exact ⟨by rw [g.out];rfl,by first | exact bel1 _ _ | exact below_drewN (bel1 _ _) _⟩
 have N : ¬ (0 : Int) < (m.size : Int):=by omega
 have L : m = ByteArray.empty:=bJ f;have E : ¬ 0 < m.size:=by omega
 by_cases l : u.size = 0
 case neg=>
  have V : (0 : Int) < (u.size : Int):=by omega
  have Q : ¬ u = ByteArray.empty:=fZ l;have O : 0 < u.size:=by omega
  have g : Hid (r = -1):=by
   show _ = _;obtain ⟨i,v2,v3,v4⟩:=q.out;rw [<- s.out];unfold fT;rw [i,v2,v3,v4];rw [if_neg d,if_neg (fun z=>l z.2)];rfl
  clear d f l;go_wp2;go_ret;exact ⟨by rw [g.out];rfl,by first | exact bel1 _ _ | exact below_drewN (bel1 _ _) _⟩
 have V : ¬ (0 : Int) < (u.size : Int):=by omega
 have Q : u = ByteArray.empty:=bJ l;have O : ¬ 0 < u.size:=by omega
 by_cases o : j = 5
 ·have Y : (j == 5) = true:=beq_iff_eq.2 o
  subst L;subst Q;have C : Hid (Calls Tryz.prog 78 #[.slice p.a n p.c] (w.alloc (.cells #[.int .i64 j,.string ByteArray.empty,.string ByteArray.empty,.slice p.a n p.c] 80)) fun e w'=>e = .returned (.bool (dN t.ns)) /\ ∃ k,w' = (w.alloc (.cells #[.int .i64 j,.string ByteArray.empty,.string ByteArray.empty,.slice p.a n p.c] 80)).drewN k):=R.out _ (bel1 _ _);cases ho : dN t.ns
  case false=>
   have g : Hid (r = -1):=by
    show _ = _;obtain ⟨i,v2,v3,v4⟩:=q.out;rw [<- s.out];unfold fT;rw [i,v2,v3,v4];rw [if_neg d,if_pos ⟨f,l⟩,if_pos o,ho];rfl
   rw [ho] at C;clear d f l o;go_wp2_with (first | (go_at_call 78;refine C.out.mono ?_;rintro e w' ⟨rfl,k,rfl⟩));go_ret;exact ⟨by rw [g.out];rfl,by first | exact bel1 _ _ | exact below_drewN (bel1 _ _) _⟩
  case true=>
   have g : Hid (r = (n : Int)):=by
    show _ = _;obtain ⟨i,v2,v3,v4⟩:=q.out;rw [<- s.out];unfold fT;rw [i,v2,v3,if_neg d,if_pos ⟨f,l⟩,if_pos o,ho];show ((fF t.ns dz 1).needs.length : Int) = _;rw [(bq _ _ _).2.1,v4]
   rw [ho] at C;clear d f l o;go_wp2_with (first | (go_at_call 78;refine C.out.mono ?_;rintro e w' ⟨rfl,k,rfl⟩));go_ret;exact ⟨by rw [g.out];rfl,by first | exact bel1 _ _ | exact below_drewN (bel1 _ _) _⟩
 have Y : (j == 5) = false:=bn2 o;by_cases b : n = 0
 case neg=>
  have I : (0 : Int) < (n : Int):=by omega
  have g : Hid (r = -1):=by
   show _ = _;obtain ⟨i,v2,v3,v4⟩:=q.out;rw [<- s.out];unfold fT;rw [i,v2,v3,v4];rw [if_neg d,if_pos ⟨f,l⟩,if_neg o,if_neg b];rfl
  clear d f l o b;go_wp2;go_ret;exact ⟨by rw [g.out];rfl,by first | exact bel1 _ _ | exact below_drewN (bel1 _ _) _⟩
 have I : ¬ (0 : Int) < (n : Int):=by omega
 by_cases v : j = 1
 ·have S : (j == 1) = true:=beq_iff_eq.2 v
  have g : Hid (r = 0):=by
   show _ = _;obtain ⟨i,v2,v3,v4⟩:=q.out;rw [<- s.out];unfold fT;rw [i,v2,v3,v4];rw [if_neg d,if_pos ⟨f,l⟩,if_neg o,if_pos b,if_pos v];rfl
  clear d f l o b v;go_wp2;go_ret;exact ⟨by rw [g.out];rfl,by first | exact bel1 _ _ | exact below_drewN (bel1 _ _) _⟩
 have S : (j == 1) = false:=bn2 v;by_cases x : j = 2
 ·have b2 : (j == 2) = true:=beq_iff_eq.2 x
  have g : Hid (r = 0):=by
   show _ = _;obtain ⟨i,v2,v3,v4⟩:=q.out;rw [<- s.out];unfold fT;rw [i,v2,v3,v4];rw [if_neg d,if_pos ⟨f,l⟩,if_neg o,if_pos b,if_neg v,if_pos x];rfl
  clear d f l o b v x;go_wp2;go_ret;exact ⟨by rw [g.out];rfl,by first | exact bel1 _ _ | exact below_drewN (bel1 _ _) _⟩
 have b2 : (j == 2) = false:=bn2 x;by_cases D : j = 3
 ·have X : (j == 3) = true:=beq_iff_eq.2 D
  have g : Hid (r = 0):=by
   show _ = _;obtain ⟨i,v2,v3,v4⟩:=q.out;rw [<- s.out];unfold fT;rw [i,v2,v3,v4];rw [if_neg d,if_pos ⟨f,l⟩,if_neg o,if_pos b,if_neg v,if_neg x,if_pos D];rfl
  clear d f l o b v x D;go_wp2;go_ret;exact ⟨by rw [g.out];rfl,by first | exact bel1 _ _ | exact below_drewN (bel1 _ _) _⟩
 have X : (j == 3) = false:=bn2 D;by_cases H : j = 6
 ·have U : (j == 6) = true:=beq_iff_eq.2 H
  have g : Hid (r = 2):=by
   show _ = _;obtain ⟨i,v2,v3,v4⟩:=q.out;rw [<- s.out];unfold fT;rw [i,v2,v3,v4];rw [if_neg d,if_pos ⟨f,l⟩,if_neg o,if_pos b,if_neg v,if_neg x,if_neg D,if_pos H];rfl
  clear d f l o b v x D H;go_wp2;go_ret;exact ⟨by rw [g.out];rfl,by first | exact bel1 _ _ | exact below_drewN (bel1 _ _) _⟩
 have U : (j == 6) = false:=bn2 H
 have g : Hid (r = -1):=by
  show _ = _;obtain ⟨i,v2,v3,v4⟩:=q.out;rw [<- s.out];unfold fT;rw [i,v2,v3,v4];rw [if_neg d,if_pos ⟨f,l⟩,if_neg o,if_pos b,if_neg v,if_neg x,if_neg D,if_neg H];rfl
 clear d f l o b v x D H;go_wp2;go_ret;exact ⟨by rw [g.out];rfl,by first | exact bel1 _ _ | exact below_drewN (bel1 _ _) _⟩
def Ca (t : TI) : Prop:=t.ns.length <= 1048576 /\ (∀ k,k < t.ns.length -> (t.ns.getD k e0).size <= 1048576) /\ t.md.size <= 1048576 /\ t.nm.size <= 1048576
structure fq (w : World) (v : Value) (xs : List (TI × NPl)) : Prop where
 rt : ∃ B,RT B w v xs
 cap : ∀ x,x ∈ xs -> x.1.ns.length <= x.2.c
 sz : ∀ x,x ∈ xs -> Ca x.1
 len : xs.length <= 1048576
theorem fq.below {w w' : World} {v : Value} {xs : List (TI × NPl)} (h : fq w v xs) (hb : Bw w w') : fq w' v xs:=⟨by obtain ⟨B,r⟩:=h.rt;exact ⟨B,r.below hb⟩,h.cap,h.sz,h.len⟩
theorem fq.form {w : World} {v : Value} {xs : List (TI × NPl)} (h : fq w v xs) : ∃ a c,v = .slice a xs.length c:=by obtain ⟨B,r⟩:=h.rt;exact ad r.own
theorem fq.item {w : World} {a : Option Addr} {c : Nat} {xs : List (TI × NPl)} (h : fq w (.slice a xs.length c) xs) {k : Nat} (hk : k < xs.length) : ∃ g,a = some ⟨g,0,none⟩ /\ w.cell? ⟨g,k * 4,none⟩ = some (Value.int .i64 xs[k].1.op) /\ w.cell? ⟨g,k * 4 + 1,none⟩ = some (Value.string xs[k].1.md) /\ w.cell? ⟨g,k * 4 + 2,none⟩ = some (Value.string xs[k].1.nm) /\ w.cell? ⟨g,k * 4 + 3,none⟩ = some (Value.slice xs[k].2.a xs[k].1.ns.length xs[k].2.c) /\ yT w xs[k].1 xs[k].2:=by
 obtain ⟨B,r⟩:=h.rt;obtain ⟨g,i,e,_⟩:=au r.own (show 0 < xs.length by omega);simp only [Value.slice.injEq] at e;obtain ⟨rfl,-,rfl⟩:=e;have d:=List.getElem_mem hk;have b:=h.sz _ d;exact ⟨g,rfl,af (f:=ei) aw r.own (j:=k) (r:=0) rfl hk (by omega) rfl,af (f:=ei) aw r.own rfl hk (by omega) rfl,af (f:=ei) aw r.own rfl hk (by omega) rfl,af (f:=ei) aw r.own rfl hk (by omega) rfl,(r.nm _ d).nsa,b.1,b.2.1,h.cap _ d,b.2.2.1,b.2.2.2⟩
theorem gz {ar : Nat -> Option Nat} : ∀ {k m : Nat},bN ar k = none -> k <= m -> bN ar m = none
 | k,0,h,hm=>by have : k = 0:=by omega
                subst this;exact h
 | k,m + 1,h,hm=>by
   by_cases e : k = m + 1
   ·rw [<- e];exact h
   ·rw [bN,gz h (by omega)]
theorem rm {l : List TI} {xs : List (TI × NPl)} (hl : xs.map Prod.fst = l) {k : Nat} (hk : k < xs.length) : aT l k = (fT xs[k].1).map fun f=>f.needs.length:=by
 unfold aT;rw [<- hl,List.getElem?_map,List.getElem?_eq_getElem hk];rfl
theorem oz (w : World) {v : Value} {xs : List (TI × NPl)} (h : fq w v xs) {l : List TI} (hl : xs.map Prod.fst = l) :
  Calls Tryz.prog 24 #[v] w fun e w'=>e = .returned (.bool (dH l)) /\ Bw w w':=by
 obtain ⟨a,c,rfl⟩:=h.form;have M : Hid (∀ W,Bw w W -> fq W (.slice a xs.length c) xs):=fun W r=>h.below r;have S:=hQx hl;have J:=h.len;have p : Hid (l.length = xs.length):=by show _ = _;rw [<- hl,List.length_map]
 obtain ⟨b,r⟩:=xe (dH l);have y : Hid (dH l = b):=r.symm;rw [<- r];clear h hl r;go_enter Tryz.func24,Tryz.ntmps24;go_wp2
 go_loopw [3,4] (fun hd i wr=>∃ k m : Nat,k <= xs.length /\ m <= k /\ i = .int .i64 k /\ hd = .int .i64 m /\ Hid (bN (aT l) k = some m) /\ Hid (Bw w wr)) (fun _ i _=>xs.length - (intOf i).toNat)
 case atStart=>exact ⟨0,0,Nat.zero_le _,nlr _,rfl,rfl,rfl,Below.refl _ _⟩
 case round=>
  obtain ⟨k,m,Z,O,rfl,rfl,D,j⟩:=hrel;by_cases t : k < xs.length
  ·obtain ⟨g,rfl,R,N,Q,U,B⟩:=(M.out wr j.out).item t
   have u : Hid (aT l k = (fT xs[k].1).map fun f=>f.needs.length):=rm S.out t;obtain ⟨X,I⟩:=xe (xs[k]);rw [<- I] at R N Q U B u;have C : Hid (Calls Tryz.prog 50 #[.agg #[.int .i64 X.1.op,.string X.1.md,.string X.1.nm,.slice X.2.a X.1.ns.length X.2.c]] wr fun e w'=>e = .returned (.int .i64 (dJ (fT X.1))) /\ Bw wr w'):=vi wr B;clear B I
   cases hf : fT X.1 with
   | none=>
     have q : Hid (b = false):=by
      show _ = _;rw [<- y.out];have : bN (aT l) (k + 1) = none:=by rw [bN,D.out,u.out,hf];rfl
      unfold dH;rw [gz this (by rw [p.out];omega)];rfl
     rw [hf] at C;have x : Hid (Calls Tryz.prog 50 #[.agg #[.int .i64 X.1.op,.string X.1.md,.string X.1.nm,.slice X.2.a X.1.ns.length X.2.c]] wr fun e w'=>e = .returned (.int .i64 (-1)) /\ Bw wr w'):=C;clear hf C;go_wp2_with (first | (go_at_call 50;refine x.out.mono ?_;rintro e A ⟨rfl,d⟩));go_ret;exact ⟨by rw [q.out];rfl,j.out.trans (d.mono j.out.size)⟩
   | some f=>
     obtain ⟨n,F⟩:=xe (f.needs.length);have H : Hid (bN (aT l) (k + 1) = if n <= m then some (m - n + 1) else none):=by show _ = _;rw [bN,D.out,u.out,hf,F];rfl
     rw [hf] at C;have x : Hid (Calls Tryz.prog 50 #[.agg #[.int .i64 X.1.op,.string X.1.md,.string X.1.nm,.slice X.2.a X.1.ns.length X.2.c]] wr fun e w'=>e = .returned (.int .i64 (n : Int)) /\ Bw wr w'):=by rw [F];exact C
     clear hf C u F;have V : ¬ (n : Int) < 0:=by omega
     by_cases s : n <= m
     ·have P : Hid (bN (aT l) (k + 1) = some (m - n + 1)):=by show _ = _;rw [H.out,if_pos s]
      have K : ¬ (m : Int) < (n : Int):=by omega
      have Y : IntKind.i64.wrap ((m : Int) - (n : Int)) = (m : Int) - (n : Int):=wk (by omega);have T : IntKind.i64.wrap ((m : Int) - (n : Int) + 1) = (m : Int) - (n : Int) + 1:=wk (by omega);go_wp2_with (first | (go_at_call 50;refine x.out.mono ?_;rintro e A ⟨rfl,d⟩));have G : Hid (Bw w A):=j.out.trans (d.mono j.out.size)
      go_roundw
      case rel=>exact ⟨k + 1,m - n + 1,by omega,by omega,by go_num,by congr 1;omega,P,G⟩
      case measure=>simp [intOf];omega
     ·have q : Hid (b = false):=by
       show _ = _;rw [<- y.out];have : bN (aT l) (k + 1) = none:=by rw [H.out,if_neg s]
       unfold dH;rw [gz this (by rw [p.out];omega)];rfl
      have K : (m : Int) < (n : Int):=by omega
      go_wp2_with (first | (go_at_call 50;refine x.out.mono ?_;rintro e A ⟨rfl,d⟩));go_ret;exact ⟨by rw [q.out];rfl,j.out.trans (d.mono j.out.size)⟩
  ·have E : k = xs.length:=by omega
   subst E
   have q : Hid (b = decide (m = 1)):=by
    show _ = _;rw [<- y.out];unfold dH;rw [p.out,D.out];by_cases e : m = 1
    ·subst e;rfl
    ·rw [decide_eq_false e,beq_eq_false_iff_ne];exact fun z=>e (Option.some.inj z)
   by_cases e : m = 1
   ·have L : ((m : Int) == 1) = true:=beq_iff_eq.2 (by omega)
    have o : Hid (b = true):=by show _ = _;rw [q.out,decide_eq_true e]
    clear e;go_wp2;go_ret;exact ⟨by rw [o.out];rfl,j.out⟩
   ·have L : ((m : Int) == 1) = false:=bn2 (by omega)
    have o : Hid (b = false):=by show _ = _;rw [q.out,decide_eq_false e]
    clear e;go_wp2;go_ret;exact ⟨by rw [o.out];rfl,j.out⟩
end Go.Proofs.YtihedobejcaapaaGreatDoor
