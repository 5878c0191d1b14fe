/-
  VbA VbB VbC
-/
import Derived.Test.YtcehppndpccldaaGreatDoorSD
import Derived.Test.YtcehppndpccldaaGreatDoorT1
set_option maxHeartbeats 4000000
set_option maxRecDepth 100000
namespace Go.Proofs.YtcehppndpccldaaGreatDoor
open Go.RowKit
theorem quiet_at {P : Program} {f : FuncId} {args : Array Value} {W : World} {m n : Nat} {v : Value}
  (h : Calls P f args (W.drewN (m + n)) fun e w'=>e = .returned v /\ ∃ k,w' = (W.drewN (m + n)).drewN k) : Calls P f args (W.drewN (m + n)) fun e w''=>e = .returned v /\ ∃ n',w'' = W.drewN (m + n'):=
 h.mono fun _ _ ⟨he,k,hk⟩=>⟨he,n + k,by rw [hk,World.drewN_drewN,Nat.add_assoc]⟩
structure NsA (w : World) (p : NPl) (ns : List ByteArray) : Prop where
 at_ : 0 < ns.length -> p.a = some ⟨p.b,0,none⟩
 cell : ∀ k,k < ns.length -> w.cell? ⟨p.b,k,none⟩ = some (.string (ns.getD k e0))
theorem NmOK.nsa {B : Nat} {w : World} {ns : List ByteArray} {p : NPl} (h : NmOK B w ns p) : NsA w p ns:=
 ⟨fun z=>(h (List.length_pos_iff.1 z)).1,fun k hk=>by
  obtain ⟨_,_,N,f,r,hl,hf⟩:=h (List.length_pos_iff.1 (by omega))
  rw [r.cell (by omega),hf k hk]⟩
theorem NsA.below {w w' : World} {p : NPl} {ns : List ByteArray} (h : NsA w p ns) (hb : Bw w w') : NsA w' p ns:=
 ⟨h.at_,fun k hk=>(hb.cell (p:=⟨p.b,k,none⟩) (blt (h.cell k hk))).trans (h.cell k hk)⟩
theorem hasN_take {ns : List ByteArray} {n : Nat} {s : ByteArray} (hn : n <= ns.length) : hasN (ns.take n) s = (List.range n).any fun j=>(ns.getD j e0).toList == s.toList:=by
 rw [Bool.eq_iff_iff]
 unfold hasN
 rw [List.any_eq_true,List.any_eq_true]
 constructor
 ·rintro ⟨x,hx,hs⟩
  obtain ⟨j,hj,rfl⟩:=List.mem_iff_getElem.1 hx
  rw [List.length_take] at hj
  refine ⟨j,List.mem_range.2 (by omega),?_⟩
  rw [List.getElem_take] at hs
  rw [List.getD_eq_getElem?_getD,List.getElem?_eq_getElem (by omega),Option.getD_some,ByteArray.toList_eq,ByteArray.toList_eq]
  exact hs
 ·rintro ⟨j,hj,hs⟩
  have hj':=List.mem_range.1 hj
  rw [List.getD_eq_getElem?_getD,List.getElem?_eq_getElem (by omega),Option.getD_some,ByteArray.toList_eq,ByteArray.toList_eq] at hs
  exact ⟨ns[j],List.mem_iff_getElem.2 ⟨j,by rw [List.length_take];omega,by rw [List.getElem_take]⟩,hs⟩
theorem v_twice (w : World) {p : NPl} {ns : List ByteArray} (h : NsA w p ns) {va : Option Addr} {n c : Nat} (hn : n <= ns.length) (hva : 0 < n -> va = some ⟨p.b,0,none⟩) (hl : n <= 2000000) (s : ByteArray) :
  Calls Tryz.prog 88 #[.slice va n c,.string s] w fun e w'=>e = .returned (.bool (hasN (ns.take n) s)) /\ w' = w:=by
 have HB : Hid (hasN (ns.take n) s = (List.range n).any fun j=>(ns.getD j e0).toList == s.toList):=hasN_take hn
 have HC : Hid (∀ k,k < n -> va = some ⟨p.b,0,none⟩ /\ w.cell? ⟨p.b,k,none⟩ = some (.string (ns.getD k e0))):=fun k hk=>⟨hva (by omega),h.cell k (by omega)⟩
 obtain ⟨b,hb⟩:=xe (hasN (ns.take n) s)
 rw [<- hb] at HB ⊢
 clear h hn hva hb
 go_enter Tryz.func88,Tryz.ntmps88
 go_wp2
 go_loopw [5] (fun i wr=>∃ k : Nat,k <= n /\ i = .int .i64 k /\ w = wr /\ Hid (∀ j,j < k -> ((ns.getD j e0).toList == s.toList) = false)) (fun i _=>n - (intOf i).toNat)
 case atStart=>exact ⟨0,Nat.zero_le _,rfl,rfl,fun j hj=>absurd hj (Nat.not_lt_zero _)⟩
 case round=>
  obtain ⟨k,hk,rfl,rfl,HF⟩:=hrel
  by_cases hlt : k < n
  ·obtain ⟨rfl,ck⟩:=HC.out k hlt
   obtain ⟨x,hx⟩:=xe (ns.getD k e0)
   rw [<- hx] at ck
   cases r : (x.toList == s.toList)
   ·have HR : Hid (((ns.getD k e0).toList == s.toList) = false):=by show _ = _;rw [<- hx];exact r
    clear hx
    go_wp2
    refine ⟨⟨k + 1,by omega,by go_num,trivial,fun j hjk=>?_⟩,by simp [intOf];omega⟩
    by_cases e : j = k
    ·subst e;exact HR.out
    ·exact HF.out j (by omega)
   ·have HR : Hid (true = b):=by
     show _ = _
     rw [HB.out]
     exact (List.any_eq_true.2 ⟨k,List.mem_range.2 hlt,by rw [<- hx];exact r⟩).symm
    clear hx
    go_wp2
    go_ret
    exact ⟨by rw [<- HR.out];rfl,rfl⟩
  ·have hkn : k = n:=by omega
   subst hkn
   have HR : Hid (false = b):=by
    show _ = _
    rw [HB.out]
    refine (List.any_eq_false.2 fun j hj=>?_).symm
    rw [HF.out j (List.mem_range.1 hj)];exact Bool.false_ne_true
   go_wp2
   go_ret
   exact ⟨by rw [<- HR.out];rfl,rfl⟩
theorem all_upto {n : Nat} {f : Nat -> Bool} (k : Nat) (hk : k < n) (h : f k = false) : (List.range n).all f = false:=List.all_eq_false.2 ⟨k,List.mem_range.2 hk,by rw [h];exact Bool.false_ne_true⟩
theorem v_namesOk (w : World) {p : NPl} {ns : List ByteArray} (h : NsA w p ns) (hl : ns.length <= 1048576) (hs : ∀ k,k < ns.length -> (ns.getD k e0).size <= 1048576) {n : Nat} (hn : n = ns.length) (hc : n <= p.c) :
  Calls Tryz.prog 131 #[.slice p.a n p.c] w fun e w'=>e = .returned (.bool (nmOk ns)) /\ ∃ k,w' = w.drewN k:=by
 have HC : Hid (∀ k,k < n -> p.a = some ⟨p.b,0,none⟩ /\ w.cell? ⟨p.b,k,none⟩ = some (.string (ns.getD k e0)) /\ (ns.getD k e0).size <= 9223372036854775807):=fun k hk=>⟨h.at_ (by omega),h.cell k (by omega),by have:=hs k (by omega);omega⟩
 have HT : Hid (∀ (W : World) (k m : Nat) (s : ByteArray),(∃ j,W = w.drewN j) -> k < n -> Calls Tryz.prog 88 #[.slice (some ⟨p.b,0,none⟩) k m,.string s] W fun e w'=>e = .returned (.bool (hasN (ns.take k) s)) /\ w' = W):=fun W k m s hW hk=>by
  obtain ⟨j,rfl⟩:=hW
  exact v_twice (w.drewN j) (h.below (below_drewN' _ _)) (by omega) (fun _=>rfl) (by omega) s
 have hl2 : n <= 1048576:=by omega
 have HN : Hid (n = ns.length):=hn
 obtain ⟨b,hb⟩:=xe (nmOk ns)
 have HB : Hid (b = (List.range n).all fun i=>gn (ns.getD i e0) && !hasN (ns.take i) (ns.getD i e0)):=by show _ = _;rw [hb,hn];rfl
 rw [<- hb]
 clear h hs hn hb hl
 go_enter Tryz.func131,Tryz.ntmps131
 go_wp2
 go_loopw [3] (fun i wr=>∃ k : Nat,k <= n /\ i = .int .i64 k /\ (∃ m,wr = w.drewN m) /\ Hid (∀ j,j < k -> (gn (ns.getD j e0) && !hasN (ns.take j) (ns.getD j e0)) = true)) (fun i _=>n - (intOf i).toNat)
 case atStart=>exact ⟨0,Nat.zero_le _,rfl,⟨0,rfl⟩,fun j hj=>absurd hj (Nat.not_lt_zero _)⟩
 case round=>
  obtain ⟨k,hk,rfl,⟨m,rfl⟩,HF⟩:=hrel
  by_cases hlt : k < n
  ·obtain ⟨ea,ck,sz⟩:=HC.out k hlt
   obtain ⟨x,hx⟩:=xe (ns.getD k e0)
   rw [<- hx] at ck sz
   rw [ea]
   have gk : k <= p.c:=by omega
   have G : Hid (∀ j,Calls Tryz.prog 62 #[.string x] (w.drewN j) fun e w'=>e = .returned (.bool (gn x)) /\ ∃ i,w' = (w.drewN j).drewN i):=fun j=>(c32 x (w.drewN j) sz).mono fun e w' h=>⟨h.1,0,h.2⟩
   have T : Hid (∀ j mm,Calls Tryz.prog 88 #[.slice (some ⟨p.b,0,none⟩) k mm,.string x] (w.drewN j) fun e w'=>e = .returned (.bool (hasN (ns.take k) x)) /\ ∃ i,w' = (w.drewN j).drewN i):=fun j mm=>(HT.out (w.drewN j) k mm x ⟨j,rfl⟩ hlt).mono fun e w' h=>⟨h.1,0,h.2⟩
   cases hg : gn x
   ·have HR : Hid (false = b):=by show _ = _;rw [HB.out,all_upto k hlt (by rw [<- hx,hg];rfl)]
    rw [hg] at G
    clear hx ea
    go_wp2
    go_quiet (first | (go_at_call 62;first | (exact Calls.quiet_of (G.out _)) | (exact quiet_at (G.out _))))
    go_wp2
    go_ret
    exact ⟨by rw [<- HR.out];rfl,_,by first | rfl | exact World.drewN_drewN ..⟩
   ·rw [hg] at G
    cases ht : hasN (ns.take k) x
    ·have HR : Hid ((gn (ns.getD k e0) && !hasN (ns.take k) (ns.getD k e0)) = true):=by show _ = _;rw [<- hx,hg,ht];rfl
     rw [ht] at T
     clear hx ea
     go_wp2
     go_quiet (first | (go_at_call 62;first | (exact Calls.quiet_of (G.out _)) | (exact quiet_at (G.out _))) | (go_at_call 88;first | (exact Calls.quiet_of (T.out _ _)) | (exact quiet_at (T.out _ _))))
     go_wp2
     go_roundw
     case rel=>exact ⟨k + 1,by omega,by go_num,⟨_,rfl⟩,fun j hj=>by
      by_cases e : j = k
      ·rw [e];exact HR.out
      ·exact HF.out j (by omega)⟩
     case measure=>simp [intOf];omega
    ·have HR : Hid (false = b):=by show _ = _;rw [HB.out,all_upto k hlt (by rw [<- hx,hg,ht];rfl)]
     rw [ht] at T
     clear hx ea
     go_wp2
     go_quiet (first | (go_at_call 62;first | (exact Calls.quiet_of (G.out _)) | (exact quiet_at (G.out _))) | (go_at_call 88;first | (exact Calls.quiet_of (T.out _ _)) | (exact quiet_at (T.out _ _))))
     go_wp2
     go_ret
     exact ⟨by rw [<- HR.out];rfl,_,by first | rfl | exact World.drewN_drewN ..⟩
  ·have hkn : k = n:=by omega
   subst hkn
   have HR : Hid (true = b):=by
    show _ = _
    rw [HB.out]
    exact (List.all_eq_true.2 fun j hj=>HF.out j (List.mem_range.1 hj)).symm
   go_wp2
   go_ret
   exact ⟨by rw [<- HR.out];rfl,_,rfl⟩
theorem em_zero {s : ByteArray} (h : s.size = 0) : s = ByteArray.empty:=by
 apply ByteArray.ext
 exact Array.eq_empty_of_size_eq_zero h
theorem em_pos {s : ByteArray} (h : ¬ s.size = 0) : ¬ s = ByteArray.empty:=fun e=>h (by rw [e];rfl)
def arI (o : Option Fm) : Int:=match o with
 | none=>-1
 | some f=>(f.needs.length : Int)
structure TiA (w : World) (t : TI) (p : NPl) : Prop where
 ns : NsA w p t.ns
 len : t.ns.length <= 1048576
 sz : ∀ k,k < t.ns.length -> (t.ns.getD k e0).size <= 1048576
 cap : t.ns.length <= p.c
 md : t.md.size <= 1048576
 nm : t.nm.size <= 1048576
def tiV (t : TI) (p : NPl) : Value:=.agg #[.int .i64 t.op,.string t.md,.string t.nm,.slice p.a t.ns.length p.c]
theorem v_arT (w : World) {t : TI} {p : NPl} (h : TiA w t p) :
  Calls Tryz.prog 98 #[tiV t p] w fun e w'=>e = .returned (.int .i64 (arI (fT t))) /\ Bw w w':=by
 have HN : Hid (∀ W,Bw w W -> Calls Tryz.prog 131 #[.slice p.a t.ns.length p.c] W fun e w'=>e = .returned (.bool (nmOk t.ns)) /\ ∃ k,w' = W.drewN k):=fun W hb=>v_namesOk W (h.ns.below hb) h.len h.sz rfl h.cap
 have HD : Hid (TiA w t p):=h
 unfold tiV
 obtain ⟨op,hop⟩:=xe (t.op)
 obtain ⟨md,hmd⟩:=xe (t.md)
 obtain ⟨nm,hnm⟩:=xe (t.nm)
 obtain ⟨n,hn⟩:=xe (t.ns.length)
 have HV : Hid (t.op = op /\ t.md = md /\ t.nm = nm /\ t.ns.length = n):=⟨hop.symm,hmd.symm,hnm.symm,hn.symm⟩
 have zm : md.size <= 9223372036854775807:=by have:=h.md;rw [hmd];omega
 have zn : nm.size <= 9223372036854775807:=by have:=h.nm;rw [hnm];omega
 have zl : n <= 1048576:=by have:=h.len;omega
 rw [<- hop,<- hmd,<- hnm,<- hn]
 rw [<- hn] at HN
 obtain ⟨r,hr⟩:=xe (arI (fT t))
 have HR : Hid (arI (fT t) = r):=hr.symm
 rw [<- hr]
 have CG0 : Hid (∀ W,Calls Tryz.prog 62 #[.string nm] W fun e w'=>e = .returned (.bool (gn nm)) /\ w' = W):=fun W=>c32 nm W zn
 have CM0 : Hid (∀ W,Calls Tryz.prog 62 #[.string md] W fun e w'=>e = .returned (.bool (gn md)) /\ w' = W):=fun W=>c32 md W zm
 clear h hop hmd hnm hn hr
 go_enter Tryz.func98,Tryz.ntmps98
 by_cases h4 : op = 4
 ·have b4 : (op == 4) = true:=beq_iff_eq.2 h4
  cases hg : gn nm
  case false=>
   have CG:=CG0
   rw [hg] at CG
   have HE : Hid (r = -1):=by
    show _ = _
    obtain ⟨v1,v2,v3,v4⟩:=HV.out
    rw [<- HR.out]
    unfold fT
    rw [v1,v2,v3,v4]
    rw [if_pos h4];unfold gPth;rw [hg];rfl
   clear h4
   go_wp2_with (first | (go_at_call 62;(with_reducible refine (CG.out _).mono ?_);rintro e w' ⟨rfl,rfl⟩))
   go_ret
   exact ⟨by rw [HE.out];rfl,by first | exact bel1 _ _ | exact below_drewN (bel1 _ _) _⟩
  case true=>
   have CG:=CG0
   rw [hg] at CG
   by_cases hz : md.size = 0
   case pos=>
    have lz : ¬ (0 : Int) < (md.size : Int):=by omega
    have me : md = ByteArray.empty:=em_zero hz
    have lz2 : ¬ 0 < md.size:=by omega
    by_cases hn0 : n = 0
    case pos=>
     have HE : Hid (r = 0):=by
      show _ = _
      obtain ⟨v1,v2,v3,v4⟩:=HV.out
      rw [<- HR.out]
      unfold fT
      rw [v1,v2,v3,v4]
      rw [if_pos h4];unfold gPth;rw [hg,hz,hn0];rfl
     have ln : ¬ (0 : Int) < (n : Int):=by omega
     clear h4 hz hn0
     go_wp2_with (first | (go_at_call 62;(with_reducible refine (CG.out _).mono ?_);rintro e w' ⟨rfl,rfl⟩))
     go_ret
     exact ⟨by rw [HE.out];rfl,by first | exact bel1 _ _ | exact below_drewN (bel1 _ _) _⟩
    case neg=>
     have HE : Hid (r = -1):=by
      show _ = _
      obtain ⟨v1,v2,v3,v4⟩:=HV.out
      rw [<- HR.out]
      unfold fT
      rw [v1,v2,v3,v4]
      rw [if_pos h4];unfold gPth;rw [hg,hz,if_neg (by simp [hn0])];rfl
     have ln : (0 : Int) < (n : Int):=by omega
     clear h4 hz hn0
     go_wp2_with (first | (go_at_call 62;(with_reducible refine (CG.out _).mono ?_);rintro e w' ⟨rfl,rfl⟩))
     go_ret
     exact ⟨by rw [HE.out];rfl,by first | exact bel1 _ _ | exact below_drewN (bel1 _ _) _⟩
   case neg=>
    have lz : (0 : Int) < (md.size : Int):=by omega
    have me : ¬ md = ByteArray.empty:=em_pos hz
    have lz2 : 0 < md.size:=by omega
    cases hm : gn md
    case false=>
     have CM:=CM0
     rw [hm] at CM
     have HE : Hid (r = -1):=by
      show _ = _
      obtain ⟨v1,v2,v3,v4⟩:=HV.out
      rw [<- HR.out]
      unfold fT
      rw [v1,v2,v3,v4]
      rw [if_pos h4];unfold gPth;rw [hg,hm,decide_eq_false hz];rfl
     clear h4 hz
     go_wp2_with (first | (go_at_call 62;(with_reducible refine (CG.out _).mono ?_);rintro e w' ⟨rfl,rfl⟩) | (go_at_call 62;(with_reducible refine (CM.out _).mono ?_);rintro e w' ⟨rfl,rfl⟩))
     go_ret
     exact ⟨by rw [HE.out];rfl,by first | exact bel1 _ _ | exact below_drewN (bel1 _ _) _⟩
    case true=>
     have CM:=CM0
     rw [hm] at CM
     by_cases hn0 : n = 0
     case pos=>
      have HE : Hid (r = 0):=by
       show _ = _
       obtain ⟨v1,v2,v3,v4⟩:=HV.out
       rw [<- HR.out]
       unfold fT
       rw [v1,v2,v3,v4]
       rw [if_pos h4];unfold gPth;rw [hg,hm,decide_eq_false hz,hn0];rfl
      have ln : ¬ (0 : Int) < (n : Int):=by omega
      clear h4 hz hn0
      go_wp2_with (first | (go_at_call 62;(with_reducible refine (CG.out _).mono ?_);rintro e w' ⟨rfl,rfl⟩) | (go_at_call 62;(with_reducible refine (CM.out _).mono ?_);rintro e w' ⟨rfl,rfl⟩))
      go_ret
      exact ⟨by rw [HE.out];rfl,by first | exact bel1 _ _ | exact below_drewN (bel1 _ _) _⟩
     case neg=>
      have HE : Hid (r = -1):=by
       show _ = _
       obtain ⟨v1,v2,v3,v4⟩:=HV.out
       rw [<- HR.out]
       unfold fT
       rw [v1,v2,v3,v4]
       rw [if_pos h4];unfold gPth;rw [hg,hm,decide_eq_false hz,if_neg (by simp [hn0])];rfl
      have ln : (0 : Int) < (n : Int):=by omega
      clear h4 hz hn0
      go_wp2_with (first | (go_at_call 62;(with_reducible refine (CG.out _).mono ?_);rintro e w' ⟨rfl,rfl⟩) | (go_at_call 62;(with_reducible refine (CM.out _).mono ?_);rintro e w' ⟨rfl,rfl⟩))
      go_ret
      exact ⟨by rw [HE.out];rfl,by first | exact bel1 _ _ | exact below_drewN (bel1 _ _) _⟩
 have b4 : (op == 4) = false:=bn2 h4
 by_cases hz : md.size = 0
 case neg=>
  have lz : (0 : Int) < (md.size : Int):=by omega
  have me : ¬ md = ByteArray.empty:=em_pos hz
  have lz2 : 0 < md.size:=by omega
  have HE : Hid (r = -1):=by
   show _ = _
   obtain ⟨v1,v2,v3,v4⟩:=HV.out
   rw [<- HR.out]
   unfold fT
   rw [v1,v2,v3,v4]
   rw [if_neg h4,if_neg (fun z=>hz z.1)];rfl
  clear h4 hz
  go_wp2
  go_ret
  exact ⟨by rw [HE.out];rfl,by first | exact bel1 _ _ | exact below_drewN (bel1 _ _) _⟩
 have lz : ¬ (0 : Int) < (md.size : Int):=by omega
 have me : md = ByteArray.empty:=em_zero hz
 have lz2 : ¬ 0 < md.size:=by omega
 by_cases hy : nm.size = 0
 case neg=>
  have ly : (0 : Int) < (nm.size : Int):=by omega
  have ne : ¬ nm = ByteArray.empty:=em_pos hy
  have ly2 : 0 < nm.size:=by omega
  have HE : Hid (r = -1):=by
   show _ = _
   obtain ⟨v1,v2,v3,v4⟩:=HV.out
   rw [<- HR.out]
   unfold fT
   rw [v1,v2,v3,v4]
   rw [if_neg h4,if_neg (fun z=>hy z.2)];rfl
  clear h4 hz hy
  go_wp2
  go_ret
  exact ⟨by rw [HE.out];rfl,by first | exact bel1 _ _ | exact below_drewN (bel1 _ _) _⟩
 have ly : ¬ (0 : Int) < (nm.size : Int):=by omega
 have ne : nm = ByteArray.empty:=em_zero hy
 have ly2 : ¬ 0 < nm.size:=by omega
 by_cases h5 : op = 5
 ·have b5 : (op == 5) = true:=beq_iff_eq.2 h5
  subst me
  subst ne
  have HN1 : Hid (Calls Tryz.prog 131 #[.slice p.a n p.c] (w.alloc (.cells #[.int .i64 op,.string ByteArray.empty,.string ByteArray.empty,.slice p.a n p.c] 99)) fun e w'=>e = .returned (.bool (nmOk t.ns)) /\ ∃ k,w' = (w.alloc (.cells #[.int .i64 op,.string ByteArray.empty,.string ByteArray.empty,.slice p.a n p.c] 99)).drewN k):=HN.out _ (bel1 _ _)
  cases ho : nmOk t.ns
  case false=>
   have HE : Hid (r = -1):=by
    show _ = _
    obtain ⟨v1,v2,v3,v4⟩:=HV.out
    rw [<- HR.out]
    unfold fT
    rw [v1,v2,v3,v4]
    rw [if_neg h4,if_pos ⟨hz,hy⟩,if_pos h5,ho];rfl
   rw [ho] at HN1
   clear h4 hz hy h5
   go_wp2_with (first | (go_at_call 131;refine HN1.out.mono ?_;rintro e w' ⟨rfl,k,rfl⟩))
   go_ret
   exact ⟨by rw [HE.out];rfl,by first | exact bel1 _ _ | exact below_drewN (bel1 _ _) _⟩
  case true=>
   have HE : Hid (r = (n : Int)):=by
    show _ = _
    obtain ⟨v1,v2,v3,v4⟩:=HV.out
    rw [<- HR.out]
    unfold fT
    rw [v1,v2,v3,if_neg h4,if_pos ⟨hz,hy⟩,if_pos h5,ho]
    show ((brc t.ns xCs 1).needs.length : Int) = _
    rw [(brc_ok _ _ _).2.1,v4]
   rw [ho] at HN1
   clear h4 hz hy h5
   go_wp2_with (first | (go_at_call 131;refine HN1.out.mono ?_;rintro e w' ⟨rfl,k,rfl⟩))
   go_ret
   exact ⟨by rw [HE.out];rfl,by first | exact bel1 _ _ | exact below_drewN (bel1 _ _) _⟩
 have b5 : (op == 5) = false:=bn2 h5
 by_cases hn0 : n = 0
 case neg=>
  have ln : (0 : Int) < (n : Int):=by omega
  have HE : Hid (r = -1):=by
   show _ = _
   obtain ⟨v1,v2,v3,v4⟩:=HV.out
   rw [<- HR.out]
   unfold fT
   rw [v1,v2,v3,v4]
   rw [if_neg h4,if_pos ⟨hz,hy⟩,if_neg h5,if_neg hn0];rfl
  clear h4 hz hy h5 hn0
  go_wp2
  go_ret
  exact ⟨by rw [HE.out];rfl,by first | exact bel1 _ _ | exact below_drewN (bel1 _ _) _⟩
 have ln : ¬ (0 : Int) < (n : Int):=by omega
 by_cases h1 : op = 1
 ·have b1 : (op == 1) = true:=beq_iff_eq.2 h1
  have HE : Hid (r = 0):=by
   show _ = _
   obtain ⟨v1,v2,v3,v4⟩:=HV.out
   rw [<- HR.out]
   unfold fT
   rw [v1,v2,v3,v4]
   rw [if_neg h4,if_pos ⟨hz,hy⟩,if_neg h5,if_pos hn0,if_pos h1];rfl
  clear h4 hz hy h5 hn0 h1
  go_wp2
  go_ret
  exact ⟨by rw [HE.out];rfl,by first | exact bel1 _ _ | exact below_drewN (bel1 _ _) _⟩
 have b1 : (op == 1) = false:=bn2 h1
 by_cases h2 : op = 2
 ·have b2 : (op == 2) = true:=beq_iff_eq.2 h2
  have HE : Hid (r = 0):=by
   show _ = _
   obtain ⟨v1,v2,v3,v4⟩:=HV.out
   rw [<- HR.out]
   unfold fT
   rw [v1,v2,v3,v4]
   rw [if_neg h4,if_pos ⟨hz,hy⟩,if_neg h5,if_pos hn0,if_neg h1,if_pos h2];rfl
  clear h4 hz hy h5 hn0 h1 h2
  go_wp2
  go_ret
  exact ⟨by rw [HE.out];rfl,by first | exact bel1 _ _ | exact below_drewN (bel1 _ _) _⟩
 have b2 : (op == 2) = false:=bn2 h2
 by_cases h3 : op = 3
 ·have b3 : (op == 3) = true:=beq_iff_eq.2 h3
  have HE : Hid (r = 0):=by
   show _ = _
   obtain ⟨v1,v2,v3,v4⟩:=HV.out
   rw [<- HR.out]
   unfold fT
   rw [v1,v2,v3,v4]
   rw [if_neg h4,if_pos ⟨hz,hy⟩,if_neg h5,if_pos hn0,if_neg h1,if_neg h2,if_pos h3];rfl
  clear h4 hz hy h5 hn0 h1 h2 h3
  go_wp2
  go_ret
  exact ⟨by rw [HE.out];rfl,by first | exact bel1 _ _ | exact below_drewN (bel1 _ _) _⟩
 have b3 : (op == 3) = false:=bn2 h3
 by_cases h6 : op = 6
 ·have b6 : (op == 6) = true:=beq_iff_eq.2 h6
  have HE : Hid (r = 2):=by
   show _ = _
   obtain ⟨v1,v2,v3,v4⟩:=HV.out
   rw [<- HR.out]
   unfold fT
   rw [v1,v2,v3,v4]
   rw [if_neg h4,if_pos ⟨hz,hy⟩,if_neg h5,if_pos hn0,if_neg h1,if_neg h2,if_neg h3,if_pos h6];rfl
  clear h4 hz hy h5 hn0 h1 h2 h3 h6
  go_wp2
  go_ret
  exact ⟨by rw [HE.out];rfl,by first | exact bel1 _ _ | exact below_drewN (bel1 _ _) _⟩
 have b6 : (op == 6) = false:=bn2 h6
 have HE : Hid (r = -1):=by
  show _ = _
  obtain ⟨v1,v2,v3,v4⟩:=HV.out
  rw [<- HR.out]
  unfold fT
  rw [v1,v2,v3,v4]
  rw [if_neg h4,if_pos ⟨hz,hy⟩,if_neg h5,if_pos hn0,if_neg h1,if_neg h2,if_neg h3,if_neg h6];rfl
 clear h4 hz hy h5 hn0 h1 h2 h3 h6
 go_wp2
 go_ret
 exact ⟨by rw [HE.out];rfl,by first | exact bel1 _ _ | exact below_drewN (bel1 _ _) _⟩
def SzT (t : TI) : Prop:=t.ns.length <= 1048576 /\ (∀ k,k < t.ns.length -> (t.ns.getD k e0).size <= 1048576) /\ t.md.size <= 1048576 /\ t.nm.size <= 1048576
structure TsA (w : World) (v : Value) (xs : List (TI × NPl)) : Prop where
 rt : ∃ B,RT B w v xs
 cap : ∀ x,x ∈ xs -> x.1.ns.length <= x.2.c
 sz : ∀ x,x ∈ xs -> SzT x.1
 len : xs.length <= 1048576
theorem TsA.below {w w' : World} {v : Value} {xs : List (TI × NPl)} (h : TsA w v xs) (hb : Bw w w') : TsA w' v xs:=⟨by obtain ⟨B,r⟩:=h.rt;exact ⟨B,r.below hb⟩,h.cap,h.sz,h.len⟩
theorem TsA.form {w : World} {v : Value} {xs : List (TI × NPl)} (h : TsA w v xs) : ∃ a c,v = .slice a xs.length c:=by obtain ⟨B,r⟩:=h.rt;exact own_form r.own
theorem TsA.item {w : World} {a : Option Addr} {c : Nat} {xs : List (TI × NPl)} (h : TsA w (.slice a xs.length c) xs) {k : Nat} (hk : k < xs.length) : ∃ g,a = some ⟨g,0,none⟩ /\ w.cell? ⟨g,k * 4,none⟩ = some (Value.int .i64 xs[k].1.op) /\ w.cell? ⟨g,k * 4 + 1,none⟩ = some (Value.string xs[k].1.md) /\ w.cell? ⟨g,k * 4 + 2,none⟩ = some (Value.string xs[k].1.nm) /\ w.cell? ⟨g,k * 4 + 3,none⟩ = some (Value.slice xs[k].2.a xs[k].1.ns.length xs[k].2.c) /\ TiA w xs[k].1 xs[k].2:=by
 obtain ⟨B,r⟩:=h.rt
 obtain ⟨g,gc,ev,_⟩:=own_blk r.own (show 0 < xs.length by omega)
 simp only [Value.slice.injEq] at ev
 obtain ⟨rfl,-,rfl⟩:=ev
 have hx:=List.getElem_mem hk
 have sz:=h.sz _ hx
 exact ⟨g,rfl,own_at (f:=tiC) tiC_len r.own (j:=k) (r:=0) rfl hk (by omega) rfl,own_at (f:=tiC) tiC_len r.own rfl hk (by omega) rfl,own_at (f:=tiC) tiC_len r.own rfl hk (by omega) rfl,own_at (f:=tiC) tiC_len r.own rfl hk (by omega) rfl,(r.nm _ hx).nsa,sz.1,sz.2.1,h.cap _ hx,sz.2.2.1,sz.2.2.2⟩
theorem vld_none {ar : Nat -> Option Nat} : ∀ {k m : Nat},vld ar k = none -> k <= m -> vld ar m = none
 | k,0,h,hm=>by have : k = 0:=by omega
                subst this;exact h
 | k,m + 1,h,hm=>by
   by_cases e : k = m + 1
   ·rw [<- e];exact h
   ·rw [vld,vld_none h (by omega)]
theorem aT_at {l : List TI} {xs : List (TI × NPl)} (hl : xs.map Prod.fst = l) {k : Nat} (hk : k < xs.length) : aT l k = (fT xs[k].1).map fun f=>f.needs.length:=by
 unfold aT
 rw [<- hl,List.getElem?_map,List.getElem?_eq_getElem hk]
 rfl
theorem v_typeOk (w : World) {v : Value} {xs : List (TI × NPl)} (h : TsA w v xs) {l : List TI} (hl : xs.map Prod.fst = l) :
  Calls Tryz.prog 63 #[v] w fun e w'=>e = .returned (.bool (okT l)) /\ Bw w w':=by
 obtain ⟨a,c,rfl⟩:=h.form
 have HB : Hid (∀ W,Bw w W -> TsA W (.slice a xs.length c) xs):=fun W hb=>h.below hb
 have HL : Hid (xs.map Prod.fst = l):=hl
 have hlen:=h.len
 have HLL : Hid (l.length = xs.length):=by show _ = _;rw [<- hl,List.length_map]
 obtain ⟨b,hb⟩:=xe (okT l)
 have HO : Hid (okT l = b):=hb.symm
 rw [<- hb]
 clear h hl hb
 go_enter Tryz.func63,Tryz.ntmps63
 go_wp2
 go_loopw [3,4] (fun hd i wr=>∃ k m : Nat,k <= xs.length /\ m <= k /\ i = .int .i64 k /\ hd = .int .i64 m /\ Hid (vld (aT l) k = some m) /\ Hid (Bw w wr)) (fun _ i _=>xs.length - (intOf i).toNat)
 case atStart=>exact ⟨0,0,Nat.zero_le _,nlr _,rfl,rfl,rfl,Below.refl _ _⟩
 case round=>
  obtain ⟨k,m,hk,hmk,rfl,rfl,HV,HW⟩:=hrel
  by_cases hlt : k < xs.length
  ·obtain ⟨g,rfl,y0,y1,y2,y3,ti⟩:=(HB.out wr HW.out).item hlt
   have HA : Hid (aT l k = (fT xs[k].1).map fun f=>f.needs.length):=aT_at HL.out hlt
   obtain ⟨X,hX⟩:=xe (xs[k])
   rw [<- hX] at y0 y1 y2 y3 ti HA
   have C : Hid (Calls Tryz.prog 98 #[.agg #[.int .i64 X.1.op,.string X.1.md,.string X.1.nm,.slice X.2.a X.1.ns.length X.2.c]] wr fun e w'=>e = .returned (.int .i64 (arI (fT X.1))) /\ Bw wr w'):=v_arT wr ti
   clear ti hX
   cases hf : fT X.1 with
   | none=>
     have HF : Hid (b = false):=by
      show _ = _
      rw [<- HO.out]
      have : vld (aT l) (k + 1) = none:=by rw [vld,HV.out,HA.out,hf];rfl
      unfold okT
      rw [vld_none this (by rw [HLL.out];omega)]
      rfl
     rw [hf] at C
     have C' : Hid (Calls Tryz.prog 98 #[.agg #[.int .i64 X.1.op,.string X.1.md,.string X.1.nm,.slice X.2.a X.1.ns.length X.2.c]] wr fun e w'=>e = .returned (.int .i64 (-1)) /\ Bw wr w'):=C
     clear hf C
     go_wp2_with (first | (go_at_call 98;refine C'.out.mono ?_;rintro e w2 ⟨rfl,hb2⟩))
     go_ret
     exact ⟨by rw [HF.out];rfl,HW.out.trans (hb2.mono HW.out.size)⟩
   | some f=>
     obtain ⟨n,hn⟩:=xe (f.needs.length)
     have HS : Hid (vld (aT l) (k + 1) = if n <= m then some (m - n + 1) else none):=by show _ = _;rw [vld,HV.out,HA.out,hf,hn];rfl
     rw [hf] at C
     have C' : Hid (Calls Tryz.prog 98 #[.agg #[.int .i64 X.1.op,.string X.1.md,.string X.1.nm,.slice X.2.a X.1.ns.length X.2.c]] wr fun e w'=>e = .returned (.int .i64 (n : Int)) /\ Bw wr w'):=by rw [hn];exact C
     clear hf C HA hn
     have n0 : ¬ (n : Int) < 0:=by omega
     by_cases hnm : n <= m
     ·have HT : Hid (vld (aT l) (k + 1) = some (m - n + 1)):=by show _ = _;rw [HS.out,if_pos hnm]
      have n1 : ¬ (m : Int) < (n : Int):=by omega
      have wd : IntKind.i64.wrap ((m : Int) - (n : Int)) = (m : Int) - (n : Int):=wk (by omega)
      have wd2 : IntKind.i64.wrap ((m : Int) - (n : Int) + 1) = (m : Int) - (n : Int) + 1:=wk (by omega)
      go_wp2_with (first | (go_at_call 98;refine C'.out.mono ?_;rintro e w2 ⟨rfl,hb2⟩))
      have HW2 : Hid (Bw w w2):=HW.out.trans (hb2.mono HW.out.size)
      go_roundw
      case rel=>exact ⟨k + 1,m - n + 1,by omega,by omega,by go_num,by congr 1;omega,HT,HW2⟩
      case measure=>simp [intOf];omega
     ·have HF : Hid (b = false):=by
       show _ = _
       rw [<- HO.out]
       have : vld (aT l) (k + 1) = none:=by rw [HS.out,if_neg hnm]
       unfold okT
       rw [vld_none this (by rw [HLL.out];omega)]
       rfl
      have n1 : (m : Int) < (n : Int):=by omega
      go_wp2_with (first | (go_at_call 98;refine C'.out.mono ?_;rintro e w2 ⟨rfl,hb2⟩))
      go_ret
      exact ⟨by rw [HF.out];rfl,HW.out.trans (hb2.mono HW.out.size)⟩
  ·have hkn : k = xs.length:=by omega
   subst hkn
   have HF : Hid (b = decide (m = 1)):=by
    show _ = _
    rw [<- HO.out]
    unfold okT
    rw [HLL.out,HV.out]
    by_cases e : m = 1
    ·subst e;rfl
    ·rw [decide_eq_false e,beq_eq_false_iff_ne];exact fun z=>e (Option.some.inj z)
   by_cases e : m = 1
   ·have b1 : ((m : Int) == 1) = true:=beq_iff_eq.2 (by omega)
    have HF2 : Hid (b = true):=by show _ = _;rw [HF.out,decide_eq_true e]
    clear e
    go_wp2
    go_ret
    exact ⟨by rw [HF2.out];rfl,HW.out⟩
   ·have b1 : ((m : Int) == 1) = false:=bn2 (by omega)
    have HF2 : Hid (b = false):=by show _ = _;rw [HF.out,decide_eq_false e]
    clear e
    go_wp2
    go_ret
    exact ⟨by rw [HF2.out];rfl,HW.out⟩
end Go.Proofs.YtcehppndpccldaaGreatDoor
