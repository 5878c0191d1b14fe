/-
  VbD VbE VbF
-/
import Derived.Test.YtcehppndpccldaaGreatDoorT2
set_option maxHeartbeats 4000000
set_option maxRecDepth 100000
namespace Go.Proofs.YtcehppndpccldaaGreatDoor
open Go.RowKit
def ArT (l : List TI) (e : Nat) : Prop:=∀ j,j < e -> aT l j = some (FT l j).needs.length
theorem arI_at {l : List TI} {xs : List (TI × NPl)} (hl : xs.map Prod.fst = l) {e k : Nat} (h : ArT l e) (hk : k < e) (hx : k < xs.length) : arI (fT xs[k].1) = ((FT l k).needs.length : Int):=by
 have h1:=h k hk
 rw [aT_at hl hx] at h1
 cases hf : fT xs[k].1 with
 | none=>rw [hf] at h1;cases h1
 | some f=>
   rw [hf] at h1
   show (f.needs.length : Int) = _
   have h2 : f.needs.length = (FT l k).needs.length:=Option.some.inj h1
   rw [h2]
theorem FT_le {l : List TI} {xs : List (TI × NPl)} (hl : xs.map Prod.fst = l) (hs : ∀ x,x ∈ xs -> SzT x.1) (k : Nat) : (FT l k).needs.length <= 1048576:=by
 unfold FT
 cases h : (l[k]?).bind fT with
 | none=>exact Nat.zero_le _
 | some f=>
   obtain ⟨t,ht,hf⟩:=Option.bind_eq_some_iff.1 h
   have htx : t ∈ l:=List.mem_of_getElem? ht
   rw [<- hl] at htx
   obtain ⟨x,hx,rfl⟩:=List.mem_map.1 htx
   have hz:=(hs x hx).1
   show f.needs.length <= _
   unfold fT at hf
   refine if_some hf (fun h=>if_some h (fun h=>by cases h;exact Nat.zero_le _) none_some) fun h=>?_
   refine if_some h (fun h=>?_) none_some
   refine if_some h (fun h=>if_some h (fun h=>by cases h;rw [(brc_ok _ _ _).2.1];exact hz) none_some) fun h=>?_
   refine if_some h (fun h=>?_) none_some
   refine if_some h (fun h=>by cases h;exact Nat.zero_le _) fun h=>?_
   refine if_some h (fun h=>by cases h;exact Nat.zero_le _) fun h=>?_
   refine if_some h (fun h=>by cases h;exact Nat.zero_le _) fun h=>?_
   exact if_some h (fun h=>by cases h;show 2 <= 1048576;omega) none_some
theorem v_tstart (w : World) {v : Value} {xs : List (TI × NPl)} (h : TsA w v xs) {l : List TI} (hl : xs.map Prod.fst = l) {e : Nat} (he : e <= xs.length) (har : ArT l e) {z : Int} (hz : z = e) :
  Calls Tryz.prog 121 #[v,.int .i64 z] w fun r w'=>r = .returned (.int .i64 (back (fun i=>(FT l i).needs.length) e 1 : Nat)) /\ Bw w w':=by
 subst hz
 obtain ⟨a,c,rfl⟩:=h.form
 have HB : Hid (∀ W,Bw w W -> TsA W (.slice a xs.length c) xs):=fun W hb=>h.below hb
 have hlen:=h.len
 have HAR : Hid (∀ k (hk : k < xs.length),k < e -> arI (fT xs[k].1) = ((FT l k).needs.length : Int)):=fun k hk hke=>arI_at hl har hke hk
 have HLE : Hid (∀ k,(FT l k).needs.length <= 1048576):=FT_le hl h.sz
 obtain ⟨ar,har2⟩ : ∃ ar : Nat -> Nat,ar = fun i=>(FT l i).needs.length:=⟨_,rfl⟩
 have HARD : Hid (∀ k,(FT l k).needs.length = ar k):=fun k=>by rw [har2]
 rw [<- har2]
 obtain ⟨R,hR⟩:=xe (back ar e 1)
 have HR : Hid (back ar e 1 = R):=hR.symm
 rw [<- hR]
 clear h hl har har2 hR
 go_enter Tryz.func121,Tryz.ntmps121
 go_wp2
 go_loopw [5,6] (fun nd i wr=>∃ k m : Nat,k <= e /\ m <= 1 + (e - k) * 1048576 /\ i = .int .i64 k /\ nd = .int .i64 m /\ Hid (back ar k m = R) /\ Hid (Bw w wr)) (fun _ i _=>(intOf i).toNat)
 case atStart=>exact ⟨e,1,nlr _,by omega,rfl,rfl,HR,Below.refl _ _⟩
 case round=>
  obtain ⟨k,m,hk,hm,rfl,rfl,HV,HW⟩:=hrel
  by_cases hk0 : 0 < k
  ·by_cases hm0 : 0 < m
   ·obtain ⟨k',rfl⟩ : ∃ k',k = k' + 1:=⟨k - 1,by omega⟩
    have hx : k' < xs.length:=by omega
    obtain ⟨g,rfl,y0,y1,y2,y3,ti⟩:=(HB.out wr HW.out).item hx
    have HA:=HAR.out k' hx (by omega)
    rw [HARD.out] at HA
    have hle : ar k' <= 1048576:=by rw [<- HARD.out];exact HLE.out k'
    obtain ⟨X,hX⟩:=xe (xs[k'])
    rw [<- hX] at y0 y1 y2 y3 ti HA
    obtain ⟨n,hn⟩:=xe (ar k')
    rw [<- hn] at HA hle
    have C : Hid (Calls Tryz.prog 98 #[.agg #[.int .i64 X.1.op,.string X.1.md,.string X.1.nm,.slice X.2.a X.1.ns.length X.2.c]] wr fun e w'=>e = .returned (.int .i64 (n : Int)) /\ Bw wr w'):=by rw [<- HA];exact v_arT wr ti
    have HN : Hid (back ar k' (m - 1 + n) = R):=by
     show _ = _
     rw [<- HV.out,back,if_neg (by omega),hn]
    have hm2 : m - 1 + n <= 1 + (e - k') * 1048576:=by
     have : (e - k') * 1048576 = (e - (k' + 1)) * 1048576 + 1048576:=by
      rw [show e - k' = (e - (k' + 1)) + 1 by omega,Nat.add_mul,Nat.one_mul]
     omega
    have hmb : m <= 2000000000000:=by
     have : (e - (k' + 1)) * 1048576 <= 1048576 * 1048576:=Nat.mul_le_mul_right _ (by omega)
     omega
    have kp : (0 : Int) < (k' : Int) + 1:=by omega
    have mp : (0 : Int) < (m : Int):=by omega
    have w1 : IntKind.i64.wrap ((k' : Int) + 1 - 1) = (k' : Int):=wk (by omega)
    have w1' : IntKind.i64.wrap (k' : Int) = (k' : Int):=wk (by omega)
    have w2 : IntKind.i64.wrap ((m : Int) - 1) = (m : Int) - 1:=wk (by omega)
    have w3 : IntKind.i64.wrap ((m : Int) - 1 + (n : Int)) = (m : Int) - 1 + (n : Int):=wk (by omega)
    have hxl : (k' : Int) < (xs.length : Int):=by omega
    have hx0 : (0 : Int) <= (k' : Int):=by omega
    clear ti hX HA hn hm
    go_wp2_with (first | (go_at_call 98;refine C.out.mono ?_;rintro e w2 ⟨rfl,hb2⟩))
    have HW2 : Hid (Bw w w2):=HW.out.trans (hb2.mono HW.out.size)
    clear hb2
    go_roundw
    case rel=>exact ⟨k',m - 1 + n,by omega,hm2,by first | rfl | (congr 1;omega) | go_num,by congr 1;omega,HN,HW2⟩
    case measure=>simp [intOf]
   ·have hm1 : m = 0:=by omega
    subst hm1
    have HF : Hid (R = k):=by show _ = _;rw [<- HV.out,back_zero]
    have kp : (0 : Int) < (k : Int):=by omega
    go_wp2
    go_ret
    exact ⟨by rw [HF.out];rfl,HW.out⟩
  ·have hk1 : k = 0:=by omega
   subst hk1
   have HF : Hid (R = 0):=by show _ = _;rw [<- HV.out];rfl
   go_wp2
   go_ret
   exact ⟨by rw [HF.out];rfl,HW.out⟩
theorem below_grown2 {B : Nat} {w wr w5 : World} {o : Obj} {row : Option Nat} (h : Below B w wr) (hg : (wr.alloc o).grownBy w5 row) (hr : ∀ b,row = some b -> B <= b) (hB : B <= wr.heap.size:=by omega) : Below B w w5:=
 (h.alloc hB o).grown hg (by simp only [World.size_alloc];omega) hr
def itB (a : Nat -> Nat) : Nat -> Nat -> Nat
 | 0,at_=>at_
 | i + 1,at_=>back a (itB a i at_) 1
theorem itB_succ (a : Nat -> Nat) : ∀ i at_,itB a i (back a at_ 1) = itB a (i + 1) at_
 | 0,_=>rfl
 | i + 1,at_=>by rw [itB,itB_succ a i];rfl
theorem pts_cons (a : Nat -> Nat) : ∀ i at_,pts a (i + 1) at_ = itB a i at_ :: pts a i at_
 | 0,_=>rfl
 | i + 1,at_=>by
   rw [pts,pts_cons a i (back a at_ 1),itB_succ]
   rfl
theorem pts_len (a : Nat -> Nat) : ∀ i at_,(pts a i at_).length = i
 | 0,_=>rfl
 | i + 1,at_=>by rw [pts,lap,pts_len a i];rfl
theorem itB_le (a : Nat -> Nat) : ∀ i at_,itB a i at_ <= at_
 | 0,_=>nlr _
 | i + 1,at_=>Nat.le_trans (back_le a _ _) (itB_le a i at_)
def inC (es : List Nat) : List Value:=es.flatMap fun e : Nat=>[Value.int .i64 (e : Int)]
theorem inC_snoc (es : List Nat) (e : Nat) : inC (es ++ [e]) = inC es ++ [.int .i64 (e : Int)]:=by simp [inC]
theorem inC_len (e : Nat) : ([Value.int .i64 (e : Int)]).length = 1:=rfl
theorem Tryz.infoInt : (Tryz.prog.info? 3).map (fun i=>(i.zero,i.size,i.bytes)) = some (some (.int .i64 0),1,8):=by kernel_rfl
theorem own_int {B : Nat} {w : World} {v : Value} {es : List Nat} (h : w.ownsRow B 3 1 v es.length (inC es)) {g : Nat} (hg : v.ownBlock = some g) {j : Nat} (hj : j < es.length) : w.cell? ⟨g,j,none⟩ = some (.int .i64 (es[j] : Int)):=by
 have:=own_at (f:=fun e : Nat=>[Value.int .i64 (e : Int)]) inC_len h hg (j:=j) (r:=0) hj (by omega) rfl
 rw [Nat.mul_one,Nat.add_zero] at this
 exact this
theorem v_tparts (w : World) {v : Value} {xs : List (TI × NPl)} (h : TsA w v xs) {l : List TI} (hl : xs.map Prod.fst = l) {e : Nat} (he : e < xs.length) (har : ArT l (e + 1)) {z : Int} (hz : z = ((e + 1 : Nat) : Int)) :
  Calls Tryz.prog 101 #[v,.int .i64 z] w fun r w'=>∃ va cp,r = .returned (.slice va (FT l e).needs.length cp) /\ w'.ownsRow w.heap.size 3 1 (.slice va (FT l e).needs.length cp) (FT l e).needs.length (inC (pts (fun i=>(FT l i).needs.length) (FT l e).needs.length e)) /\ Bw w w':=by
 subst hz
 rw [show ((e + 1 : Nat) : Int) = (e : Int) + 1 by omega]
 obtain ⟨a,c,rfl⟩:=h.form
 obtain ⟨i0,hi0,hz0,hz1,hz2⟩:=info_parts Tryz.infoInt
 have hlen:=h.len
 have HIT : Hid (∀ W,Bw w W -> ∃ g,a = some ⟨g,0,none⟩ /\ W.cell? ⟨g,e * 4,none⟩ = some (Value.int .i64 xs[e].1.op) /\ W.cell? ⟨g,e * 4 + 1,none⟩ = some (Value.string xs[e].1.md) /\ W.cell? ⟨g,e * 4 + 2,none⟩ = some (Value.string xs[e].1.nm) /\ W.cell? ⟨g,e * 4 + 3,none⟩ = some (Value.slice xs[e].2.a xs[e].1.ns.length xs[e].2.c) /\ Hid (Calls Tryz.prog 98 #[.agg #[.int .i64 xs[e].1.op,.string xs[e].1.md,.string xs[e].1.nm,.slice xs[e].2.a xs[e].1.ns.length xs[e].2.c]] W fun r w'=>r = .returned (.int .i64 ((FT l e).needs.length : Int)) /\ Hid (Bw W w'))):=fun W hb=>by
  obtain ⟨g,r1,y0,y1,y2,y3,ti⟩:=(h.below hb).item he
  refine ⟨g,r1,y0,y1,y2,y3,?_⟩
  have:=v_arT W ti
  rw [arI_at hl har (Nat.lt_succ_self _) he] at this
  exact this
 have HST : Hid (∀ (W : World) (k : Nat) (z : Int),Bw w W -> k <= e -> z = k -> Calls Tryz.prog 121 #[.slice a xs.length c,.int .i64 z] W fun r w'=>r = .returned (.int .i64 (back (fun i=>(FT l i).needs.length) k 1 : Nat)) /\ Bw W w'):=fun W k z hb hk hz=>v_tstart W (h.below hb) hl (by omega) (fun j hj=>har j (by omega)) hz
 obtain ⟨X,hX⟩:=xe (xs[e])
 obtain ⟨n,hn⟩:=xe ((FT l e).needs.length)
 have hnb : n <= 1048576:=by rw [hn];exact FT_le hl h.sz e
 obtain ⟨ar,har2⟩ : ∃ ar : Nat -> Nat,ar = fun i=>(FT l i).needs.length:=⟨_,rfl⟩
 rw [<- har2] at HST
 rw [<- hX,<- hn] at HIT
 rw [<- hn,<- har2]
 have ST : Hid ((w.alloc (.cells #[] 3)).ownsRow w.heap.size 3 1 (.slice (some ⟨w.heap.size,0,none⟩) 0 0) 0 (inC (pts ar 0 e))):=World.ownsRow_lit (e:=3) (size:=1) w #[] 0 (nlr _) (by unfold maxLen;omega) (by rfl)
 clear h hl har har2 hn hX
 go_enter Tryz.func101,Tryz.ntmps101
 have we1 : IntKind.i64.wrap ((e : Int) + 1 - 1) = (e : Int):=wk (by omega)
 have we2 : IntKind.i64.wrap (e : Int) = (e : Int):=wk (by omega)
 have hel : (e : Int) < (xs.length : Int):=by omega
 have he0 : (0 : Int) <= (e : Int):=by omega
 go_wp2
 go_loopw [5,6,7,8,9] (fun o at_ i _ _ wr=>∃ (k : Nat) (oa : Option Addr) (oc : Nat),k <= n /\ i = .int .i64 k /\ at_ = .int .i64 (itB ar k e : Nat) /\ o = .slice oa k oc /\ Hid (wr.ownsRow w.heap.size 3 1 (.slice oa k oc) k (inC (pts ar k e))) /\ Hid (Bw w wr)) (fun _ _ i _ _ _=>n - (intOf i).toNat)
 case atStart=>exact ⟨0,_,_,Nat.zero_le _,rfl,by first | rfl | (simp [itB]),rfl,ST,bel1 _ _⟩
 case round=>
  clear ST
  obtain ⟨k,oa,oc,hk,rfl,rfl,rfl,HO,HW⟩:=hrel
  obtain ⟨g,rfl,y0,y1,y2,y3,CA⟩:=HIT.out wr HW.out
  obtain ⟨tt,htt⟩:=xe (itB ar k e)
  have hte : tt <= e:=by rw [htt];exact itB_le _ _ _
  have HTT : Hid (itB ar k e = tt):=htt.symm
  rw [<- htt]
  clear htt
  by_cases hlt : k < n
  ·have lk : (k : Int) < (n : Int):=by omega
   go_wp2_with fail
   refine CA.out.mono ?_
   rintro r w2 ⟨rfl,HW2⟩
   have HW2' : Hid (Bw w w2):=HW.out.trans (HW2.out.mono HW.out.size)
   have HO2 : Hid (w2.ownsRow w.heap.size 3 1 (.slice oa k oc) k (inC (pts ar k e))):=own_block HO.out (fun b e=>HW2.out.block b (HO.out.lt b e.symm).2)
   have hw2:=HW2'.out.size
   have ST2 : Hid ((w2.alloc (.cells #[.int .i64 (tt : Int)] 3)).ownsRow w2.heap.size 3 1 (.slice (some ⟨w2.heap.size,0,none⟩) 1 1) (0 + 1) (inC (tt :: (pts ar k e).take 0))):=by
    have:=World.ownsRow_lit (e:=3) (size:=1) w2 #[.int .i64 (tt : Int)] 1 (nlr _) (by unfold maxLen;omega) (by rfl)
    exact this
   clear CA HW2 y0 y1 y2 y3
   go_wp2
   go_loopw [8,9] (fun nx j wr=>∃ (m : Nat) (na : Option Addr) (nc : Nat),m <= k /\ j = .int .i64 m /\ nx = .slice na (m + 1) nc /\ Hid (wr.ownsRow w2.heap.size 3 1 (.slice na (m + 1) nc) (m + 1) (inC (tt :: (pts ar k e).take m))) /\ Hid (Bw w2 wr)) (fun _ j _=>k - (intOf j).toNat)
   case atStart=>exact ⟨0,_,_,Nat.zero_le _,rfl,rfl,ST2,bel1 _ _⟩
   case round=>
    rename World=>wi
    clear ST2
    obtain ⟨m,na,nc,hm,rfl,rfl,HN,HB2⟩:=hrel
    have hwi:=HB2.out.size
    by_cases hmk : m < k
    ·have HOi : Hid (wi.ownsRow w.heap.size 3 1 (.slice oa k oc) k (inC (pts ar k e))):=own_block HO2.out (fun b e=>HB2.out.block b (HO2.out.lt b e.symm).2)
     obtain ⟨go,gc,ev,_⟩:=own_blk HOi.out (show 0 < k by omega)
     simp only [Value.slice.injEq] at ev
     obtain ⟨rfl,-,rfl⟩:=ev
     have hpl:=pts_len ar k e
     have cm : wi.cell? ⟨go,m,none⟩ = some (.int .i64 ((pts ar k e)[m]'(by omega) : Nat)):=own_int (es:=pts ar k e) (by rw [hpl];exact HOi.out) rfl (by omega)
     obtain ⟨x,hx⟩:=xe ((pts ar k e)[m]'(by omega))
     rw [<- hx] at cm
     have HTK : Hid ((pts ar k e).take (m + 1) = (pts ar k e).take m ++ [x]):=by
      show _ = _
      rw [List.take_add_one,List.getElem?_eq_getElem (by omega),hx];rfl
     clear hpl hx
     go_wp2_with (first | (at_builtin;refine wpList_append_lies _ rfl _ _ 126 rfl w2.heap.size 3 i0 _ 1 8 Tryz.underlying126 hi0 hz0 hz1 hz2 rfl (by omega) (.slice na (m + 1) nc) (m + 1) (inC (tt :: (pts ar k e).take m)) rfl (HN.out.alloc _) ⟨wi.heap.size,0,none⟩ 1 1 [.int .i64 (x : Int)] rfl rfl (World.news_of_block (cs:=#[.int .i64 (x : Int)]) (t:=3) (fr:=(0,0)) (heap_alloc_new wi _)) (by simp [Value.oneCell']) (by omega) (by unfold maxLen;omega) (by omega) (by simp only [World.size_alloc];omega) (wi.heap.size + 1) (by simp) ?_;intro gg cap3 w5 hown3 hg3 hat3 hlt3))
     have HN5 : Hid (Bw w2 w5):=below_grown2 HB2.out hg3 (fun b e=>(HN.out.lt b e).1)
     refine ⟨⟨m + 1,_,_,by omega,by go_num,rfl,?_,HN5⟩,by simp [intOf];omega⟩
     show World.ownsRow _ _ _ _ _ _ _
     rw [HTK.out,show tt :: ((pts ar k e).take m ++ [x]) = (tt :: (pts ar k e).take m) ++ [x] from rfl,inC_snoc]
     exact hown3
    ·have hmk2 : m = k:=by omega
     subst hmk2
     have HF : Hid (wi.ownsRow w.heap.size 3 1 (.slice na (m + 1) nc) (m + 1) (inC (pts ar (m + 1) e))):=by
      have:=HN.out
      rw [List.take_of_length_le (by rw [pts_len];exact nlr _),<- HTT.out,<- pts_cons] at this
      exact own_mono this (by omega)
     have HWi : Hid (Bw w wi):=HW2'.out.trans (HB2.out.mono hw2)
     have CS:=HST.out wi tt (tt : Int) HWi.out hte rfl
     have HBK : Hid (back ar tt 1 = itB ar (m + 1) e):=by show _ = _;rw [<- HTT.out];rfl
     clear HN
     go_wp2_with (first | (go_at_call 121;refine CS.mono ?_;rintro r w6 ⟨rfl,hb6⟩))
     have HF6 : Hid (w6.ownsRow w.heap.size 3 1 (.slice na (m + 1) nc) (m + 1) (inC (pts ar (m + 1) e))):=own_block HF.out (fun b e=>hb6.block b (HF.out.lt b e.symm).2)
     have HW6 : Hid (Bw w w6):=HWi.out.trans (hb6.mono HWi.out.size)
     clear hb6
     go_roundw
     case rel=>exact ⟨m + 1,na,nc,by omega,by go_num,by rw [HBK.out],rfl,HF6,HW6⟩
     case measure=>simp [intOf];omega
  ·have hkn : k = n:=by omega
   subst hkn
   have lk : ¬ (k : Int) < (k : Int):=by omega
   go_wp2_with fail
   refine CA.out.mono ?_
   rintro r w2 ⟨rfl,HW2⟩
   have HW2' : Hid (Bw w w2):=HW.out.trans (HW2.out.mono HW.out.size)
   have HO2 : Hid (w2.ownsRow w.heap.size 3 1 (.slice oa k oc) k (inC (pts ar k e))):=own_block HO.out (fun b e=>HW2.out.block b (HO.out.lt b e.symm).2)
   go_wp2
   go_ret
   exact ⟨_,_,rfl,HO2.out,HW2'.out⟩
end Go.Proofs.YtcehppndpccldaaGreatDoor
namespace Go.Proofs.YtcehppndpccldaaGreatDoor
def recL (sign : ByteArray) (ns : List ByteArray) (P : Nat -> ByteArray) : Nat -> ByteArray
 | 0=>xO
 | i + 1=>((if 0 < i then recL sign ns P i ++ xCm else recL sign ns P i) ++ ns.getD i e0) ++ sign ++ P i
theorem brk0 (p : Wh) : brk 0 p = p.1:=by unfold brk;rw [if_neg (Nat.not_lt_zero _)]
theorem arnd_br (sign ah : ByteArray) (n : ByteArray) (ns : List ByteArray) (p : Wh) (ps : List Wh) : arnd (List.replicate (n :: ns).length 0) (brT sign ah (n :: ns)) (p :: ps) = ah ++ n ++ sign ++ p.1 ++ arnd (List.replicate ns.length 0) (brT sign xCm ns) ps:=by
 rw [List.length_cons,List.replicate_succ,brT,arnd,brk0]
theorem rec_at {sign : ByteArray} {ns : List ByteArray} {ps : List Wh} (hl : ps.length = ns.length) : ∀ i,i < ns.length -> arnd (List.replicate ns.length 0) (brT sign xO ns) ps = recL sign ns (fun i=>(ps.getD i (e0,0)).1) (i + 1) ++ arnd (List.replicate (ns.drop (i + 1)).length 0) (brT sign xCm (ns.drop (i + 1))) (ps.drop (i + 1))
 | 0,h=>by
   cases ns with
   | nil=>simp at h
   | cons n ns=>
     cases ps with
     | nil=>simp at hl
     | cons p ps=>
       rw [arnd_br]
       rfl
 | i + 1,h=>by
   rw [rec_at hl i (by omega)]
   have h2 : i + 1 < ps.length:=by omega
   rw [List.drop_eq_getElem_cons h,List.drop_eq_getElem_cons h2,arnd_br]
   have e2 : recL sign ns (fun i=>(ps.getD i (e0,0)).1) (i + 1 + 1) = ((recL sign ns (fun i=>(ps.getD i (e0,0)).1) (i + 1) ++ xCm) ++ ns.getD (i + 1) e0) ++ sign ++ (ps.getD (i + 1) (e0,0)).1:=by rw [recL,if_pos (Nat.succ_pos _)]
   have e3 : ns.getD (i + 1) e0 = ns[i + 1]:=by rw [List.getD_eq_getElem?_getD,List.getElem?_eq_getElem h,Option.getD_some]
   rw [e2,e3]
   have e : (ps.getD (i + 1) (e0,0)).1 = ps[i + 1].1:=by rw [List.getD_eq_getElem?_getD,List.getElem?_eq_getElem h2,Option.getD_some]
   rw [e]
   simp only [ByteArray.append_assoc]
theorem rec_all {sign : ByteArray} {ns : List ByteArray} {ps : List Wh} (lev : Nat) (hl : ps.length = ns.length) : arnd (brc ns sign lev).needs (brc ns sign lev).texts ps = recL sign ns (fun i=>(ps.getD i (e0,0)).1) ns.length ++ xC:=by
 unfold brc
 by_cases h : ns.length = 0
 ·rw [if_pos h,h]
  rfl
 ·rw [if_neg h]
  obtain ⟨n,hn⟩ : ∃ n,ns.length = n + 1:=⟨ns.length - 1,by omega⟩
  have:=rec_at (sign:=sign) hl n (by omega)
  show arnd (List.replicate ns.length 0) (brT sign xO ns) ps = _
  rw [this,hn,List.drop_of_length_le (by omega),List.drop_of_length_le (by omega)]
  rfl
theorem rec_size {sign : ByteArray} {ns : List ByteArray} {ps : List Wh} (lev : Nat) (hl : ps.length = ns.length) {i : Nat} (hi : i <= ns.length) : (recL sign ns (fun i=>(ps.getD i (e0,0)).1) i).size <= (arnd (brc ns sign lev).needs (brc ns sign lev).texts ps).size:=by
 rw [rec_all lev hl,bsa]
 have mono : ∀ j k,j <= k -> (recL sign ns (fun i=>(ps.getD i (e0,0)).1) j).size <= (recL sign ns (fun i=>(ps.getD i (e0,0)).1) k).size:=by
  intro j k hjk
  induction k with
  | zero=>have : j = 0:=by omega
          subst this;exact nlr _
  | succ k ih=>
    by_cases e : j = k + 1
    ·rw [e];exact nlr _
    ·have:=ih (by omega)
     rw [recL,bsa,bsa,bsa]
     split
     ·rw [bsa];omega
     ·omega
 have:=mono i ns.length hi
 omega
theorem pts_mem {a : Nat -> Nat} {e n : Nat} (hv : Vk a e) (hn : n <= (en a e).length) {p : Nat} (hp : p ∈ pts a n e) : 0 < p /\ p <= e:=by
 rw [pts_en n e hv hn] at hp
 obtain ⟨j,hj,rfl⟩:=List.mem_iff_getElem.1 (List.mem_of_mem_drop hp)
 exact (en_pre hv (List.getElem?_eq_getElem hj)).2
theorem pw_at {l : List TI} {e : Nat} {t : TI} {f : Fm} (ht : l[e]? = some t) (hf : fT t = some f) (hv : Vk (fun i=>(FT l i).needs.length) (e + 1)) : pw (FT l) (e + 1) = (arnd f.needs f.texts ((pts (fun i=>(FT l i).needs.length) f.needs.length e).map (pw (FT l))),f.lev):=by
 have hF : FT l e = f:=by unfold FT;rw [ht];show (fT t).getD fm0 = f;rw [hf];rfl
 rw [pw_eq hv,hF]
theorem if_some2 {c : Prop} [Decidable c] {x y : Option Fm} {f : Fm} {P : Prop} (h : (if c then x else y) = some f) (h1 : c -> x = some f -> P) (h2 : ¬ c -> y = some f -> P) : P:=by
 split at h
 case isTrue z=>exact h1 z h
 case isFalse z=>exact h2 z h
theorem lev_fT {t : TI} {f : Fm} (h : fT t = some f) : (f.lev < 1) ↔ t.op = 6:=by
 unfold fT at h
 have no : ∀ {g : Fm},g.lev = 1 -> t.op ≠ 6 -> some g = some f -> ((f.lev < 1) ↔ t.op = 6):=fun h1 h2 e=>by
  cases e
  exact ⟨fun z=>by omega,fun z=>absurd z h2⟩
 refine if_some2 h (fun z h=>if_some h (no rfl (by omega)) none_some) fun z4 h=>?_
 refine if_some h (fun h=>?_) none_some
 refine if_some2 h (fun z h=>if_some h (no (brc_ok _ _ _).2.2 (by omega)) none_some) fun z5 h=>?_
 refine if_some h (fun h=>?_) none_some
 refine if_some2 h (fun z h=>no rfl (by omega) h) fun z1 h=>?_
 refine if_some2 h (fun z h=>no rfl (by omega) h) fun z2 h=>?_
 refine if_some2 h (fun z h=>no rfl (by omega) h) fun z3 h=>?_
 refine if_some2 h (fun z h=>?_) fun _ h=>none_some h
 cases h
 exact ⟨fun _=>z,fun _=>Nat.zero_lt_one⟩
end Go.Proofs.YtcehppndpccldaaGreatDoor
