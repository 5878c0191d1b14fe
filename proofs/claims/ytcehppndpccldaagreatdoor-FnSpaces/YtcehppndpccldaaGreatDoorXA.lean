/-
  PgZ
-/
import Derived.Test.YtcehppndpccldaaGreatDoorX7
import Derived.Test.YtcehppndpccldaaGreatDoorUH
import Derived.Test.YtcehppndpccldaaGreatDoorX9
set_option maxHeartbeats 4000000
set_option maxRecDepth 100000
namespace Go.Proofs.YtcehppndpccldaaGreatDoor
open Go.RowKit
def SModR (w : World) (ds : List DC) (e : Ending) (w' : World) : Prop:=Bw w w' /\ ∃ v xs,e = .returned (.agg #[v]) /\ RD w.heap.size w' v xs /\ xs.map Prod.fst = ds
theorem isT_semi {ts : List TK} {i : Nat} (hi : i < ts.length) : isT ts i sSemi = ((tkA ts i).txt.toList == [59]):=by
 unfold isT
 rw [List.getElem?_eq_getElem hi,tkA_get hi,ByteArray.toList_eq]
 rfl
theorem ret_md {f : Func} {k : Nat} (hf : f.results = #[.cell k 24]) {V : World} {X : Nat} {a : Value} (c0 : V.cell? ⟨X,0,none⟩ = some a) (tmps : Array Value) (h : tmps[k]?.getD undef = .pointer (some ⟨X,0,none⟩)) :
  (results f tmps).run Tryz.prog V = .ok (.agg #[a]) V:=by
 unfold results
 rw [hf]
 simp [go_sem,h,c0]
theorem below_set1 {w w1 : World} (h : Bw w w1) (a : Value) : Bw w (w1.setCell ⟨w.heap.size,0,none⟩ a):=
 ⟨h.os,h.tape,h.output,by rw [World.size_setCell];exact h.size,fun k hk=>by
  rw [Below.heap_setCell _ _ _ _ (by show k ≠ w.heap.size;omega)]
  exact h.block k hk⟩
theorem RD.kp {t : TypeId} {B : Nat} {w w' : World} {v : Value} {xs : List (DC × DPl)} (h : RD B w v xs) (hk : Kp t w w') (h3 : 46 ≠ t) (h0 : 70 ≠ t) (h1 : 99 ≠ t) (h2 : 9 ≠ t) : RD B w' v xs:=⟨own_kp h.own hk h3,fun x hx=>(h.ok x hx).kp hk h0 h1 h2⟩
theorem RD.mono {B B' : Nat} {w : World} {v : Value} {xs : List (DC × DPl)} (h : RD B w v xs) (hb : B' <= B) : RD B' w v xs:=⟨own_mono h.own hb,fun x hx=>(h.ok x hx).mono hb⟩
structure QLoop (w3 : World) (ts : List TK) (p k : Nat) (v : Value) (xs : List (DC × DPl)) (wr : World) : Prop where
 below : Bw w3 wr
 own : RD w3.heap.size wr v xs
 le : p <= k /\ k <= ts.length
 no : ∀ j,p <= j -> j < k -> isT ts j sSemi = false
 is : xs.map Prod.fst ++ decs false ((ts.drop p).length + 1) (ts.drop p) = decs false (ts.length + 1) ts
 few : xs.length <= p
theorem QLoop.semi {w3 : World} {ts : List TK} {p k : Nat} {v : Value} {xs : List (DC × DPl)} {wr : World} (h : QLoop w3 ts p k v xs wr) (hk : k < ts.length) (hs : isT ts k sSemi = true) : decs false ((ts.drop p).length + 1) (ts.drop p) = declP false ((ts.drop p).take (k - p)) :: decs false ((ts.drop (k + 1)).length + 1) (ts.drop (k + 1)):=by
 have hl:=h.le
 have hd : (ts.drop p).length = ts.length - p:=List.length_drop
 have e : Go.Proofs.YtcehppndpccldaaGreatDoor.semi (ts.drop p) = some (k - p):=semi_some (by omega) (by
  rw [tkA_drop (by omega),show p + (k - p) = k by omega,<- isT_semi hk];exact hs) (fun j hj=>by
  rw [tkA_drop (by omega),<- isT_semi (by omega)];exact h.no _ (by omega) (by omega))
 rw [decs_some (by omega) e,List.drop_drop,show p + (k - p + 1) = k + 1 by omega]
theorem QLoop.rest {w3 : World} {ts : List TK} {p : Nat} {v : Value} {xs : List (DC × DPl)} {wr : World} (h : QLoop w3 ts p ts.length v xs wr) : decs false ((ts.drop p).length + 1) (ts.drop p) = if p < ts.length then [dBad] else []:=by
 have hd : (ts.drop p).length = ts.length - p:=List.length_drop
 by_cases hp : p < ts.length
 ·rw [if_pos hp]
  refine decs_none (fun e=>by rw [e] at hd;simp at hd;omega) (semi_none fun j hj=>?_)
  rw [tkA_drop hj,<- isT_semi (by omega)]
  exact h.no _ (by omega) (by omega)
 ·rw [if_neg hp]
  have : ts.drop p = []:=List.length_eq_zero_iff.1 (by omega)
  rw [this,decs_nil]
theorem s_parse (s : ByteArray) (w : World) (hs : s.size <= 9223372036854775807) :
  Calls Tryz.prog 7 #[.string s] w (SModR w (decs false ((toks s).length + 1) (toks s))):=by
 obtain ⟨i0,hi0,hz0,hz1,hz2⟩:=info_parts Tryz.infoDC
 obtain ⟨W1,hW1⟩:=xe (w.alloc (.cells #[.slice none 0 0] 24))
 have HB1 : Hid (Bw w W1):=by rw [hW1];exact bel1 _ _
 have RX : W1.rowIs w.heap.size 24 1 (fun _=>.slice none 0 0):=by rw [hW1];exact row1 _ _ _
 have HX : Hid (W1.rowIs w.heap.size 24 1 (fun _=>.slice none 0 0)):=RX
 have C5 : Hid (Calls Tryz.prog 17 #[.string s] W1 fun e w'=>∃ v,e = .returned v /\ Own W1 w' v (toks s)):=c5 s W1 hs
 clear RX
 go_enter Tryz.func7,Tryz.ntmps7
 go_wp2_with fail
 rw [<- hW1]
 clear hW1
 refine C5.out.mono ?_
 rintro e w3 ⟨v0,rfl,hO⟩
 have hl:=toks_len s
 obtain ⟨ao,c,rfl⟩:=own_form hO.own
 obtain ⟨tb,hms⟩ : ∃ tb,MS w3 tb 0 ao (toks s):=by
  by_cases hp : 0 < (toks s).length
  ·obtain ⟨g,c',e,_⟩:=own_blk hO.own hp
   cases e
   exact ⟨g,TkAt.of_own hO,fun _=>rfl⟩
  ·exact ⟨0,⟨fun j hj=>absurd hj (by omega),fun j hj=>absurd hj (by omega),fun j hj=>absurd hj (by omega),by omega,fun j hj=>absurd hj (by omega),fun j hj=>absurd hj (by omega)⟩,fun z=>absurd z hp⟩
 obtain ⟨ts,hts⟩:=xe (toks s)
 rw [<- hts] at hO hl hms ⊢
 have HOK : Hid (TkOK ts):=by rw [hts];exact toks_ok s
 have HTS : Hid (toks s = ts):=hts.symm
 clear hts
 have hb:=hO.below
 have HB3 : Hid (Bw w w3):=HB1.out.trans (hb.mono HB1.out.size)
 have HX3 : Hid (w3.rowIs w.heap.size 24 1 (fun _=>.slice none 0 0)):=HX.out.of_block (hb.block _ HX.out.lt)
 have hcap : ts.length <= c /\ c <= 9223372036854775807:=by
  rcases hO.own.2 with ⟨e,z⟩ | ⟨g,cap,cur,e,_,_,h5,h6,_⟩
  ·simp only [Value.slice.injEq] at e;omega
  ·simp only [Value.slice.injEq] at e;unfold maxLen at h6;omega
 have HMW : Hid (∀ W,Bw w3 W -> MS W tb 0 ao ts):=fun W hb=>hms.below hb
 have ST : Hid (QLoop w3 ts 0 0 (.slice (some ⟨w3.heap.size,0,none⟩) 0 0) [] (w3.alloc (.cells #[] 46))):=
  ⟨bel1 _ _,⟨World.ownsRow_lit (e:=46) (size:=4) w3 #[] 0 (nlr _) (by unfold maxLen;omega) (by rfl),fun x hx=>by cases hx⟩,⟨nlr _,Nat.zero_le _⟩,fun j _ hj=>absurd hj (Nat.not_lt_zero _),by simp,nlr _⟩
 have hl3:=HX3.out.lt
 clear hO hb hms HX HB1 C5
 go_wp2
 go_loopw [4,5,6] (fun v f i wr=>∃ (k p : Nat) (xs : List (DC × DPl)),i = .int .i64 (k : Int) /\ f = .int .i64 (p : Int) /\ Hid (QLoop w3 ts p k v xs wr)) (fun _ _ i _=>ts.length - (intOf i).toNat)
 case atStart=>exact ⟨0,0,[],rfl,rfl,ST⟩
 case round=>
  clear ST
  obtain ⟨k,p,xs,rfl,rfl,HQ⟩:=hrel
  obtain ⟨va,vc,hv⟩:=own_form HQ.out.own.own
  subst hv
  have hle:=HQ.out.le
  have hfew:=HQ.out.few
  have hws:=HQ.out.below.size
  have HM : Hid (MS wr tb 0 ao ts):=HMW.out wr HQ.out.below
  by_cases hlt : k < ts.length
  case pos=>
   cases hsm : isT ts k sSemi
   case false=>
    go_wp2_with fail
    refine (m_isb HM.out (i:=k) rfl (l:=sSemi) hsm rfl (by decide)).mono ?_
    rintro e w' ⟨rfl,rfl⟩
    have HN : Hid (QLoop w3 ts p (k + 1) (.slice va xs.length vc) xs wr):=⟨HQ.out.below,HQ.out.own,by omega,fun j h1 h2=>by
     by_cases e : j = k
     ·rw [e];exact hsm
     ·exact HQ.out.no j h1 (by omega),HQ.out.is,HQ.out.few⟩
    clear hsm
    go_wp2
    exact ⟨⟨k + 1,p,xs,by go_num,rfl,HN⟩,by simp [intOf];omega⟩
   case true=>
    go_wp2_with fail
    refine (m_isb HM.out (i:=k) rfl (l:=sSemi) hsm rfl (by decide)).mono ?_
    rintro e w' ⟨rfl,rfl⟩
    have gp : ¬ (p : Int) < 0:=by omega
    have gk : (k : Int) <= (c : Int):=by omega
    have gpk : (p : Int) <= (k : Int):=by omega
    have eao:=HM.out.at_ (by omega)
    subst eao
    have C : Hid (Calls Tryz.prog 24 #[.slice (some ⟨tb,p * 3,none⟩) (k - p) (c - p)] wr fun e w'=>∃ (q : DPl) (dk : Int) (dn : ByteArray) (ta : Option Addr) (tn tc : Nat) (ea : Option Addr) (en ec : Nat),e = .returned (.agg #[.int .i64 dk,.string dn,.slice ta tn tc,.slice ea en ec]) /\ Hid (dcC (declP false ((ts.drop p).take (k - p)),q) = [.int .i64 dk,.string dn,.slice ta tn tc,.slice ea en ec]) /\ Hid (RdOK wr.heap.size w' (declP false ((ts.drop p).take (k - p))) q) /\ Hid (Bw wr w')):=by
     have hl' : ((ts.drop p).take (k - p)).length = k - p:=by rw [List.length_take,List.length_drop];omega
     have ms : MS wr tb (p * 3) (some ⟨tb,p * 3,none⟩) ((ts.drop p).take (k - p)):=⟨by have:=(HM.out.tk.drop p).take (k - p);rw [Nat.zero_add] at this;exact this,fun _=>rfl⟩
     have:=m_decl (c:=c - p) ((HOK.out.drop p).take (k - p)) wr ms
     rw [hl'] at this
     refine this.mono ?_
     rintro e w' ⟨hb,q,rfl,hok⟩
     obtain ⟨ta,tc,e1⟩:=own_form hok.ty.own
     obtain ⟨ea,ec,e2⟩:=own_form hok.ex.own
     refine ⟨q,_,_,ta,_,tc,ea,_,ec,by unfold dV;rw [e1,e2],by show dcC _ = _;unfold dcC;rw [e1,e2],hok,hb⟩
    have HSE:=HQ.out.semi hlt hsm
    have HSM : Hid (decs false ((ts.drop p).length + 1) (ts.drop p) = declP false ((ts.drop p).take (k - p)) :: decs false ((ts.drop (k + 1)).length + 1) (ts.drop (k + 1))):=HSE
    clear hsm HSE
    go_wp2_with (first | (go_at_call 24;refine C.out.mono ?_;rintro e w2 ⟨q,dk,dn,ta,tn,tc,ea,en,ec,rfl,HC,HK,HB2⟩;have HO2 : Hid (RD w3.heap.size w2 (.slice va xs.length vc) xs):=HQ.out.own.below HB2.out;have hw2:=HB2.out.size) | (at_builtin;refine wpList_append_lies _ rfl _ _ 22 rfl w3.heap.size 46 i0 _ 4 72 Tryz.underlying22 hi0 hz0 hz1 hz2 rfl (by omega) (.slice va xs.length vc) xs.length (dcsC xs) rfl (HO2.out.own.alloc _) ⟨w2.heap.size,0,none⟩ 1 1 [.int .i64 dk,.string dn,.slice ta tn tc,.slice ea en ec] rfl rfl (World.news_of_block (cs:=#[.int .i64 dk,.string dn,.slice ta tn tc,.slice ea en ec]) (t:=46) (fr:=(0,0)) (heap_alloc_new w2 _)) (by simp [Value.oneCell']) (by omega) (by unfold maxLen;omega) (by omega) (by simp;omega) (w2.heap.size + 1) (by simp) ?_;intro gg cap3 w5 hown3 hg3 hat3 hlt3))
    have B2 : Bw w3 w2:=HQ.out.below.trans (HB2.out.mono hws)
    have NX:=HO2.out.push (x:=(declP false ((ts.drop p).take (k - p)),q)) (by rw [HC.out];exact hown3) hg3 (HK.out.mono hws)
    refine ⟨⟨k + 1,k + 1,xs ++ [(declP false ((ts.drop p).take (k - p)),q)],by go_num,by go_num,?_⟩,by simp [intOf];omega⟩
    exact ⟨below_grown B2 hg3 (fun b e=>(HO2.out.own.lt b e).1),NX,by omega,fun j h1 h2=>by omega,by rw [<- HQ.out.is,HSM.out,List.map_append,List.append_assoc];rfl,by rw [lap];simp;omega⟩
  have hkn : k = ts.length:=by omega
  subst hkn
  have HR:=HQ.out.rest
  have HRS : Hid (decs false ((ts.drop p).length + 1) (ts.drop p) = if p < ts.length then [dBad] else []):=HR
  have HBW : Hid (Bw w wr):=HB3.out.trans (HQ.out.below.mono HB3.out.size)
  have HXW : Hid (wr.rowIs w.heap.size 24 1 (fun _=>.slice none 0 0)):=HX3.out.of_block (HQ.out.below.block _ HX3.out.lt)
  clear HR
  by_cases hp : p < ts.length
  case pos=>
   have HIS : Hid (xs.map Prod.fst ++ [dBad] = decs false (ts.length + 1) ts):=by
    have:=HQ.out.is
    rw [HRS.out,if_pos hp] at this
    exact this
   have hxl:=HXW.out.lt
   go_wp2_with (first | (at_builtin;refine wpList_append_lies _ rfl _ _ 22 rfl w3.heap.size 46 i0 _ 4 72 Tryz.underlying22 hi0 hz0 hz1 hz2 rfl (by omega) (.slice va xs.length vc) xs.length (dcsC xs) rfl (HQ.out.own.own.alloc _) ⟨wr.heap.size,0,none⟩ 1 1 [.int .i64 0,.string ⟨#[]⟩,.slice none 0 0,.slice none 0 0] rfl rfl (World.news_of_block (cs:=#[.int .i64 0,.string ⟨#[]⟩,.slice none 0 0,.slice none 0 0]) (t:=46) (fr:=(0,0)) (heap_alloc_new wr _)) (by simp [Value.oneCell']) (by omega) (by unfold maxLen;omega) (by omega) (by simp;omega) (wr.heap.size + 1) (by simp) ?_;intro gg cap3 w5 hown3 hg3 hat3 hlt3;have x3 : w5.rowIs w.heap.size 24 1 (fun _=>.slice none 0 0):=(HXW.out.alloc _).of_block (hg3.block _ (by simp;omega) (fun e=>by have:=(HQ.out.own.own.lt _ e.symm).1;omega));have c4:=x3.cell (i:=0) (by omega);have z4:=x3.frozen 0))
   have NX:=HQ.out.own.push (x:=(dBad,dp0)) hown3 hg3 (dc_bare _ _ _ _).rd
   have B5:=below_grown HBW.out hg3 (fun b e=>by have:=(HQ.out.own.own.lt b e).1;omega)
   have RX:=x3.set 0 (.slice (some ⟨gg,0,none⟩) (xs.length + 1) cap3)
   refine bodyPost_ret (ret_md (k:=2) rfl (RX.cell (i:=0) (by omega)) _ rfl) rfl ?_
   refine ⟨below_set1 B5 _,_,xs ++ [(dBad,dp0)],rfl,?_,by rw [List.map_append,HTS.out,<- HIS.out];rfl⟩
   exact (RD.kp NX (kp_set x3 0 _) (by decide) (by decide) (by decide) (by decide)).mono (by omega)
  case neg=>
   have HIS : Hid (xs.map Prod.fst = decs false (ts.length + 1) ts):=by
    have:=HQ.out.is
    rw [HRS.out,if_neg hp,List.append_nil] at this
    exact this
   have c4:=HXW.out.cell (i:=0) (by omega)
   have z4:=HXW.out.frozen 0
   go_wp2
   have RX:=HXW.out.set 0 (.slice va xs.length vc)
   refine bodyPost_ret (ret_md (k:=2) rfl (RX.cell (i:=0) (by omega)) _ rfl) rfl ?_
   refine ⟨below_set1 HBW.out _,_,xs,rfl,?_,by rw [HTS.out];exact HIS.out⟩
   exact (RD.kp HQ.out.own (kp_set HXW.out 0 _) (by decide) (by decide) (by decide) (by decide)).mono (by omega)
end Go.Proofs.YtcehppndpccldaaGreatDoor
