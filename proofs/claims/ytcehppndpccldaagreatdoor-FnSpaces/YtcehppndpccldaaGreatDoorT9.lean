/-
  VaC VdA VdB VdC VdD
-/
import Derived.Test.YtcehppndpccldaaGreatDoorT6
import Derived.Test.YtcehppndpccldaaGreatDoorT8
set_option maxHeartbeats 8000000
set_option maxRecDepth 100000
namespace Go.Proofs.YtcehppndpccldaaGreatDoor
def szs (ns : List ByteArray) : Nat:=(ns.map ByteArray.size).sum
def cN (ns : List ByteArray) : Nat:=ns.length + szs ns
def cT (t : TI) : Nat:=t.md.size + t.nm.size + cN t.ns
def cTs (ts : List TI) : Nat:=ts.length + (ts.map cT).sum
def cE (e : EI) : Nat:=e.md.size + e.nm.size + cN e.ns + cTs e.ty
def cEs (es : List EI) : Nat:=es.length + (es.map cE).sum
def cD (d : DC) : Nat:=d.nm.size + cTs d.ty + cEs d.ex
def cDs (ds : List DC) : Nat:=ds.length + (ds.map cD).sum
theorem sum_take {α : Type} (f : α -> Nat) (l : List α) (k : Nat) : ((l.take k).map f).sum <= (l.map f).sum:=by
 conv=>rhs;rw [<- List.take_append_drop k l]
 rw [List.map_append,List.sum_append]
 omega
theorem mem_sum {α : Type} (f : α -> Nat) {l : List α} {x : α} (h : x ∈ l) : f x <= (l.map f).sum:=by
 induction l with
 | nil=>cases h
 | cons y l ih=>
   rw [List.map_cons,List.sum_cons]
   rcases List.mem_cons.1 h with e | e
   ·rw [e];omega
   ·have:=ih e;omega
theorem ltF_cons (t : ByteArray) (ts : List ByteArray) : ltF (t :: ts) = t.size + ltF ts:=by simp [ltF]
theorem ltF_nil : ltF [] = 0:=rfl
theorem ltF_brT (sign : ByteArray) (hs : sign.size <= 3) : ∀ (ah : ByteArray) (ns : List ByteArray),ah.size <= 2 -> ltF (brT sign ah ns) <= 5 * ns.length + szs ns + 1
 | ah,[],_=>by rw [brT,ltF_cons,ltF_nil];show (1 : Nat) + 0 <= _;omega
 | ah,n :: ns,ha=>by
   rw [brT,ltF_cons,bsa,bsa,List.length_cons]
   have:=ltF_brT sign hs xCm ns (by show 2 <= 2;omega)
   have e : szs (n :: ns) = n.size + szs ns:=by simp [szs]
   omega
theorem ltF_brc (ns : List ByteArray) (sign : ByteArray) (lev : Nat) (hs : sign.size <= 3) : ltF (brc ns sign lev).texts <= 5 * ns.length + szs ns + 2 /\ 1 <= ltF (brc ns sign lev).texts:=by
 unfold brc
 split
 ·show ltF [xOC] <= _ /\ _
  rw [show ltF [xOC] = 2 from rfl]
  exact ⟨by omega,by show 1 <= ltF [xOC];rw [show ltF [xOC] = 2 from rfl];omega⟩
 ·refine ⟨Nat.le_trans (ltF_brT sign hs xO ns (by show 1 <= 2;omega)) (by omega),?_⟩
  show 1 <= ltF (brT sign xO ns)
  cases ns with
  | nil=>rw [brT,ltF_cons];show 1 <= 1 + _;omega
  | cons n ns=>
    rw [brT,ltF_cons,bsa,bsa]
    show 1 <= 1 + _ + _ + _
    omega
theorem gn_size {s : ByteArray} (h : gn s = true) : 1 <= s.size /\ s.size <= 12:=by
 by_cases z : s.size < 1 \/ 12 < s.size
 ·rw [gn_short z] at h;cases h
 ·omega
theorem fT_wt {t : TI} {f : Fm} (h : fT t = some f) : ltF f.texts + 2 * f.needs.length <= 8 * (1 + cT t) /\ 1 <= ltF f.texts:=by
 have hc : cT t = t.md.size + t.nm.size + (t.ns.length + szs t.ns):=rfl
 unfold fT at h
 refine if_some2 h (fun z h=>if_some2 h (fun y e=>?_) fun _ h=>none_some h) fun z4 h=>?_
 ·cases e
  have hg : gn t.nm = true:=by
   simp only [Bool.and_eq_true] at y
   have:=y.1
   unfold gPth at this
   simp only [Bool.and_eq_true] at this
   exact this.1
  have:=gn_size hg
  have e1 : ltF [pth t.md t.nm] = (pth t.md t.nm).size:=by rw [ltF_cons,ltF_nil];omega
  show ltF [pth t.md t.nm] + 2 * 0 <= _ /\ 1 <= ltF [pth t.md t.nm]
  rw [e1]
  unfold pth
  split
  ·omega
  ·rw [bsa,bsa]
   have : xColon.size = 1:=rfl
   omega
 refine if_some h (fun h=>?_) none_some
 refine if_some h (fun h=>if_some h (fun e=>?_) none_some) fun h=>?_
 ·cases e
  have:=ltF_brc t.ns xCs 1 (by show 2 <= 3;omega)
  rw [(brc_ok _ _ _).2.1]
  omega
 refine if_some h (fun h=>?_) none_some
 refine if_some h (fun e=>by cases e;show 3 + 0 <= _ /\ 1 <= 3;omega) fun h=>?_
 refine if_some h (fun e=>by cases e;show 4 + 0 <= _ /\ 1 <= 4;omega) fun h=>?_
 refine if_some h (fun e=>by cases e;show 1 + 0 <= _ /\ 1 <= 1;omega) fun h=>?_
 exact if_some h (fun e=>by cases e;show 4 + 4 <= _ /\ 1 <= 4;omega) none_some
theorem stk_len_le {F : Nat -> Fm} {wt : Nat -> Nat} : ∀ {k : Nat},(∀ i,i < k -> FOk (F i) /\ ltF (F i).texts + 2 * (F i).needs.length <= wt i /\ 1 <= ltF (F i).texts) -> Vk (fun i=>(F i).needs.length) k -> k <= szW (stk F k) /\ szW (stk F k) <= ((List.range k).map wt).sum
 | 0,_,_=>⟨Nat.zero_le _,by simp [stk,szW]⟩
 | k + 1,hF,hv=>by
   obtain ⟨h1,h2⟩:=stk_len_le (fun i hi=>hF i (Nat.lt_succ_of_lt hi)) (hv.mono (Nat.le_succ _))
   obtain ⟨o1,o2,o3⟩:=hF k (Nat.lt_succ_self _)
   have st:=stk_step o1 (by rw [stk_len];exact hv k (Nat.lt_succ_self _))
   rw [List.range_succ,List.map_append,List.sum_append]
   have e : ([k].map wt).sum = wt k:=by simp
   omega
theorem pw_le {F : Nat -> Fm} {k : Nat} : (pw F k).1.size <= szW (stk F k):=by
 cases k with
 | zero=>show (0 : Nat) <= _;exact Nat.zero_le _
 | succ k=>
   rw [stk,szW_app,szW_one]
   show (arnd _ _ _).size <= _ + (arnd _ _ _).size
   omega
theorem range_sum {α : Type} (f : α -> Nat) (l : List α) (d : Nat) : ∀ k,k <= l.length -> ((List.range k).map fun i=>((l[i]?).map f).getD d).sum = ((l.take k).map f).sum
 | 0,_=>by simp
 | k + 1,hk=>by
   rw [List.range_succ,List.map_append,List.sum_append,range_sum f l d k (by omega),List.take_add_one,List.getElem?_eq_getElem (by omega),List.map_append,List.sum_append]
   have e : ((l[k]?).map f).getD d = f (l[k]'(by omega)):=by rw [List.getElem?_eq_getElem (by omega)];rfl
   simp [e]
theorem prT_le {ts : List TI} {k : Nat} (hk : k <= ts.length) (har : ∀ j,j < k -> aT ts j = some (FT ts j).needs.length) (hv : Vk (fun i=>(FT ts i).needs.length) k) : k <= szW (stk (FT ts) k) /\ (pw (FT ts) k).1.size <= 8 * cTs ts /\ szW (stk (FT ts) k) <= 8 * cTs ts:=by
 have h:=stk_len_le (F:=FT ts) (wt:=fun i=>((ts[i]?).map fun t=>8 * (1 + cT t)).getD 0) (k:=k) (fun i hi=>by
  have hit : i < ts.length:=by omega
  have h1:=har i hi
  unfold aT at h1
  rw [List.getElem?_eq_getElem hit] at h1
  dsimp only [Option.bind_some] at h1
  cases hf : fT ts[i] with
  | none=>rw [hf] at h1;cases h1
  | some f=>
    have e : FT ts i = f:=by unfold FT;rw [List.getElem?_eq_getElem hit];show (fT ts[i]).getD fm0 = f;rw [hf];rfl
    rw [e,List.getElem?_eq_getElem hit]
    exact ⟨fT_ok hf,(fT_wt hf).1,(fT_wt hf).2⟩) hv
 rw [range_sum _ _ _ _ hk] at h
 have h2:=sum_take (fun t=>8 * (1 + cT t)) ts k
 have h3 : (ts.map fun t=>8 * (1 + cT t)).sum = 8 * cTs ts:=by
  unfold cTs
  clear h h2 hk har hv
  induction ts with
  | nil=>rfl
  | cons t ts ih=>rw [List.map_cons,List.sum_cons,ih,List.map_cons,List.sum_cons,List.length_cons];omega
 have h4:=pw_le (F:=FT ts) (k:=k)
 omega
theorem digs_pos (n : Nat) : 1 <= (digs n).size:=by
 rw [digs]
 split
 ·rename_i h;rw [dig_one n h];omega
 ·rw [bsa,dig_one _ (Nat.mod_lt _ (by omega))];omega
theorem okT_of {ts : List TI} (h : okT ts = true) : Vk (fun i=>(FT ts i).needs.length) ts.length /\ (∀ j,j < ts.length -> aT ts j = some (FT ts j).needs.length) /\ 0 < ts.length /\ szW (stk (FT ts) ts.length) = (prT ts).size:=by
 have hvl : vld (aT ts) ts.length = some 1:=by unfold okT at h;exact beq_iff_eq.1 h
 obtain ⟨k1,k2,k3⟩:=vld_en (a:=fun i=>(FT ts i).needs.length) (fun j n _ hj=>aT_F hj) hvl
 have hp : 0 < ts.length:=by
  cases ts with
  | nil=>cases h
  | cons x y=>simp
 refine ⟨k1,k3,hp,?_⟩
 obtain ⟨m,hm⟩ : ∃ m,ts.length = m + 1:=⟨ts.length - 1,by omega⟩
 unfold prT
 have hl : (stk (FT ts) ts.length).length = 1:=by rw [stk_len,k2]
 rw [hm] at hl ⊢
 rw [stk] at hl ⊢
 have : (stk (FT ts) m).take ((stk (FT ts) m).length - (FT ts m).needs.length) = []:=List.length_eq_zero_iff.1 (by rw [lap] at hl;simp only [List.length_singleton] at hl;omega)
 rw [this,List.nil_append,szW_one]
 rfl
theorem fE_wt {t : EI} {f : Fm} (h : fE t = some f) : ltF f.texts + 2 * f.needs.length <= 32 * (1 + cE t) /\ 1 <= ltF f.texts:=by
 have hc : cE t = t.md.size + t.nm.size + (t.ns.length + szs t.ns) + cTs t.ty:=rfl
 have two : ∀ a : ByteArray,ltF [a] = a.size:=fun a=>by rw [ltF_cons,ltF_nil];omega
 rcases fE_cases h with ⟨_,z1,z2,rfl⟩ | ⟨_,_,rfl⟩ | ⟨_,_,rfl⟩ | ⟨z,rfl⟩ | ⟨_,rfl⟩ | ⟨z,rfl⟩ | ⟨z,zt,rfl⟩ | ⟨_,rfl⟩ | ⟨_,rfl⟩ | ⟨_,rfl⟩ | ⟨_,rfl⟩
 ·show ltF [shN t.num.toNat] + 2 * 0 <= _ /\ 1 <= ltF [shN t.num.toNat]
  rw [two]
  have h1:=digs_pos t.num.toNat
  have h2:=digs_size 9 t.num.toNat (by omega) (by omega)
  unfold shN
  omega
 ·show 5 + 0 <= _ /\ 1 <= 5
  omega
 ·show 4 + 0 <= _ /\ 1 <= 4
  omega
 ·have hg : gn t.nm = true:=by
   unfold fE at h
   rw [if_pos z] at h
   refine if_some2 h (fun y _=>?_) fun _ h=>none_some h
   simp only [Bool.and_eq_true] at y
   have:=y.1.1.1
   unfold gPth at this
   simp only [Bool.and_eq_true] at this
   exact this.1
  have:=gn_size hg
  show ltF [pth t.md t.nm] + 2 * 0 <= _ /\ 1 <= ltF [pth t.md t.nm]
  rw [two]
  unfold pth
  split
  ·omega
  ·rw [bsa,bsa]
   have : xColon.size = 1:=rfl
   omega
 ·have:=ltF_brc t.ns xEs 4 (by show 3 <= 3;omega)
  rw [(brc_ok _ _ _).2.1]
  omega
 ·show ltF [e0,xDot ++ t.nm] + 2 * 1 <= _ /\ 1 <= ltF [e0,xDot ++ t.nm]
  rw [ltF_cons,two,bsa]
  have : xDot.size = 1:=rfl
  have : e0.size = 0:=rfl
  omega
 ·show ltF [xFun ++ t.nm ++ xCs ++ prT t.ty ++ xFn2,e0] + 2 * 1 <= _ /\ 1 <= ltF [xFun ++ t.nm ++ xCs ++ prT t.ty ++ xFn2,e0]
  rw [ltF_cons,two,bsa,bsa,bsa,bsa]
  have : xFun.size = 4:=rfl
  have : xCs.size = 2:=rfl
  have : xFn2.size = 2:=rfl
  have : e0.size = 0:=rfl
  obtain ⟨k1,k2,k3,k4⟩:=okT_of zt
  have:=(prT_le (nlr _) k2 k1).2.2
  omega
 ·show 2 + 4 <= _ /\ 1 <= 2
  omega
 ·show 15 + 6 <= _ /\ 1 <= 15
  omega
 ·show 3 + 4 <= _ /\ 1 <= 3
  omega
 ·show 3 + 4 <= _ /\ 1 <= 3
  omega
theorem prE_le {ts : List EI} {k : Nat} (hk : k <= ts.length) (har : ∀ j,j < k -> aE ts j = some (FE ts j).needs.length) (hv : Vk (fun i=>(FE ts i).needs.length) k) : k <= szW (stk (FE ts) k) /\ (pw (FE ts) k).1.size <= 32 * cEs ts /\ szW (stk (FE ts) k) <= 32 * cEs ts:=by
 have h:=stk_len_le (F:=FE ts) (wt:=fun i=>((ts[i]?).map fun t=>32 * (1 + cE t)).getD 0) (k:=k) (fun i hi=>by
  have hit : i < ts.length:=by omega
  have h1:=har i hi
  unfold aE at h1
  rw [List.getElem?_eq_getElem hit] at h1
  dsimp only [Option.bind_some] at h1
  cases hf : fE ts[i] with
  | none=>rw [hf] at h1;cases h1
  | some f=>
    have e : FE ts i = f:=by unfold FE;rw [List.getElem?_eq_getElem hit];show (fE ts[i]).getD fm0 = f;rw [hf];rfl
    rw [e,List.getElem?_eq_getElem hit]
    exact ⟨fE_ok hf,(fE_wt hf).1,(fE_wt hf).2⟩) hv
 rw [range_sum _ _ _ _ hk] at h
 have h2:=sum_take (fun t=>32 * (1 + cE t)) ts k
 have h3 : (ts.map fun t=>32 * (1 + cE t)).sum = 32 * cEs ts:=by
  unfold cEs
  clear h h2 hk har hv
  induction ts with
  | nil=>rfl
  | cons t ts ih=>rw [List.map_cons,List.sum_cons,ih,List.map_cons,List.sum_cons,List.length_cons];omega
 have h4:=pw_le (F:=FE ts) (k:=k)
 omega
theorem okE_of {ts : List EI} (h : okE ts = true) : Vk (fun i=>(FE ts i).needs.length) ts.length /\ (∀ j,j < ts.length -> aE ts j = some (FE ts j).needs.length) /\ 0 < ts.length /\ szW (stk (FE ts) ts.length) = (prE ts).size:=by
 have hvl : vld (aE ts) ts.length = some 1:=by unfold okE at h;exact beq_iff_eq.1 h
 obtain ⟨k1,k2,k3⟩:=vld_en (a:=fun i=>(FE ts i).needs.length) (fun j n _ hj=>aE_F hj) hvl
 have hp : 0 < ts.length:=by
  cases ts with
  | nil=>cases h
  | cons x y=>simp
 refine ⟨k1,k3,hp,?_⟩
 obtain ⟨m,hm⟩ : ∃ m,ts.length = m + 1:=⟨ts.length - 1,by omega⟩
 unfold prE
 have hl : (stk (FE ts) ts.length).length = 1:=by rw [stk_len,k2]
 rw [hm] at hl ⊢
 rw [stk] at hl ⊢
 have : (stk (FE ts) m).take ((stk (FE ts) m).length - (FE ts m).needs.length) = []:=List.length_eq_zero_iff.1 (by rw [lap] at hl;simp only [List.length_singleton] at hl;omega)
 rw [this,List.nil_append,szW_one]
 rfl
theorem prD_le {d : DC} (h : okD d = true) : 4 + d.ty.length + d.ex.length <= (prD d).size /\ (prD d).size <= 32 * cD d + 32:=by
 have hc : cD d = d.nm.size + cTs d.ty + cEs d.ex:=rfl
 have x1 : xImp.size = 7:=rfl
 have x2 : xTyp.size = 5:=rfl
 have x3 : xVal.size = 4:=rfl
 have x4 : xEs.size = 3:=rfl
 have x5 : xCs.size = 2:=rfl
 have x6 : xEnd.size = 2:=rfl
 unfold okD at h
 rw [Bool.and_eq_true] at h
 obtain ⟨hg,h⟩:=h
 unfold prD
 split at h
 case isTrue z=>
  rw [if_pos z,bsa,bsa]
  simp only [Bool.and_eq_true,decide_eq_true_eq] at h
  omega
 case isFalse z=>
  rw [if_neg z]
  split at h
  case isTrue z2=>
   rw [if_pos z2,bsa,bsa,bsa,bsa]
   simp only [Bool.and_eq_true,decide_eq_true_eq] at h
   obtain ⟨k1,k2,k3,k4⟩:=okT_of h.1
   have:=prT_le (nlr _) k2 k1
   omega
  case isFalse z2=>
   rw [if_neg z2,bsa,bsa,bsa,bsa,bsa,bsa]
   simp only [Bool.and_eq_true,decide_eq_true_eq] at h
   obtain ⟨k1,k2,k3,k4⟩:=okT_of h.1.2
   have:=prT_le (nlr _) k2 k1
   obtain ⟨m1,m2,m3,m4⟩:=okE_of h.2
   have:=prE_le (nlr _) m2 m1
   omega
end Go.Proofs.YtcehppndpccldaaGreatDoor
namespace Go.Proofs.YtcehppndpccldaaGreatDoor
open Go.RowKit
structure DcA (w : World) (d : DC) (p : DPl) : Prop where
 ty : TsA w p.tv p.zs
 isT : p.zs.map Prod.fst = d.ty
 ex : EsA w p.ev p.es
 isE : p.es.map Prod.fst = d.ex
 cost : cD d <= 1048576
theorem DcA.below {w w' : World} {d : DC} {p : DPl} (h : DcA w d p) (hb : Bw w w') : DcA w' d p:=⟨h.ty.below hb,h.isT,h.ex.below hb,h.isE,h.cost⟩
theorem DcA.form {w : World} {d : DC} {p : DPl} (h : DcA w d p) : ∃ ta tc ea ec,p.tv = .slice ta d.ty.length tc /\ p.ev = .slice ea d.ex.length ec:=by
 obtain ⟨ta,tc,h1⟩:=h.ty.form
 obtain ⟨ea,ec,h2⟩:=h.ex.form
 have l1 : p.zs.length = d.ty.length:=by rw [<- h.isT,List.length_map]
 have l2 : p.es.length = d.ex.length:=by rw [<- h.isE,List.length_map]
 exact ⟨ta,tc,ea,ec,by rw [h1,l1],by rw [h2,l2]⟩
def okD' (kind : Int) (nm : ByteArray) (tn en : Nat) (tb eb : Bool) : Bool:=gn nm && (
 if kind = 1 then decide (tn = 0) && decide (en = 0)
 else if kind = 2 then tb && decide (en = 0)
 else decide (kind = 3) && tb && eb)
theorem v_declOk' (w : World) (kind : Int) (nm : ByteArray) (ta ea : Option Addr) (tn tc en ec : Nat) (tb eb : Bool) (zn : nm.size <= 1048576) (zt : tn <= 1048576) (ze : en <= 1048576)
  (CT : Hid (∀ W,Bw w W -> Calls Tryz.prog 63 #[.slice ta tn tc] W fun e w'=>e = .returned (.bool tb) /\ Hid (Bw W w')))
  (CE : Hid (∀ W,Bw w W -> Calls Tryz.prog 64 #[.slice ea en ec] W fun e w'=>e = .returned (.bool eb) /\ Hid (Bw W w'))) :
  Calls Tryz.prog 33 #[.agg #[.int .i64 kind,.string nm,.slice ta tn tc,.slice ea en ec]] w fun e w'=>e = .returned (.bool (okD' kind nm tn en tb eb)) /\ Bw w w':=by
 obtain ⟨r,hr⟩:=xe (okD' kind nm tn en tb eb)
 rw [<- hr]
 have HG : Hid (∀ W,Calls Tryz.prog 62 #[.string nm] W fun e w'=>e = .returned (.bool (gn nm)) /\ w' = W):=fun W=>c32 nm W (by omega)
 unfold okD' at hr
 have BX:=row4 w (.int .i64 kind) (.string nm) (.slice ta tn tc) (.slice ea en ec) 46
 go_enter Tryz.func33,Tryz.ntmps33
 go_wp2_with fail
 refine (HG.out _).mono ?_
 rintro e1 w1 ⟨rfl,rfl⟩
 cases hg : gn nm with
 | false=>
   rw [hg,Bool.false_and] at hr
   subst hr
   go_wp2
   go_ret
   exact ⟨rfl,bel1 _ _⟩
 | true=>
   rw [hg,Bool.true_and] at hr
   by_cases k1 : kind = 1
   ·rw [if_pos k1] at hr
    subst k1
    by_cases t0 : tn = 0
    ·subst t0
     by_cases e0 : en = 0
     ·subst e0
      subst hr
      go_wp2
      go_ret
      exact ⟨rfl,bel1 _ _⟩
     ·have ne : ¬ (en : Int) = 0:=by omega
      rw [decide_eq_false e0,Bool.and_false] at hr
      subst hr
      go_wp2
      go_ret
      exact ⟨by show Ending.returned (Value.bool ((en : Int) == 0)) = _;rw [bn2 ne],bel1 _ _⟩
    ·have ne : ¬ (tn : Int) = 0:=by omega
     rw [decide_eq_false t0,Bool.false_and] at hr
     subst hr
     go_wp2
     go_ret
     exact ⟨rfl,bel1 _ _⟩
   ·rw [if_neg k1] at hr
    by_cases k2 : kind = 2
    ·rw [if_pos k2] at hr
     subst k2
     clear k1
     go_wp2_with fail
     refine (CT.out _ (bel1 _ _)).mono ?_
     rintro e2 w2 ⟨rfl,HB⟩
     have HB2 : Hid (Bw w w2):=(bel1 _ _).trans (HB.out.mono (by simp))
     have BX2:=BX.of_block (HB.out.block _ BX.lt)
     have t3 : w2.cell? ⟨w.heap.size,3,none⟩ = some (.slice ea en ec):=BX2.cell (i:=3) (by omega)
     clear BX BX2 HB
     cases tb with
     | false=>
       rw [Bool.false_and] at hr
       subst hr
       go_wp2
       go_ret
       exact ⟨rfl,HB2.out⟩
     | true=>
       rw [Bool.true_and] at hr
       by_cases e0 : en = 0
       ·subst e0
        subst hr
        go_wp2
        go_ret
        exact ⟨rfl,HB2.out⟩
       ·have ne : ¬ (en : Int) = 0:=by omega
        rw [decide_eq_false e0] at hr
        subst hr
        go_wp2
        go_ret
        exact ⟨by show Ending.returned (Value.bool ((en : Int) == 0)) = _;rw [bn2 ne],HB2.out⟩
    ·rw [if_neg k2] at hr
     by_cases k3 : kind = 3
     ·rw [decide_eq_true k3,Bool.true_and] at hr
      subst k3
      clear k1 k2
      go_wp2_with fail
      refine (CT.out _ (bel1 _ _)).mono ?_
      rintro e2 w2 ⟨rfl,HB⟩
      have HB2 : Hid (Bw w w2):=(bel1 _ _).trans (HB.out.mono (by simp))
      have BX2:=BX.of_block (HB.out.block _ BX.lt)
      have t3 : w2.cell? ⟨w.heap.size,3,none⟩ = some (.slice ea en ec):=BX2.cell (i:=3) (by omega)
      clear BX BX2 HB
      cases tb with
      | false=>
        rw [Bool.false_and] at hr
        subst hr
        go_wp2
        go_ret
        exact ⟨rfl,HB2.out⟩
      | true=>
        rw [Bool.true_and] at hr
        subst hr
        go_wp2_with fail
        refine (CE.out _ HB2.out).mono ?_
        rintro e3 w3 ⟨rfl,HB3⟩
        have HB4 : Hid (Bw w w3):=HB2.out.trans (HB3.out.mono HB2.out.size)
        clear HB3
        cases r <;>
        ·go_wp2
         go_ret
         exact ⟨rfl,HB4.out⟩
     ·rw [decide_eq_false k3,Bool.false_and] at hr
      subst hr
      go_wp2
      go_ret
      exact ⟨rfl,bel1 _ _⟩
theorem v_declOk (w : World) {d : DC} {p : DPl} (h : DcA w d p) :
  Calls Tryz.prog 33 #[dV d p] w fun e w'=>e = .returned (.bool (okD d)) /\ Bw w w':=by
 obtain ⟨ta,tc,ea,ec,h1,h2⟩:=h.form
 have hc : cD d = d.nm.size + (d.ty.length + (d.ty.map cT).sum) + (d.ex.length + (d.ex.map cE).sum):=rfl
 have hcc:=h.cost
 unfold dV
 rw [h1,h2]
 have:=v_declOk' w d.kind d.nm ta ea d.ty.length tc d.ex.length ec (okT d.ty) (okE d.ex) (by omega) (by omega) (by omega)
  (fun W hb=>by
   have:=v_typeOk W (h.ty.below hb) h.isT
   rw [h1] at this
   exact this)
  (fun W hb=>by
   have:=v_exprOk W (h.ex.below hb) h.isE
   rw [h2] at this
   exact this)
 exact this
theorem fE_ty {t : EI} {f : Fm} (h : fE t = some f) : okT t.ty = true \/ t.ty.length = 0:=by
 unfold fE at h
 refine if_some2 h (fun _ h=>if_some2 h (fun y _=>?_) fun _ h=>none_some h) fun _ h=>?_
 ·simp only [Bool.and_eq_true,decide_eq_true_eq] at y
  exact Or.inr y.2
 refine if_some h (fun h=>?_) none_some
 refine if_some h (fun h=>if_some2 h (fun y _=>?_) fun _ h=>none_some h) fun h=>?_
 ·simp only [Bool.and_eq_true] at y
  exact Or.inl y.1.1.2
 exact if_some2 h (fun z _=>Or.inr z) fun _ h=>none_some h
theorem prT_sz {ts : List TI} (h : okT ts = true \/ ts.length = 0) {k : Nat} (hk : k <= ts.length) : (pw (FT ts) k).1.size <= 8 * cTs ts:=by
 rcases h with h | h
 ·obtain ⟨k1,k2,_,_⟩:=okT_of h
  exact (prT_le hk (fun j hj=>k2 j (by omega)) (k1.mono hk)).2.1
 ·have : k = 0:=by omega
  subst this
  show (0 : Nat) <= _
  exact Nat.zero_le _
theorem prE_sz {ts : List EI} (h : okE ts = true) {k : Nat} (hk : k <= ts.length) : (pw (FE ts) k).1.size <= 32 * cEs ts:=by
 obtain ⟨k1,k2,_,_⟩:=okE_of h
 exact (prE_le hk (fun j hj=>k2 j (by omega)) (k1.mono hk)).2.1
theorem v_dT (w : World) {d : DC} {p : DPl} (h : DcA w d p) {ta : Option Addr} {tc : Nat} (htv : p.tv = .slice ta d.ty.length tc) (hok : okT d.ty = true) :
  Calls Tryz.prog 65 #[.slice ta d.ty.length tc,.int .i64 (d.ty.length : Int)] w fun r w'=>r = .returned (.string (prT d.ty)) /\ Hid (Bw w w'):=by
 obtain ⟨k1,k2,k3,_⟩:=okT_of hok
 obtain ⟨m,hm⟩ : ∃ m,d.ty.length = m + 1:=⟨d.ty.length - 1,by omega⟩
 have zl : p.zs.length = d.ty.length:=by rw [<- h.isT,List.length_map]
 have hc : cD d = d.nm.size + cTs d.ty + cEs d.ex:=rfl
 have hcc:=h.cost
 have ts:=h.ty
 rw [htv,<- zl] at ts
 have:=v_printT (xs:=p.zs) (l:=d.ty) (a:=ta) (c:=tc) m ⟨h.isT,fun j hj=>k2 j (by omega),k1.mono (by omega),fun k hk=>Nat.le_trans (prT_sz (Or.inl hok) (by omega)) (by omega)⟩ (by omega) w (d.ty.length : Int) ts (by omega)
 rw [zl] at this
 unfold prT
 rw [hm] at this ⊢
 exact this
theorem v_dE (w : World) {d : DC} {p : DPl} (h : DcA w d p) {ta : Option Addr} {tc : Nat} (htv : p.ev = .slice ta d.ex.length tc) (hok : okE d.ex = true) :
  Calls Tryz.prog 66 #[.slice ta d.ex.length tc,.int .i64 (d.ex.length : Int)] w fun r w'=>r = .returned (.string (prE d.ex)) /\ Hid (Bw w w'):=by
 obtain ⟨k1,k2,k3,_⟩:=okE_of hok
 obtain ⟨m,hm⟩ : ∃ m,d.ex.length = m + 1:=⟨d.ex.length - 1,by omega⟩
 have zl : p.es.length = d.ex.length:=by rw [<- h.isE,List.length_map]
 have hc : cD d = d.nm.size + cTs d.ty + cEs d.ex:=rfl
 have hcc:=h.cost
 have ts:=h.ex
 rw [htv,<- zl] at ts
 have tsz : ∀ x,x ∈ p.es -> ∀ k,k <= x.1.ty.length -> (pw (FT x.1.ty) k).1.size <= 100000000:=fun x hx k hk=>by
  have hx2 : x.1 ∈ d.ex:=by rw [<- h.isE];exact List.mem_map_of_mem hx
  obtain ⟨j,hj,hxj⟩:=List.getElem_of_mem hx2
  have h1:=k2 j hj
  unfold aE at h1
  rw [List.getElem?_eq_getElem hj,hxj] at h1
  dsimp only [Option.bind_some] at h1
  cases hf : fE x.1 with
  | none=>rw [hf] at h1;cases h1
  | some f=>
    have h2:=prT_sz (fE_ty hf) hk
    have h3:=mem_sum cE hx2
    have h4 : cE x.1 = x.1.md.size + x.1.nm.size + cN x.1.ns + cTs x.1.ty:=rfl
    have h5 : cEs d.ex = d.ex.length + (d.ex.map cE).sum:=rfl
    omega
 have:=v_printE (xs:=p.es) (l:=d.ex) (a:=ta) (c:=tc) m ⟨h.isE,fun j hj=>k2 j (by omega),k1.mono (by omega),fun k hk=>Nat.le_trans (prE_sz hok (by omega)) (by omega),tsz⟩ (by omega) w (d.ex.length : Int) ts (by omega)
 rw [zl] at this
 unfold prE
 rw [hm] at this ⊢
 exact this
theorem v_pd1 (w : World) (nm : ByteArray) (ta ea : Option Addr) (tn tc en ec : Nat) (zn : nm.size <= 1048576) :
  Calls Tryz.prog 34 #[.agg #[.int .i64 1,.string nm,.slice ta tn tc,.slice ea en ec]] w fun e w'=>e = .returned (.string (xImp ++ nm ++ xEnd)) /\ Bw w w':=by
 have z0 : (⟨#[105,109,112,111,114,116,32]⟩ : ByteArray).size = 7:=rfl
 have z1 : (⟨#[59,10]⟩ : ByteArray).size = 2:=rfl
 have c1:=rsa (⟨#[105,109,112,111,114,116,32]⟩ : ByteArray) nm (by rw [z0];omega)
 have c2:=rsa ((⟨#[105,109,112,111,114,116,32]⟩ : ByteArray) ++ nm) (⟨#[59,10]⟩ : ByteArray) (by rw [bsa,z0,z1];omega)
 go_enter Tryz.func34,Tryz.ntmps34
 go_wp2
 go_ret
 exact ⟨rfl,bel1 _ _⟩
theorem v_pd2 (w : World) (nm T : ByteArray) (ta ea : Option Addr) (tn tc en ec : Nat) (zn : nm.size <= 1048576) (sT : T.size <= 100000000)
  (D0 : Hid (∀ W,Bw w W -> Calls Tryz.prog 65 #[.slice ta tn tc,.int .i64 (tn : Int)] W fun r w'=>r = .returned (.string T) /\ Hid (Bw W w'))) :
  Calls Tryz.prog 34 #[.agg #[.int .i64 2,.string nm,.slice ta tn tc,.slice ea en ec]] w fun e w'=>e = .returned (.string (xTyp ++ nm ++ xEs ++ T ++ xEnd)) /\ Bw w w':=by
 have z0 : (⟨#[116,121,112,101,32]⟩ : ByteArray).size = 5:=rfl
 have z1 : (⟨#[32,61,32]⟩ : ByteArray).size = 3:=rfl
 have z2 : (⟨#[59,10]⟩ : ByteArray).size = 2:=rfl
 have c1:=rsa (⟨#[116,121,112,101,32]⟩ : ByteArray) nm (by rw [z0];omega)
 have c2:=rsa ((⟨#[116,121,112,101,32]⟩ : ByteArray) ++ nm) (⟨#[32,61,32]⟩ : ByteArray) (by rw [bsa,z0,z1];omega)
 have c3:=rsa (((⟨#[116,121,112,101,32]⟩ : ByteArray) ++ nm) ++ (⟨#[32,61,32]⟩ : ByteArray)) T (by rw [bsa,bsa,z0,z1];omega)
 have c4:=rsa ((((⟨#[116,121,112,101,32]⟩ : ByteArray) ++ nm) ++ (⟨#[32,61,32]⟩ : ByteArray)) ++ T) (⟨#[59,10]⟩ : ByteArray) (by rw [bsa,bsa,bsa,z0,z1,z2];omega)
 have BX:=row4 w (.int .i64 2) (.string nm) (.slice ta tn tc) (.slice ea en ec) 46
 obtain ⟨w2,hw2⟩:=xe (w.alloc (.cells #[.int .i64 2,.string nm,.slice ta tn tc,.slice ea en ec] 46))
 have HB2 : Hid (Bw w w2):=by rw [hw2];exact bel1 _ _
 rw [<- hw2] at BX
 have HCC : Hid (∀ W : World,Bw w2 W -> W.cell? ⟨w.heap.size,1,none⟩ = some (.string nm) /\ W.cell? ⟨w.heap.size,2,none⟩ = some (.slice ta tn tc)):=fun W hb=>by
  have BW:=BX.of_block (hb.block _ BX.lt)
  exact ⟨BW.cell (i:=1) (by omega),BW.cell (i:=2) (by omega)⟩
 have k3 : w2.cell? ⟨w.heap.size,0,none⟩ = some (.int .i64 2):=BX.cell (i:=0) (by omega)
 obtain ⟨k0,k1⟩:=HCC.out w2 (Below.refl _ _)
 clear BX
 have E0 : Hid (∀ W : World,Bw w2 W -> Calls Tryz.prog 65 #[.slice ta tn tc,.int .i64 (tn : Int)] W fun r w'=>r = .returned (.string T) /\ Hid (Bw w2 w')):=fun W hb=>(D0.out W (HB2.out.trans (hb.mono HB2.out.size))).mono fun r w' h=>⟨h.1,hb.trans (h.2.out.mono hb.size)⟩
 have E0':=E0.out w2.drew (Below.refl _ _).drew
 clear D0
 go_enter Tryz.func34,Tryz.ntmps34
 go_wp2
 rw [<- hw2]
 clear hw2
 go_region_held3 (fun w'=>w'.cell? ⟨w.heap.size,1,none⟩ = some (.string nm) /\ w'.cell? ⟨w.heap.size,2,none⟩ = some (.slice ta tn tc)) (go_keep) (first
  | (go_at_call 65;(with_reducible refine E0'.mono ?_);rintro r0 u0 ⟨rfl,V0⟩;obtain ⟨m00,m01⟩:=HCC.out u0 V0.out))
 all_goals
  have HBL : Hid (Bw w u0):=HB2.out.trans (V0.out.mono HB2.out.size)
  go_wp2
  go_ret
  exact ⟨rfl,by first | exact HBL.out | exact HBL.out.drew | exact below_drewN HBL.out _⟩
theorem v_pd3 (w : World) (nm T U : ByteArray) (ta ea : Option Addr) (tn tc en ec : Nat) (zn : nm.size <= 1048576) (sT : T.size <= 100000000) (sU : U.size <= 100000000)
  (D0 : Hid (∀ W,Bw w W -> Calls Tryz.prog 65 #[.slice ta tn tc,.int .i64 (tn : Int)] W fun r w'=>r = .returned (.string T) /\ Hid (Bw W w')))
  (D1 : Hid (∀ W,Bw w W -> Calls Tryz.prog 66 #[.slice ea en ec,.int .i64 (en : Int)] W fun r w'=>r = .returned (.string U) /\ Hid (Bw W w'))) :
  Calls Tryz.prog 34 #[.agg #[.int .i64 3,.string nm,.slice ta tn tc,.slice ea en ec]] w fun e w'=>e = .returned (.string (xVal ++ nm ++ xCs ++ T ++ xEs ++ U ++ xEnd)) /\ Bw w w':=by
 have z0 : (⟨#[118,97,108,32]⟩ : ByteArray).size = 4:=rfl
 have z1 : (⟨#[58,32]⟩ : ByteArray).size = 2:=rfl
 have z2 : (⟨#[32,61,32]⟩ : ByteArray).size = 3:=rfl
 have z3 : (⟨#[59,10]⟩ : ByteArray).size = 2:=rfl
 have c1:=rsa (⟨#[118,97,108,32]⟩ : ByteArray) nm (by rw [z0];omega)
 have c2:=rsa ((⟨#[118,97,108,32]⟩ : ByteArray) ++ nm) (⟨#[58,32]⟩ : ByteArray) (by rw [bsa,z0,z1];omega)
 have c3:=rsa (((⟨#[118,97,108,32]⟩ : ByteArray) ++ nm) ++ (⟨#[58,32]⟩ : ByteArray)) T (by rw [bsa,bsa,z0,z1];omega)
 have c4:=rsa ((((⟨#[118,97,108,32]⟩ : ByteArray) ++ nm) ++ (⟨#[58,32]⟩ : ByteArray)) ++ T) (⟨#[32,61,32]⟩ : ByteArray) (by rw [bsa,bsa,bsa,z0,z1,z2];omega)
 have c5:=rsa (((((⟨#[118,97,108,32]⟩ : ByteArray) ++ nm) ++ (⟨#[58,32]⟩ : ByteArray)) ++ T) ++ (⟨#[32,61,32]⟩ : ByteArray)) U (by rw [bsa,bsa,bsa,bsa,z0,z1,z2];omega)
 have c6:=rsa ((((((⟨#[118,97,108,32]⟩ : ByteArray) ++ nm) ++ (⟨#[58,32]⟩ : ByteArray)) ++ T) ++ (⟨#[32,61,32]⟩ : ByteArray)) ++ U) (⟨#[59,10]⟩ : ByteArray) (by rw [bsa,bsa,bsa,bsa,bsa,z0,z1,z2,z3];omega)
 have BX:=row4 w (.int .i64 3) (.string nm) (.slice ta tn tc) (.slice ea en ec) 46
 obtain ⟨w2,hw2⟩:=xe (w.alloc (.cells #[.int .i64 3,.string nm,.slice ta tn tc,.slice ea en ec] 46))
 have HB2 : Hid (Bw w w2):=by rw [hw2];exact bel1 _ _
 rw [<- hw2] at BX
 have HCC : Hid (∀ W : World,Bw w2 W -> W.cell? ⟨w.heap.size,1,none⟩ = some (.string nm) /\ W.cell? ⟨w.heap.size,2,none⟩ = some (.slice ta tn tc) /\ W.cell? ⟨w.heap.size,3,none⟩ = some (.slice ea en ec)):=fun W hb=>by
  have BW:=BX.of_block (hb.block _ BX.lt)
  exact ⟨BW.cell (i:=1) (by omega),BW.cell (i:=2) (by omega),BW.cell (i:=3) (by omega)⟩
 have k3 : w2.cell? ⟨w.heap.size,0,none⟩ = some (.int .i64 3):=BX.cell (i:=0) (by omega)
 obtain ⟨k0,k1,k2⟩:=HCC.out w2 (Below.refl _ _)
 clear BX
 have E0 : Hid (∀ W : World,Bw w2 W -> Calls Tryz.prog 65 #[.slice ta tn tc,.int .i64 (tn : Int)] W fun r w'=>r = .returned (.string T) /\ Hid (Bw w2 w')):=fun W hb=>(D0.out W (HB2.out.trans (hb.mono HB2.out.size))).mono fun r w' h=>⟨h.1,hb.trans (h.2.out.mono hb.size)⟩
 have E1 : Hid (∀ W : World,Bw w2 W -> Calls Tryz.prog 66 #[.slice ea en ec,.int .i64 (en : Int)] W fun r w'=>r = .returned (.string U) /\ Hid (Bw w2 w')):=fun W hb=>(D1.out W (HB2.out.trans (hb.mono HB2.out.size))).mono fun r w' h=>⟨h.1,hb.trans (h.2.out.mono hb.size)⟩
 have E0':=E0.out w2.drew (Below.refl _ _).drew
 clear D0 D1
 go_enter Tryz.func34,Tryz.ntmps34
 go_wp2
 rw [<- hw2]
 clear hw2
 go_region_held3 (fun w'=>w'.cell? ⟨w.heap.size,1,none⟩ = some (.string nm) /\ w'.cell? ⟨w.heap.size,2,none⟩ = some (.slice ta tn tc) /\ w'.cell? ⟨w.heap.size,3,none⟩ = some (.slice ea en ec)) (go_keep) (first
  | (go_at_call 65;(with_reducible refine E0'.mono ?_);rintro r0 u0 ⟨rfl,V0⟩;obtain ⟨m00,m01,m02⟩:=HCC.out u0 V0.out)
  | (go_at_call 66;(with_reducible refine (E1.out u0 V0.out).mono ?_);rintro r1 u1 ⟨rfl,V1⟩;obtain ⟨m10,m11,m12⟩:=HCC.out u1 V1.out))
 all_goals
  have HBL : Hid (Bw w u1):=HB2.out.trans (V1.out.mono HB2.out.size)
  go_wp2
  go_ret
  exact ⟨rfl,by first | exact HBL.out | exact HBL.out.drew | exact below_drewN HBL.out _⟩
theorem v_printDecl (w : World) {d : DC} {p : DPl} (h : DcA w d p) (hok : okD d = true) :
  Calls Tryz.prog 34 #[dV d p] w fun e w'=>e = .returned (.string (prD d)) /\ Bw w w':=by
 obtain ⟨ta,tc,ea,ec,h1,h2⟩:=h.form
 have hc : cD d = d.nm.size + cTs d.ty + cEs d.ex:=rfl
 have hcc:=h.cost
 unfold dV
 rw [h1,h2]
 unfold okD at hok
 rw [Bool.and_eq_true] at hok
 obtain ⟨-,hok⟩:=hok
 unfold prD
 split at hok
 case isTrue z=>
  rw [if_pos z,z]
  exact v_pd1 w d.nm ta ea _ tc _ ec (by omega)
 case isFalse z=>
  rw [if_neg z]
  split at hok
  case isTrue z2=>
   rw [if_pos z2,z2]
   simp only [Bool.and_eq_true] at hok
   have s1:=prT_sz (Or.inl hok.1) (nlr _)
   exact v_pd2 w d.nm (prT d.ty) ta ea _ tc _ ec (by omega) (Nat.le_trans s1 (by omega)) (fun W hb=>v_dT W (h.below hb) h1 hok.1)
  case isFalse z2=>
   simp only [Bool.and_eq_true,decide_eq_true_eq] at hok
   rw [if_neg z2,hok.1.1]
   have s1:=prT_sz (Or.inl hok.1.2) (nlr _)
   have s2:=prE_sz hok.2 (nlr _)
   exact v_pd3 w d.nm (prT d.ty) (prE d.ex) ta ea _ tc _ ec (by omega) (Nat.le_trans s1 (by omega)) (Nat.le_trans s2 (by omega)) (fun W hb=>v_dT W (h.below hb) h1 hok.1.2) (fun W hb=>v_dE W (h.below hb) h2 hok.2)
def rgh (ds : List DC) : Nat:=(ds.map fun d=>4 + d.ty.length + d.ex.length).sum
theorem rgh_le (ds : List DC) : rgh ds <= 4 * cDs ds:=by
 unfold rgh cDs
 induction ds with
 | nil=>simp
 | cons d ds ih=>
   rw [List.map_cons,List.sum_cons,List.map_cons,List.sum_cons,List.length_cons]
   have hc : cD d = d.nm.size + (d.ty.length + (d.ty.map cT).sum) + (d.ex.length + (d.ex.map cE).sum):=rfl
   omega
theorem rgh_take {ds : List DC} {k : Nat} (hk : k < ds.length) : rgh (ds.take (k + 1)) = rgh (ds.take k) + (4 + ds[k].ty.length + ds[k].ex.length):=by
 unfold rgh
 rw [List.take_add_one,List.getElem?_eq_getElem hk,List.map_append,List.sum_append]
 simp
theorem rgh_mono (ds : List DC) (k : Nat) : rgh (ds.take k) <= rgh ds:=sum_take _ _ _
theorem prDs_app (a b : List DC) : prDs (a ++ b) = prDs a ++ prDs b:=by
 induction a with
 | nil=>rw [List.nil_append];exact (em_app _).symm
 | cons d a ih=>rw [List.cons_append,prDs,prDs,ih,ByteArray.append_assoc]
theorem prDs_take {ds : List DC} {k : Nat} (hk : k < ds.length) : prDs (ds.take (k + 1)) = prDs (ds.take k) ++ prD ds[k]:=by
 rw [List.take_add_one,List.getElem?_eq_getElem hk,prDs_app]
 show _ ++ (prD ds[k] ++ e0) = _
 rw [app_em]
theorem prDs_le {ds : List DC} (h : ds.all okD = true) : rgh ds <= (prDs ds).size /\ (prDs ds).size <= 32 * cDs ds:=by
 unfold rgh cDs
 induction ds with
 | nil=>exact ⟨Nat.zero_le _,nlr _⟩
 | cons d ds ih=>
   rw [List.all_cons,Bool.and_eq_true] at h
   have h1:=prD_le h.1
   have h2:=ih h.2
   rw [List.map_cons,List.sum_cons,List.map_cons,List.sum_cons,List.length_cons,prDs,bsa]
   omega
theorem cDs_take (ds : List DC) (k : Nat) : cDs (ds.take k) <= cDs ds:=by
 unfold cDs
 have:=sum_take cD ds k
 have : (ds.take k).length <= ds.length:=by rw [List.length_take];omega
 omega
theorem all_take {ds : List DC} {k : Nat} (hk : k < ds.length) : (ds.take (k + 1)).all okD = ((ds.take k).all okD && okD ds[k]):=by
 rw [List.take_add_one,List.getElem?_eq_getElem hk,List.all_append]
 simp
theorem all_no {ds : List DC} {k : Nat} (hk : k < ds.length) (h : okD ds[k] = false) : ds.all okD = false:=by
 cases e : ds.all okD with
 | false=>rfl
 | true=>
   have:=List.all_eq_true.1 e ds[k] (List.getElem_mem hk)
   rw [h] at this
   cases this
structure DsA (w : World) (v : Value) (xs : List (DC × DPl)) : Prop where
 own : ∃ B,w.ownsRow B 46 4 v xs.length (dcsC xs)
 ok : ∀ x,x ∈ xs -> DcA w x.1 x.2
 cost : cDs (xs.map Prod.fst) <= 1048576
theorem DsA.below {w w' : World} {v : Value} {xs : List (DC × DPl)} (h : DsA w v xs) (hb : Bw w w') : DsA w' v xs:=⟨by obtain ⟨B,r⟩:=h.own;exact ⟨B,own_kp r (below_kp hb) (by decide)⟩,fun x hx=>(h.ok x hx).below hb,h.cost⟩
theorem DsA.form {w : World} {v : Value} {xs : List (DC × DPl)} (h : DsA w v xs) : ∃ a c,v = .slice a xs.length c:=by obtain ⟨B,r⟩:=h.own;exact own_form r
theorem DsA.len {w : World} {v : Value} {xs : List (DC × DPl)} (h : DsA w v xs) : xs.length <= 1048576:=by
 have h1 : cDs (xs.map Prod.fst) = (xs.map Prod.fst).length + ((xs.map Prod.fst).map cD).sum:=rfl
 have:=h.cost
 rw [List.length_map] at h1
 omega
theorem DsA.item {w : World} {a : Option Addr} {c : Nat} {xs : List (DC × DPl)} (h : DsA w (.slice a xs.length c) xs) {k : Nat} (hk : k < xs.length) : ∃ g ta tc ea ec,a = some ⟨g,0,none⟩ /\ w.cell? ⟨g,k * 4,none⟩ = some (Value.int .i64 xs[k].1.kind) /\ w.cell? ⟨g,k * 4 + 1,none⟩ = some (Value.string xs[k].1.nm) /\ w.cell? ⟨g,k * 4 + 2,none⟩ = some (Value.slice ta xs[k].1.ty.length tc) /\ w.cell? ⟨g,k * 4 + 3,none⟩ = some (Value.slice ea xs[k].1.ex.length ec) /\ DcA w xs[k].1 xs[k].2 /\ dV xs[k].1 xs[k].2 = .agg #[.int .i64 xs[k].1.kind,.string xs[k].1.nm,.slice ta xs[k].1.ty.length tc,.slice ea xs[k].1.ex.length ec]:=by
 obtain ⟨B,r⟩:=h.own
 obtain ⟨g,gc,ev,_⟩:=own_blk r (show 0 < xs.length by omega)
 simp only [Value.slice.injEq] at ev
 obtain ⟨rfl,-,rfl⟩:=ev
 have ok:=h.ok _ (List.getElem_mem hk)
 obtain ⟨ta,tc,ea,ec,h1,h2⟩:=ok.form
 exact ⟨g,ta,tc,ea,ec,rfl,own_at (f:=dcC) dcC_len r (j:=k) (r:=0) rfl hk (by omega) rfl,own_at (f:=dcC) dcC_len r rfl hk (by omega) rfl,own_at (f:=dcC) dcC_len r rfl hk (by omega) (by rw [<- h1];rfl),own_at (f:=dcC) dcC_len r rfl hk (by omega) (by rw [<- h2];rfl),ok,by unfold dV;rw [h1,h2]⟩
theorem v_valid (w : World) {v : Value} {xs : List (DC × DPl)} (h : DsA w v xs) {l : List DC} (hl : xs.map Prod.fst = l) :
  Calls Tryz.prog 14 #[.agg #[v]] w fun e w'=>e = .returned (.bool (okM l)) /\ Bw w w':=by
 obtain ⟨a,c,rfl⟩:=h.form
 have hlen:=h.len
 have ll : l.length = xs.length:=by rw [<- hl,List.length_map]
 have hat : ∀ {k : Nat} (hk : k < xs.length),l[k]'(by omega) = xs[k].1:=fun {k} hk=>by subst hl;rw [List.getElem_map]
 have hcost : cDs l <= 1048576:=by rw [<- hl];exact h.cost
 have hrg:=rgh_le l
 have HRS : Hid (∀ {k : Nat} (hk : k < xs.length),rgh (l.take (k + 1)) = rgh (l.take k) + (4 + xs[k].1.ty.length + xs[k].1.ex.length)):=fun {k} hk=>by rw [rgh_take (by omega),hat hk]
 have HRB : Hid (∀ k,rgh (l.take k) <= 4194304):=fun k=>Nat.le_trans (rgh_mono l k) (by omega)
 have HPS : Hid (∀ {k : Nat} (hk : k < xs.length),prDs (l.take (k + 1)) = prDs (l.take k) ++ prD xs[k].1 /\ (l.take (k + 1)).all okD = ((l.take k).all okD && okD xs[k].1) /\ (okD xs[k].1 = false -> okM l = false)):=fun {k} hk=>by
  refine ⟨by rw [prDs_take (by omega),hat hk],by rw [all_take (by omega),hat hk],fun z=>?_⟩
  unfold okM
  rw [all_no (k:=k) (by omega) (by rw [hat hk];exact z)]
  rfl
 have HPB : Hid (∀ k,(l.take k).all okD = true -> (prDs (l.take k)).size <= 33554432):=fun k hk=>by
  have:=(prDs_le hk).2
  have:=cDs_take l k
  omega
 have HEX : Hid (1000 < rgh l -> okM l = false):=fun hb=>by
  unfold okM
  cases e : l.all okD with
  | false=>rfl
  | true=>
    have:=(prDs_le e).1
    rw [decide_eq_false (by omega)]
    rfl
 have HEN : Hid (l.all okD = true -> okM l = decide ((prDs l).size <= 1000)):=fun e=>by unfold okM;rw [e];rfl
 have HTK : Hid (l.take xs.length = l):=by show _ = _;rw [<- ll];exact List.take_length
 have HDS : Hid (∀ W,Bw w W -> DsA W (.slice a xs.length c) xs):=fun W hb=>h.below hb
 obtain ⟨b,hb⟩:=xe (okM l)
 rw [<- hb] at HPS HEX HEN ⊢
 clear h hl ll hat hcost hrg hb
 obtain ⟨w1,hw1⟩:=xe (w.alloc (.cells #[.slice a xs.length c] 24))
 have HB1 : Hid (Bw w w1):=by rw [hw1];exact bel1 _ _
 have HC : Hid (∀ W : World,Bw w1 W -> W.cell? ⟨w.heap.size,0,none⟩ = some (.slice a xs.length c)):=fun W hb=>by
  have k0 : w1.cell? ⟨w.heap.size,0,none⟩ = some (.slice a xs.length c):=by rw [hw1];exact (row1 w (.slice a xs.length c) 24).cell (i:=0) (by omega)
  exact (hb.cell (p:=⟨w.heap.size,0,none⟩) (blt k0)).trans k0
 go_enter Tryz.func14,Tryz.ntmps14
 go_wp2
 rw [<- hw1]
 clear hw1
 go_loopw [3,4] (fun sz i wr=>∃ k m : Nat,k <= xs.length /\ m <= 4194304 /\ i = .int .i64 k /\ sz = .int .i64 m /\ Hid (m = rgh (l.take k)) /\ Hid (Bw w1 wr)) (fun _ i _=>xs.length - (intOf i).toNat)
 case atStart=>exact ⟨0,0,Nat.zero_le _,by omega,rfl,rfl,rfl,Below.refl _ _⟩
 case round=>
  obtain ⟨k,m,hk,hm,rfl,rfl,HM,HW⟩:=hrel
  have kc:=HC.out wr HW.out
  by_cases hlt : k < xs.length
  ·obtain ⟨g,ta,tc,ea,ec,rfl,y0,y1,y2,y3,di,dv⟩:=(HDS.out wr (HB1.out.trans (HW.out.mono HB1.out.size))).item hlt
   have hs:=HRS.out hlt
   have hs2:=HRB.out (k + 1)
   rw [<- HM.out] at hs
   obtain ⟨X,hX⟩:=xe (xs[k])
   rw [<- hX] at y0 y1 y2 y3 hs
   clear di dv hX
   have HS : Hid (m + (4 + X.1.ty.length + X.1.ex.length) = rgh (l.take (k + 1))):=hs.symm
   have hb1 : m + (4 + X.1.ty.length + X.1.ex.length) <= 4194304:=by omega
   clear hs hs2
   obtain ⟨tn,htn⟩:=xe (X.1.ty.length)
   obtain ⟨en,hen⟩:=xe (X.1.ex.length)
   rw [<- htn,<- hen] at HS hb1
   rw [<- htn] at y2
   rw [<- hen] at y3
   have a1 : IntKind.i64.wrap ((m : Int) + 4) = (m : Int) + 4:=wk (by omega)
   have a2 : IntKind.i64.wrap ((m : Int) + 4 + (tn : Int)) = (m : Int) + 4 + (tn : Int):=wk (by omega)
   have a3 : IntKind.i64.wrap ((m : Int) + 4 + (tn : Int) + (en : Int)) = (m : Int) + 4 + (tn : Int) + (en : Int):=wk (by omega)
   have hkl : (k : Int) < (xs.length : Int):=by omega
   have hk0 : (0 : Int) <= (k : Int):=by omega
   go_wp2
   go_quiet (fail)
   go_wp2
   go_roundw
   case rel=>exact ⟨k + 1,m + (4 + tn + en),by omega,by omega,by go_num,by congr 1;omega,HS,by first | exact HW.out | exact HW.out.drew | exact below_drewN HW.out _⟩
   case measure=>simp [intOf];omega
  ·have hkn : k = xs.length:=by omega
   subst hkn
   rw [HTK.out] at HM
   by_cases hbig : 1000 < m
   ·have HF : Hid (b = false):=HEX.out (by rw [<- HM.out];exact hbig)
    have gb : (1000 : Int) < (m : Int):=by omega
    go_wp2
    go_ret
    exact ⟨by rw [HF.out];rfl,HB1.out.trans (HW.out.mono HB1.out.size)⟩
   ·have gb : ¬ (1000 : Int) < (m : Int):=by omega
    have HW1 : Hid (Bw w1 wr):=HW
    go_wp2
    clear HW HM kc
    go_loopw [5,6] (fun sv i wq=>∃ (k : Nat) (s : ByteArray),k <= xs.length /\ i = .int .i64 k /\ sv = .string s /\ Hid (s = prDs (l.take k)) /\ Hid ((l.take k).all okD = true) /\ Hid (Bw w1 wq)) (fun _ i _=>xs.length - (intOf i).toNat)
    case atStart=>exact ⟨0,_,Nat.zero_le _,rfl,rfl,rfl,rfl,HW1⟩
    case round=>
     obtain ⟨k,s,hk,rfl,rfl,HS,HA,HW⟩:=hrel
     have HWw : Hid (Bw w wr):=HB1.out.trans (HW.out.mono HB1.out.size)
     have kc:=HC.out wr HW.out
     have sb:=HPB.out k HA.out
     rw [<- HS.out] at sb
     by_cases hlt : k < xs.length
     ·obtain ⟨g,ta,tc,ea,ec,rfl,y0,y1,y2,y3,di,dv⟩:=(HDS.out wr HWw.out).item hlt
      obtain ⟨p1,p2,p3⟩:=HPS.out hlt
      have hsb2:=HPB.out (k + 1)
      rw [p1,p2,HA.out,Bool.true_and,<- HS.out,bsa] at hsb2
      rw [<- HS.out] at p1
      rw [HA.out,Bool.true_and] at p2
      have CO:=v_declOk wr di
      have CP:=fun (W : World) (hb : Bw wr W) (ho : okD xs[k].1 = true)=>v_printDecl W (di.below hb) ho
      rw [dv] at CO
      rw [dv] at CP
      obtain ⟨X,hX⟩:=xe (xs[k])
      rw [<- hX] at y0 y1 y2 y3 p1 p2 p3 hsb2 CO CP
      have HY : Hid (∀ W,Bw wr W -> W.cell? ⟨w.heap.size,0,none⟩ = some (.slice (some ⟨g,0,none⟩) xs.length c) /\ W.cell? ⟨g,k * 4,none⟩ = some (Value.int .i64 X.1.kind) /\ W.cell? ⟨g,k * 4 + 1,none⟩ = some (Value.string X.1.nm) /\ W.cell? ⟨g,k * 4 + 2,none⟩ = some (Value.slice ta X.1.ty.length tc) /\ W.cell? ⟨g,k * 4 + 3,none⟩ = some (Value.slice ea X.1.ex.length ec)):=fun W hb=>by
       have q : ∀ {a : Addr} {u : Value},wr.cell? a = some u -> W.cell? a = some u:=fun {a u} hh=>(hb.cell (p:=a) (blt hh)).trans hh
       exact ⟨q kc,q y0,q y1,q y2,q y3⟩
      have hkl : (k : Int) < (xs.length : Int):=by omega
      have hk0 : (0 : Int) <= (k : Int):=by omega
      clear di dv hX
      cases ho : okD X.1 with
      | false=>
        have HF : Hid (b = false):=p3 ho
        rw [ho] at CO
        have CO' : Hid (Calls Tryz.prog 33 #[.agg #[.int .i64 X.1.kind,.string X.1.nm,.slice ta X.1.ty.length tc,.slice ea X.1.ex.length ec]] wr fun e w'=>e = .returned (.bool false) /\ Bw wr w'):=CO
        clear CO CP p1 p2 p3 hsb2 ho
        go_wp2_with (first | (go_at_call 33;refine CO'.out.mono ?_;rintro e w2 ⟨rfl,hb2⟩))
        go_ret
        exact ⟨by rw [HF.out];rfl,HWw.out.trans (hb2.mono HWw.out.size)⟩
      | true=>
        rw [ho] at CO
        have CO' : Hid (Calls Tryz.prog 33 #[.agg #[.int .i64 X.1.kind,.string X.1.nm,.slice ta X.1.ty.length tc,.slice ea X.1.ex.length ec]] wr fun e w'=>e = .returned (.bool true) /\ Bw wr w'):=CO
        obtain ⟨T,hT⟩:=xe (prD X.1)
        rw [<- hT] at p1
        have sT : s.size + T.size <= 33554432:=by rw [hT];exact hsb2 ho
        have CP' : Hid (∀ W,Bw wr W -> Calls Tryz.prog 34 #[.agg #[.int .i64 X.1.kind,.string X.1.nm,.slice ta X.1.ty.length tc,.slice ea X.1.ex.length ec]] W fun e w'=>e = .returned (.string T) /\ Bw W w'):=fun W hb=>by rw [hT];exact CP W hb ho
        have HS2 : Hid (s ++ T = prDs (l.take (k + 1))):=p1.symm
        have HA2 : Hid ((l.take (k + 1)).all okD = true):=p2.trans ho
        have cc:=rsa s T (by omega)
        clear CO CP p1 p2 p3 hsb2 ho hT
        go_wp2_with fail
        refine CO'.out.mono ?_
        rintro e w2 ⟨rfl,hb2⟩
        have HW2 : Hid (Bw wr w2):=hb2
        have C2:=CP'.out w2 hb2
        obtain ⟨x0,x1,x2,x3,x4⟩:=HY.out w2 hb2
        clear hb2 kc y0 y1 y2 y3
        go_wp2_with fail
        refine C2.mono ?_
        rintro e w3 ⟨rfl,hb3⟩
        have HW3 : Hid (Bw w1 w3):=HW.out.trans ((HW2.out.trans (hb3.mono HW2.out.size)).mono HW.out.size)
        clear hb3 C2 x0 x1 x2 x3 x4
        go_wp2
        go_roundw
        case rel=>exact ⟨k + 1,s ++ T,by omega,by go_num,rfl,HS2,HA2,HW3⟩
        case measure=>simp [intOf];omega
     ·have hkn : k = xs.length:=by omega
      subst hkn
      rw [HTK.out] at HS HA
      have HF : Hid (b = decide (s.size <= 1000)):=by show _ = _;rw [HEN.out HA.out,HS.out]
      go_wp2
      go_ret
      refine ⟨?_,HWw.out⟩
      rw [HF.out]
      show Ending.returned (Value.bool (decide ((s.size : Int) <= 1000))) = _
      congr 2
      exact decide_eq_decide.2 (by omega)
theorem v_print (w : World) {v : Value} {xs : List (DC × DPl)} (h : DsA w v xs) {l : List DC} (hl : xs.map Prod.fst = l) :
  Calls Tryz.prog 71 #[.agg #[v]] w fun e w'=>e = .returned (.string (prM l)) /\ Bw w w':=by
 obtain ⟨a,c,rfl⟩:=h.form
 have hlen:=h.len
 have ll : l.length = xs.length:=by rw [<- hl,List.length_map]
 have hat : ∀ {k : Nat} (hk : k < xs.length),l[k]'(by omega) = xs[k].1:=fun {k} hk=>by subst hl;rw [List.getElem_map]
 have hcost : cDs l <= 1048576:=by rw [<- hl];exact h.cost
 have HPS : Hid (∀ {k : Nat} (hk : k < xs.length),prDs (l.take (k + 1)) = prDs (l.take k) ++ prD xs[k].1):=fun {k} hk=>by rw [prDs_take (by omega),hat hk]
 have HTK : Hid (l.take xs.length = l):=by show _ = _;rw [<- ll];exact List.take_length
 have HDS : Hid (∀ W,Bw w W -> DsA W (.slice a xs.length c) xs):=fun W hb=>h.below hb
 have CV : Hid (∀ W,Bw w W -> Calls Tryz.prog 14 #[.agg #[.slice a xs.length c]] W fun e w'=>e = .returned (.bool (okM l)) /\ Bw W w'):=fun W hb=>v_valid W (h.below hb) hl
 have HNO : Hid (okM l = false -> prM l = e0):=fun z=>by unfold prM;rw [z];rfl
 have HYES : Hid (okM l = true -> prM l = prDs l /\ (∀ {k : Nat} (hk : k < xs.length),okD xs[k].1 = true) /\ ∀ k,(prDs (l.take k)).size <= 33554432):=fun z=>by
  refine ⟨by unfold prM;rw [if_pos z],fun {k} hk=>?_,fun k=>?_⟩
  ·unfold okM at z
   rw [Bool.and_eq_true] at z
   have:=List.all_eq_true.1 z.1 _ (List.getElem_mem (show k < l.length by omega))
   rw [hat hk] at this
   exact this
  ·unfold okM at z
   rw [Bool.and_eq_true] at z
   have h1 : (l.take k).all okD = true:=List.all_eq_true.2 fun x hx=>List.all_eq_true.1 z.1 x (List.mem_of_mem_take hx)
   have:=(prDs_le h1).2
   have:=cDs_take l k
   omega
 obtain ⟨r,hr⟩:=xe (prM l)
 rw [<- hr] at HNO HYES ⊢
 clear h hl ll hat hcost hr
 obtain ⟨w1,hw1⟩:=xe (w.alloc (.cells #[.slice a xs.length c] 24))
 have HB1 : Hid (Bw w w1):=by rw [hw1];exact bel1 _ _
 have HC : Hid (∀ W : World,Bw w1 W -> W.cell? ⟨w.heap.size,0,none⟩ = some (.slice a xs.length c)):=fun W hb=>by
  have k0 : w1.cell? ⟨w.heap.size,0,none⟩ = some (.slice a xs.length c):=by rw [hw1];exact (row1 w (.slice a xs.length c) 24).cell (i:=0) (by omega)
  exact (hb.cell (p:=⟨w.heap.size,0,none⟩) (blt k0)).trans k0
 have C1:=CV.out w1 HB1.out
 go_enter Tryz.func71,Tryz.ntmps71
 go_wp2_with fail
 rw [<- hw1]
 clear hw1
 refine C1.mono ?_
 rintro e w2 ⟨rfl,hb2⟩
 have HW2 : Hid (Bw w1 w2):=hb2
 clear hb2 C1 CV
 cases hv : okM l with
 | false=>
   have HF : Hid (r = e0):=HNO.out hv
   go_wp2
   go_ret
   exact ⟨by rw [HF.out];rfl,HB1.out.trans (HW2.out.mono HB1.out.size)⟩
 | true=>
   obtain ⟨u1,u2,u3⟩:=HYES.out hv
   have HF : Hid (r = prDs l):=u1
   have HO : Hid (∀ {k : Nat} (hk : k < xs.length),okD xs[k].1 = true):=u2
   have HPB : Hid (∀ k,(prDs (l.take k)).size <= 33554432):=u3
   clear u1 u2 u3 HYES HNO hv
   go_wp2
   go_loopw [3,4] (fun sv i wq=>∃ (k : Nat) (s : ByteArray),k <= xs.length /\ i = .int .i64 k /\ sv = .string s /\ Hid (s = prDs (l.take k)) /\ Hid (Bw w1 wq)) (fun _ i _=>xs.length - (intOf i).toNat)
   case atStart=>exact ⟨0,_,Nat.zero_le _,rfl,rfl,rfl,HW2⟩
   case round=>
    obtain ⟨k,s,hk,rfl,rfl,HS,HW⟩:=hrel
    have HWw : Hid (Bw w wr):=HB1.out.trans (HW.out.mono HB1.out.size)
    have kc:=HC.out wr HW.out
    by_cases hlt : k < xs.length
    ·obtain ⟨g,ta,tc,ea,ec,rfl,y0,y1,y2,y3,di,dv⟩:=(HDS.out wr HWw.out).item hlt
     have p1:=HPS.out hlt
     rw [<- HS.out] at p1
     have hsb:=HPB.out (k + 1)
     rw [p1,bsa] at hsb
     have CP:=v_printDecl wr di (HO.out hlt)
     rw [dv] at CP
     obtain ⟨X,hX⟩:=xe (xs[k])
     rw [<- hX] at y0 y1 y2 y3 p1 hsb CP
     have hkl : (k : Int) < (xs.length : Int):=by omega
     have hk0 : (0 : Int) <= (k : Int):=by omega
     obtain ⟨T,hT⟩:=xe (prD X.1)
     rw [<- hT] at p1 CP hsb
     have HS2 : Hid (s ++ T = prDs (l.take (k + 1))):=p1.symm
     have cc:=rsa s T (by omega)
     have CP' : Hid (Calls Tryz.prog 34 #[.agg #[.int .i64 X.1.kind,.string X.1.nm,.slice ta X.1.ty.length tc,.slice ea X.1.ex.length ec]] wr fun e w'=>e = .returned (.string T) /\ Bw wr w'):=CP
     clear di dv hX hT p1 CP
     go_wp2_with (first | (go_at_call 34;refine CP'.out.mono ?_;rintro e w3 ⟨rfl,hb3⟩))
     have HW3 : Hid (Bw w1 w3):=HW.out.trans (hb3.mono HW.out.size)
     clear hb3
     go_roundw
     case rel=>exact ⟨k + 1,s ++ T,by omega,by go_num,rfl,HS2,HW3⟩
     case measure=>simp [intOf];omega
    ·have hkn : k = xs.length:=by omega
     subst hkn
     rw [HTK.out] at HS
     go_wp2
     go_ret
     exact ⟨by rw [HF.out,<- HS.out];rfl,HWw.out⟩
end Go.Proofs.YtcehppndpccldaaGreatDoor
