/-
  VaC VdA VdB VdC
-/
import Derived.Test.YtihedobejcaapaaGreatDoorB6
import Derived.Test.YtihedobejcaapaaGreatDoorB8
set_option maxHeartbeats 8000000
set_option maxRecDepth 100000
namespace Go.Proofs.YtihedobejcaapaaGreatDoor
def kx (ns : List ByteArray) : Nat:=(ns.map ByteArray.size).sum
def cN (ns : List ByteArray) : Nat:=ns.length + kx ns
def cT (t : TI) : Nat:=t.md.size + t.nm.size + cN t.ns
def bQ (ts : List TI) : Nat:=ts.length + (ts.map cT).sum
def cE (e : EI) : Nat:=e.md.size + e.nm.size + cN e.ns + bQ e.ty
def ed (es : List EI) : Nat:=es.length + (es.map cE).sum
def cD (d : DC) : Nat:=d.nm.size + bQ d.ty + ed d.ex
def eX (ds : List DC) : Nat:=ds.length + (ds.map cD).sum
theorem iN {α : Type} (f : α -> Nat) (l : List α) (k : Nat) : ((l.take k).map f).sum <= (l.map f).sum:=by
 conv=>rhs;rw [<- List.take_append_drop k l]
 rw [List.map_append,List.sum_append];omega
theorem mo {α : Type} (f : α -> Nat) {l : List α} {x : α} (h : x ∈ l) : f x <= (l.map f).sum:=by
 induction l with
 | nil=>cases h
 | cons y l ih=>
   rw [List.map_cons,List.sum_cons];rcases List.mem_cons.1 h with e | e
   ·rw [e];omega
   ·have:=ih e;omega
theorem dw (t : ByteArray) (ts : List ByteArray) : d6 (t :: ts) = t.size + d6 ts:=by simp [d6]
theorem mz : d6 [] = 0:=rfl
theorem rK (sign : ByteArray) (hs : sign.size <= 3) : ∀ (ah : ByteArray) (ns : List ByteArray),ah.size <= 2 -> d6 (jq sign ah ns) <= 5 * ns.length + kx ns + 1
 | ah,[],_=>by rw [jq,dw,mz];show (1 : Nat) + 0 <= _;omega
 | ah,n :: ns,ha=>by
   rw [jq,dw,bsa,bsa,List.length_cons];have:=rK sign hs ld ns (by show 2 <= 2;omega);have e : kx (n :: ns) = n.size + kx ns:=by simp [kx]
   omega
theorem rv (ns : List ByteArray) (sign : ByteArray) (lev : Nat) (hs : sign.size <= 3) : d6 (fF ns sign lev).texts <= 5 * ns.length + kx ns + 2 /\ 1 <= d6 (fF ns sign lev).texts:=by
 unfold fF
 split
 ·show d6 [zu] <= _ /\ _
  rw [show d6 [zu] = 2 from rfl];exact ⟨by omega,by show 1 <= d6 [zu];rw [show d6 [zu] = 2 from rfl];omega⟩
 ·refine ⟨Nat.le_trans (rK sign hs xO ns (by show 1 <= 2;omega)) (by omega),?_⟩
  show 1 <= d6 (jq sign xO ns)
  cases ns with
  | nil=>rw [jq,dw];show 1 <= 1 + _;omega
  | cons n ns=>
    rw [jq,dw,bsa,bsa];show 1 <= 1 + _ + _ + _;omega
theorem ny {s : ByteArray} (h : gn s = true) : 1 <= s.size /\ s.size <= 12:=by
 by_cases z : s.size < 1 \/ 12 < s.size
 ·rw [fg z] at h;cases h
 ·omega
theorem vq {t : TI} {f : Fm} (h : fT t = some f) : d6 f.texts + 2 * f.needs.length <= 8 * (1 + cT t) /\ 1 <= d6 f.texts:=by
 have c : cT t = t.md.size + t.nm.size + (t.ns.length + kx t.ns):=rfl;unfold fT at h;refine ak h (fun z h=>ak h (fun y e=>?_) fun _ h=>aa h) fun z4 h=>?_
 ·cases e
  have b : gn t.nm = true:=by
   simp only [Bool.and_eq_true] at y;have:=y.1;unfold aI at this;simp only [Bool.and_eq_true] at this;exact this.1
  have:=ny b;have a : d6 [ia t.md t.nm] = (ia t.md t.nm).size:=by rw [dw,mz];omega
  show d6 [ia t.md t.nm] + 2 * 0 <= _ /\ 1 <= d6 [ia t.md t.nm];rw [a];unfold ia
  split
  ·omega
  ·rw [bsa,bsa]
   have : aQ.size = 1:=rfl;omega
 refine ac h (fun h=>?_) aa;refine ac h (fun h=>ac h (fun e=>?_) aa) fun h=>?_
 ·cases e
  have:=rv t.ns dz 1 (by show 2 <= 3;omega);rw [(bq _ _ _).2.1];omega
 refine ac h (fun h=>?_) aa;refine ac h (fun e=>by cases e;show 3 + 0 <= _ /\ 1 <= 3;omega) fun h=>?_;refine ac h (fun e=>by cases e;show 4 + 0 <= _ /\ 1 <= 4;omega) fun h=>?_;refine ac h (fun e=>by cases e;show 1 + 0 <= _ /\ 1 <= 1;omega) fun h=>?_;exact ac h (fun e=>by cases e;show 4 + 4 <= _ /\ 1 <= 4;omega) aa
theorem iy {F : Nat -> Fm} {wt : Nat -> Nat} : ∀ {k : Nat},(∀ i,i < k -> qU (F i) /\ d6 (F i).texts + 2 * (F i).needs.length <= wt i /\ 1 <= d6 (F i).texts) -> Vk (fun i=>(F i).needs.length) k -> k <= szW (bk F k) /\ szW (bk F k) <= ((List.range k).map wt).sum
 | 0,_,_=>⟨Nat.zero_le _,by simp [bk,szW]⟩
 | k + 1,hF,hv=>by
   obtain ⟨h1,h2⟩:=iy (fun i hi=>hF i (Nat.lt_succ_of_lt hi)) (hv.mono (Nat.le_succ _));obtain ⟨o1,o2,o3⟩:=hF k (Nat.lt_succ_self _);have st:=nY o1 (by rw [eD];exact hv k (Nat.lt_succ_self _));rw [List.range_succ,List.map_append,List.sum_append];have e : ([k].map wt).sum = wt k:=by simp
   omega
theorem zq {F : Nat -> Fm} {k : Nat} : (pw F k).1.size <= szW (bk F k):=by
 cases k with
 | zero=>show (0 : Nat) <= _;exact Nat.zero_le _
 | succ k=>
   rw [bk,gW,dQ];show (aC _ _ _).size <= _ + (aC _ _ _).size;omega
theorem jC {α : Type} (f : α -> Nat) (l : List α) (d : Nat) : ∀ k,k <= l.length -> ((List.range k).map fun i=>((l[i]?).map f).getD d).sum = ((l.take k).map f).sum
 | 0,_=>by simp
 | k + 1,hk=>by
   rw [List.range_succ,List.map_append,List.sum_append,jC f l d k (by omega),List.take_add_one,List.getElem?_eq_getElem (by omega),List.map_append,List.sum_append];have e : ((l[k]?).map f).getD d = f (l[k]'(by omega)):=by rw [List.getElem?_eq_getElem (by omega)];rfl
   simp [e]
theorem nL {ts : List TI} {k : Nat} (hk : k <= ts.length) (har : ∀ j,j < k -> aT ts j = some (FT ts j).needs.length) (hv : Vk (fun i=>(FT ts i).needs.length) k) : k <= szW (bk (FT ts) k) /\ (pw (FT ts) k).1.size <= 8 * bQ ts /\ szW (bk (FT ts) k) <= 8 * bQ ts:=by
 have h:=iy (F:=FT ts) (wt:=fun i=>((ts[i]?).map fun t=>8 * (1 + cT t)).getD 0) (k:=k) (fun i hi=>by
  have a : i < ts.length:=by omega
  have b:=har i hi;unfold aT at b;rw [List.getElem?_eq_getElem a] at b
  dsimp only [Option.bind_some] at b
  cases hf : fT ts[i] with
  | none=>rw [hf] at b;cases b
  | some f=>
    have e : FT ts i = f:=by unfold FT;rw [List.getElem?_eq_getElem a];show (fT ts[i]).getD wK = f;rw [hf];rfl
    rw [e,List.getElem?_eq_getElem a];exact ⟨uP hf,(vq hf).1,(vq hf).2⟩) hv
 rw [jC _ _ _ _ hk] at h;have c:=iN (fun t=>8 * (1 + cT t)) ts k
 have d : (ts.map fun t=>8 * (1 + cT t)).sum = 8 * bQ ts:=by
  unfold bQ;clear h c hk har hv
  induction ts with
  | nil=>rfl
  | cons t ts ih=>rw [List.map_cons,List.sum_cons,ih,List.map_cons,List.sum_cons,List.length_cons];omega
 have g:=zq (F:=FT ts) (k:=k);omega
theorem uO (n : Nat) : 1 <= (bP n).size:=by
 rw [bP]
 split
 ·rename_i h;rw [jf n h];omega
 ·rw [bsa,jf _ (Nat.mod_lt _ (by omega))];omega
theorem kN {ts : List TI} (h : dH ts = true) : Vk (fun i=>(FT ts i).needs.length) ts.length /\ (∀ j,j < ts.length -> aT ts j = some (FT ts j).needs.length) /\ 0 < ts.length /\ szW (bk (FT ts) ts.length) = (fW ts).size:=by
 have c : bN (aT ts) ts.length = some 1:=by unfold dH at h;exact beq_iff_eq.1 h
 obtain ⟨g,e,d⟩:=gF (a:=fun i=>(FT ts i).needs.length) (fun j n _ hj=>Ba hj) c
 have k : 0 < ts.length:=by
  cases ts with
  | nil=>cases h
  | cons x y=>simp
 refine ⟨g,d,k,?_⟩;obtain ⟨m,f⟩ : ∃ m,ts.length = m + 1:=⟨ts.length - 1,by omega⟩;unfold fW;have b : (bk (FT ts) ts.length).length = 1:=by rw [eD,e]
 rw [f] at b ⊢;rw [bk] at b ⊢;have : (bk (FT ts) m).take ((bk (FT ts) m).length - (FT ts m).needs.length) = []:=List.length_eq_zero_iff.1 (by rw [lap] at b;simp only [List.length_singleton] at b;omega);rw [this,List.nil_append,dQ];rfl
theorem uf {t : EI} {f : Fm} (h : fE t = some f) : d6 f.texts + 2 * f.needs.length <= 32 * (1 + cE t) /\ 1 <= d6 f.texts:=by
 have j : cE t = t.md.size + t.nm.size + (t.ns.length + kx t.ns) + bQ t.ty:=rfl;have b : ∀ a : ByteArray,d6 [a] = a.size:=fun a=>by rw [dw,mz];omega
 rcases fE_cases h with ⟨_,n,o,rfl⟩ | ⟨_,_,rfl⟩ | ⟨_,_,rfl⟩ | ⟨z,rfl⟩ | ⟨_,rfl⟩ | ⟨z,rfl⟩ | ⟨z,g,rfl⟩ | ⟨_,rfl⟩ | ⟨_,rfl⟩ | ⟨_,rfl⟩ | ⟨_,rfl⟩
 ·show d6 [hU t.num.toNat] + 2 * 0 <= _ /\ 1 <= d6 [hU t.num.toNat]
  rw [b];have k:=uO t.num.toNat;have m:=jw 9 t.num.toNat (by omega) (by omega);unfold hU;omega
 ·show 5 + 0 <= _ /\ 1 <= 5
  omega
 ·show 4 + 0 <= _ /\ 1 <= 4
  omega
 ·have c : gn t.nm = true:=by
   unfold fE at h;rw [if_pos z] at h;refine ak h (fun y _=>?_) fun _ h=>aa h;simp only [Bool.and_eq_true] at y;have:=y.1.1.1;unfold aI at this;simp only [Bool.and_eq_true] at this;exact this.1
  have:=ny c;show d6 [ia t.md t.nm] + 2 * 0 <= _ /\ 1 <= d6 [ia t.md t.nm];rw [b];unfold ia
  split
  ·omega
  ·rw [bsa,bsa]
   have : aQ.size = 1:=rfl;omega
 ·have:=rv t.ns ft 4 (by show 3 <= 3;omega)
  rw [(bq _ _ _).2.1];omega
 ·show d6 [e0,gi ++ t.nm] + 2 * 1 <= _ /\ 1 <= d6 [e0,gi ++ t.nm]
  rw [dw,b,bsa];have : gi.size = 1:=rfl;have : e0.size = 0:=rfl;omega
 ·show d6 [gu ++ t.nm ++ dz ++ fW t.ty ++ ij,e0] + 2 * 1 <= _ /\ 1 <= d6 [gu ++ t.nm ++ dz ++ fW t.ty ++ ij,e0]
  rw [dw,b,bsa,bsa,bsa,bsa];have : gu.size = 4:=rfl;have : dz.size = 2:=rfl;have : ij.size = 2:=rfl;have : e0.size = 0:=rfl;obtain ⟨e,d,l,i⟩:=kN g;have:=(nL (nlr _) d e).2.2;omega
 ·show 2 + 4 <= _ /\ 1 <= 2
  omega
 ·show 15 + 6 <= _ /\ 1 <= 15
  omega
 ·show 3 + 4 <= _ /\ 1 <= 3
  omega
 ·show 3 + 4 <= _ /\ 1 <= 3
  omega
theorem uD {ts : List EI} {k : Nat} (hk : k <= ts.length) (har : ∀ j,j < k -> aE ts j = some (FE ts j).needs.length) (hv : Vk (fun i=>(FE ts i).needs.length) k) : k <= szW (bk (FE ts) k) /\ (pw (FE ts) k).1.size <= 32 * ed ts /\ szW (bk (FE ts) k) <= 32 * ed ts:=by
 have h:=iy (F:=FE ts) (wt:=fun i=>((ts[i]?).map fun t=>32 * (1 + cE t)).getD 0) (k:=k) (fun i hi=>by
  have a : i < ts.length:=by omega
  have b:=har i hi;unfold aE at b;rw [List.getElem?_eq_getElem a] at b
  dsimp only [Option.bind_some] at b
  cases hf : fE ts[i] with
  | none=>rw [hf] at b;cases b
  | some f=>
    have e : FE ts i = f:=by unfold FE;rw [List.getElem?_eq_getElem a];show (fE ts[i]).getD wK = f;rw [hf];rfl
    rw [e,List.getElem?_eq_getElem a];exact ⟨qY hf,(uf hf).1,(uf hf).2⟩) hv
 rw [jC _ _ _ _ hk] at h;have c:=iN (fun t=>32 * (1 + cE t)) ts k
 have d : (ts.map fun t=>32 * (1 + cE t)).sum = 32 * ed ts:=by
  unfold ed;clear h c hk har hv
  induction ts with
  | nil=>rfl
  | cons t ts ih=>rw [List.map_cons,List.sum_cons,ih,List.map_cons,List.sum_cons,List.length_cons];omega
 have g:=zq (F:=FE ts) (k:=k);omega
theorem pS {ts : List EI} (h : nO ts = true) : Vk (fun i=>(FE ts i).needs.length) ts.length /\ (∀ j,j < ts.length -> aE ts j = some (FE ts j).needs.length) /\ 0 < ts.length /\ szW (bk (FE ts) ts.length) = (ww ts).size:=by
 have c : bN (aE ts) ts.length = some 1:=by unfold nO at h;exact beq_iff_eq.1 h
 obtain ⟨g,e,d⟩:=gF (a:=fun i=>(FE ts i).needs.length) (fun j n _ hj=>BG hj) c
 have k : 0 < ts.length:=by
  cases ts with
  | nil=>cases h
  | cons x y=>simp
 refine ⟨g,d,k,?_⟩;obtain ⟨m,f⟩ : ∃ m,ts.length = m + 1:=⟨ts.length - 1,by omega⟩;unfold ww;have b : (bk (FE ts) ts.length).length = 1:=by rw [eD,e]
 rw [f] at b ⊢;rw [bk] at b ⊢;have : (bk (FE ts) m).take ((bk (FE ts) m).length - (FE ts m).needs.length) = []:=List.length_eq_zero_iff.1 (by rw [lap] at b;simp only [List.length_singleton] at b;omega);rw [this,List.nil_append,dQ];rfl
theorem Aw {d : DC} (h : fO d = true) : 4 + d.ty.length + d.ex.length <= (nN d).size /\ (nN d).size <= 32 * cD d + 32:=by
 have j : cD d = d.nm.size + bQ d.ty + ed d.ex:=rfl;have r : pQ.size = 7:=rfl;have l : pL.size = 5:=rfl;have q : pV.size = 4:=rfl;have m : ft.size = 3:=rfl;have i : dz.size = 2:=rfl;have p : iH.size = 2:=rfl;unfold fO at h;rw [Bool.and_eq_true] at h;obtain ⟨k,h⟩:=h;unfold nN
 split at h
 case isTrue z=>
  rw [if_pos z,bsa,bsa];simp only [Bool.and_eq_true,decide_eq_true_eq] at h;omega
 case isFalse z=>
  rw [if_neg z]
  split at h
  case isTrue z2=>
   rw [if_pos z2,bsa,bsa,bsa,bsa];simp only [Bool.and_eq_true,decide_eq_true_eq] at h;obtain ⟨b,a,e,c⟩:=kN h.1;have:=nL (nlr _) a b;omega
  case isFalse z2=>
   rw [if_neg z2,bsa,bsa,bsa,bsa,bsa,bsa];simp only [Bool.and_eq_true,decide_eq_true_eq] at h;obtain ⟨b,a,e,c⟩:=kN h.1.2;have:=nL (nlr _) a b;obtain ⟨f,g,n,o⟩:=pS h.2;have:=uD (nlr _) g f;omega
end Go.Proofs.YtihedobejcaapaaGreatDoor
namespace Go.Proofs.YtihedobejcaapaaGreatDoor
open Go.RowKit
structure jJ (w : World) (d : DC) (p : DPl) : Prop where
 ty : fq w p.tv p.zs
 isT : p.zs.map Prod.fst = d.ty
 ex : kh w p.ev p.es
 isE : p.es.map Prod.fst = d.ex
 cost : cD d <= 1048576
theorem jJ.below {w w' : World} {d : DC} {p : DPl} (h : jJ w d p) (hb : Bw w w') : jJ w' d p:=⟨h.ty.below hb,h.isT,h.ex.below hb,h.isE,h.cost⟩
theorem jJ.form {w : World} {d : DC} {p : DPl} (h : jJ w d p) : ∃ ta tc ea ec,p.tv = .slice ta d.ty.length tc /\ p.ev = .slice ea d.ex.length ec:=by
 obtain ⟨ta,tc,a⟩:=h.ty.form;obtain ⟨ea,ec,b⟩:=h.ex.form;have c : p.zs.length = d.ty.length:=by rw [<- h.isT,List.length_map]
 have e : p.es.length = d.ex.length:=by rw [<- h.isE,List.length_map]
 exact ⟨ta,tc,ea,ec,by rw [a,c],by rw [b,e]⟩
def Al (kind : Int) (nm : ByteArray) (tn en : Nat) (tb eb : Bool) : Bool:=gn nm && (
 if kind = 1 then decide (tn = 0) && decide (en = 0)
 else if kind = 2 then tb && decide (en = 0)
 else decide (kind = 3) && tb && eb)
theorem sM (w : World) (kind : Int) (nm : ByteArray) (ta ea : Option Addr) (tn tc en ec : Nat) (tb eb : Bool) (zn : nm.size <= 1048576) (zt : tn <= 1048576) (ze : en <= 1048576)
  (CT : Hid (∀ W,Bw w W -> Calls Tryz.prog 24 #[.slice ta tn tc] W fun e w'=>e = .returned (.bool tb) /\ Hid (Bw W w')))
  (CE : Hid (∀ W,Bw w W -> Calls Tryz.prog 25 #[.slice ea en ec] W fun e w'=>e = .returned (.bool eb) /\ Hid (Bw W w'))) :
  Calls Tryz.prog 11 #[.agg #[.int .i64 kind,.string nm,.slice ta tn tc,.slice ea en ec]] w fun e w'=>e = .returned (.bool (Al kind nm tn en tb eb)) /\ Bw w w':=by
 obtain ⟨r,a⟩:=xe (Al kind nm tn en tb eb);rw [<- a];have t : Hid (∀ W,Calls Tryz.prog 23 #[.string nm] W fun e w'=>e = .returned (.bool (gn nm)) /\ w' = W):=fun W=>Bl nm W (by omega);unfold Al at a;have f:=fK w (.int .i64 kind) (.string nm) (.slice ta tn tc) (.slice ea en ec) 37;go_enter Tryz.func11,Tryz.ntmps11;go_wp2_with fail;refine (t.out _).mono ?_;rintro v x ⟨rfl,rfl⟩
 cases hg : gn nm with
 | false=>
   rw [hg,Bool.false_and] at a;subst a;go_wp2;go_ret;exact ⟨rfl,bel1 _ _⟩
 | true=>
   rw [hg,Bool.true_and] at a;by_cases j : kind = 1
   ·rw [if_pos j] at a
    subst j;by_cases o : tn = 0
    ·subst o
     by_cases e0 : en = 0
     ·subst e0
      subst a;go_wp2;go_ret;exact ⟨rfl,bel1 _ _⟩
     ·have l : ¬ (en : Int) = 0:=by omega
      rw [decide_eq_false e0,Bool.and_false] at a;subst a;go_wp2;go_ret;exact ⟨by show Ending.returned (Value.bool ((en : Int) == 0)) = _;rw [bn2 l],bel1 _ _⟩
    ·have l : ¬ (tn : Int) = 0:=by omega
     rw [decide_eq_false o,Bool.false_and] at a;subst a;go_wp2;go_ret;exact ⟨rfl,bel1 _ _⟩
   ·rw [if_neg j] at a
    by_cases k : kind = 2
    ·rw [if_pos k] at a
     subst k;clear j;go_wp2_with fail;refine (CT.out _ (bel1 _ _)).mono ?_;rintro p g ⟨rfl,d⟩;have b : Hid (Bw w g):=(bel1 _ _).trans (d.out.mono (by simp));have c:=f.of_block (d.out.block _ f.lt);have q : g.cell? ⟨w.heap.size,3,none⟩ = some (.slice ea en ec):=c.cell (i:=3) (by omega);clear f c d
     cases tb with
     | false=>
       rw [Bool.false_and] at a;subst a;go_wp2;go_ret;exact ⟨rfl,b.out⟩
     | true=>
       rw [Bool.true_and] at a;by_cases e0 : en = 0
       ·subst e0
        subst a;go_wp2;go_ret;exact ⟨rfl,b.out⟩
       ·have l : ¬ (en : Int) = 0:=by omega
        rw [decide_eq_false e0] at a;subst a;go_wp2;go_ret;exact ⟨by show Ending.returned (Value.bool ((en : Int) == 0)) = _;rw [bn2 l],b.out⟩
    ·rw [if_neg k] at a
     by_cases m : kind = 3
     ·rw [decide_eq_true m,Bool.true_and] at a
      subst m;clear j k;go_wp2_with fail;refine (CT.out _ (bel1 _ _)).mono ?_;rintro p g ⟨rfl,d⟩;have b : Hid (Bw w g):=(bel1 _ _).trans (d.out.mono (by simp));have c:=f.of_block (d.out.block _ f.lt);have q : g.cell? ⟨w.heap.size,3,none⟩ = some (.slice ea en ec):=c.cell (i:=3) (by omega);clear f c d
      cases tb with
      | false=>
        rw [Bool.false_and] at a;subst a;go_wp2;go_ret;exact ⟨rfl,b.out⟩
      | true=>
        rw [Bool.true_and] at a;subst a;go_wp2_with fail;refine (CE.out _ b.out).mono ?_;rintro u s ⟨rfl,h⟩;have n : Hid (Bw w s):=b.out.trans (h.out.mono b.out.size);clear h;cases r <;>
        ·go_wp2
         go_ret;exact ⟨rfl,n.out⟩
     ·rw [decide_eq_false m,Bool.false_and] at a
      subst a;go_wp2;go_ret;exact ⟨rfl,bel1 _ _⟩
theorem v8 (w : World) {d : DC} {p : DPl} (h : jJ w d p) :
  Calls Tryz.prog 11 #[dV d p] w fun e w'=>e = .returned (.bool (fO d)) /\ Bw w w':=by
 obtain ⟨g,c,j,f,a,b⟩:=h.form;have k : cD d = d.nm.size + (d.ty.length + (d.ty.map cT).sum) + (d.ex.length + (d.ex.map cE).sum):=rfl;have i:=h.cost;unfold dV;rw [a,b]
 have:=sM w d.kind d.nm g j d.ty.length c d.ex.length f (dH d.ty) (nO d.ex) (by omega) (by omega) (by omega)
  (fun W hb=>by
   have:=oz W (h.ty.below hb) h.isT;rw [a] at this;exact this)
  (fun W hb=>by
   have:=vf W (h.ex.below hb) h.isE;rw [b] at this;exact this)
 exact this
theorem BF {t : EI} {f : Fm} (h : fE t = some f) : dH t.ty = true \/ t.ty.length = 0:=by
 unfold fE at h;refine ak h (fun _ h=>ak h (fun y _=>?_) fun _ h=>aa h) fun _ h=>?_
 ·simp only [Bool.and_eq_true,decide_eq_true_eq] at y
  exact Or.inr y.2
 refine ac h (fun h=>?_) aa;refine ac h (fun h=>ak h (fun y _=>?_) fun _ h=>aa h) fun h=>?_
 ·simp only [Bool.and_eq_true] at y
  exact Or.inl y.1.1.2
 exact ak h (fun z _=>Or.inr z) fun _ h=>aa h
theorem nt {ts : List TI} (h : dH ts = true \/ ts.length = 0) {k : Nat} (hk : k <= ts.length) : (pw (FT ts) k).1.size <= 8 * bQ ts:=by
 rcases h with h | h
 ·obtain ⟨b,a,_,_⟩:=kN h
  exact (nL hk (fun j hj=>a j (by omega)) (b.mono hk)).2.1
 ·have : k = 0:=by omega
  subst this;show (0 : Nat) <= _;exact Nat.zero_le _
theorem vN {ts : List EI} (h : nO ts = true) {k : Nat} (hk : k <= ts.length) : (pw (FE ts) k).1.size <= 32 * ed ts:=by
 obtain ⟨b,a,_,_⟩:=pS h;exact (uD hk (fun j hj=>a j (by omega)) (b.mono hk)).2.1
theorem Ch (w : World) {d : DC} {p : DPl} (h : jJ w d p) {ta : Option Addr} {tc : Nat} (htv : p.tv = .slice ta d.ty.length tc) (hok : dH d.ty = true) :
  Calls Tryz.prog 26 #[.slice ta d.ty.length tc,.int .i64 (d.ty.length : Int)] w fun r w'=>r = .returned (.string (fW d.ty)) /\ Hid (Bw w w'):=by
 obtain ⟨g,f,q,_⟩:=kN hok;obtain ⟨m,n⟩ : ∃ m,d.ty.length = m + 1:=⟨d.ty.length - 1,by omega⟩;have e : p.zs.length = d.ty.length:=by rw [<- h.isT,List.length_map]
 have o : cD d = d.nm.size + bQ d.ty + ed d.ex:=rfl;have i:=h.cost;have b:=h.ty;rw [htv,<- e] at b;have:=pe (xs:=p.zs) (l:=d.ty) (a:=ta) (c:=tc) m ⟨h.isT,fun j hj=>f j (by omega),g.mono (by omega),fun k hk=>Nat.le_trans (nt (Or.inl hok) (by omega)) (by omega)⟩ (by omega) w (d.ty.length : Int) b (by omega);rw [e] at this;unfold fW;rw [n] at this ⊢;exact this
theorem Dc (w : World) {d : DC} {p : DPl} (h : jJ w d p) {ta : Option Addr} {tc : Nat} (htv : p.ev = .slice ta d.ex.length tc) (hok : nO d.ex = true) :
  Calls Tryz.prog 27 #[.slice ta d.ex.length tc,.int .i64 (d.ex.length : Int)] w fun r w'=>r = .returned (.string (ww d.ex)) /\ Hid (Bw w w'):=by
 obtain ⟨u,o,y,_⟩:=pS hok;obtain ⟨m,t⟩ : ∃ m,d.ex.length = m + 1:=⟨d.ex.length - 1,by omega⟩;have s : p.es.length = d.ex.length:=by rw [<- h.isE,List.length_map]
 have D : cD d = d.nm.size + bQ d.ty + ed d.ex:=rfl;have v:=h.cost;have q:=h.ex;rw [htv,<- s] at q
 have i : ∀ x,x ∈ p.es -> ∀ k,k <= x.1.ty.length -> (pw (FT x.1.ty) k).1.size <= 100000000:=fun x hx k hk=>by
  have e : x.1 ∈ d.ex:=by rw [<- h.isE];exact List.mem_map_of_mem hx
  obtain ⟨j,n,g⟩:=List.getElem_of_mem e;have b:=o j n;unfold aE at b;rw [List.getElem?_eq_getElem n,g] at b
  dsimp only [Option.bind_some] at b
  cases hf : fE x.1 with
  | none=>rw [hf] at b;cases b
  | some f=>
    have z:=nt (BF hf) hk;have C:=mo cE e;have B : cE x.1 = x.1.md.size + x.1.nm.size + cN x.1.ns + bQ x.1.ty:=rfl;have A : ed d.ex = d.ex.length + (d.ex.map cE).sum:=rfl;omega
 have:=vZ (xs:=p.es) (l:=d.ex) (a:=ta) (c:=tc) m ⟨h.isE,fun j n=>o j (by omega),u.mono (by omega),fun k hk=>Nat.le_trans (vN hok (by omega)) (by omega),i⟩ (by omega) w (d.ex.length : Int) q (by omega);rw [s] at this;unfold ww;rw [t] at this ⊢;exact this
theorem B6 (w : World) (nm : ByteArray) (ta ea : Option Addr) (tn tc en ec : Nat) (zn : nm.size <= 1048576) :
  Calls Tryz.prog 12 #[.agg #[.int .i64 1,.string nm,.slice ta tn tc,.slice ea en ec]] w fun e w'=>e = .returned (.string (pQ ++ nm ++ iH)) /\ Bw w w':=by
 have a : (⟨#[105,109,112,111,114,116,32]⟩ : ByteArray).size = 7:=rfl;have b : (⟨#[59,10]⟩ : ByteArray).size = 2:=rfl;have d:=rsa (⟨#[105,109,112,111,114,116,32]⟩ : ByteArray) nm (by rw [a];omega);have c:=rsa ((⟨#[105,109,112,111,114,116,32]⟩ : ByteArray) ++ nm) (⟨#[59,10]⟩ : ByteArray) (by rw [bsa,a,b];omega);go_enter Tryz.func12,Tryz.ntmps12;go_wp2;go_ret;exact ⟨rfl,bel1 _ _⟩
theorem BJ (w : World) (nm T : ByteArray) (ta ea : Option Addr) (tn tc en ec : Nat) (zn : nm.size <= 1048576) (sT : T.size <= 100000000)
  (D0 : Hid (∀ W,Bw w W -> Calls Tryz.prog 26 #[.slice ta tn tc,.int .i64 (tn : Int)] W fun r w'=>r = .returned (.string T) /\ Hid (Bw W w'))) :
  Calls Tryz.prog 12 #[.agg #[.int .i64 2,.string nm,.slice ta tn tc,.slice ea en ec]] w fun e w'=>e = .returned (.string (pL ++ nm ++ ft ++ T ++ iH)) /\ Bw w w':=by
 have j : (⟨#[116,121,112,101,32]⟩ : ByteArray).size = 5:=rfl;have k : (⟨#[32,61,32]⟩ : ByteArray).size = 3:=rfl;have t : (⟨#[59,10]⟩ : ByteArray).size = 2:=rfl;have x:=rsa (⟨#[116,121,112,101,32]⟩ : ByteArray) nm (by rw [j];omega);have y:=rsa ((⟨#[116,121,112,101,32]⟩ : ByteArray) ++ nm) (⟨#[32,61,32]⟩ : ByteArray) (by rw [bsa,j,k];omega);have v:=rsa (((⟨#[116,121,112,101,32]⟩ : ByteArray) ++ nm) ++ (⟨#[32,61,32]⟩ : ByteArray)) T (by rw [bsa,bsa,j,k];omega);have z:=rsa ((((⟨#[116,121,112,101,32]⟩ : ByteArray) ++ nm) ++ (⟨#[32,61,32]⟩ : ByteArray)) ++ T) (⟨#[59,10]⟩ : ByteArray) (by rw [bsa,bsa,bsa,j,k,t];omega);have f:=fK w (.int .i64 2) (.string nm) (.slice ta tn tc) (.slice ea en ec) 37;obtain ⟨c,b⟩:=xe (w.alloc (.cells #[.int .i64 2,.string nm,.slice ta tn tc,.slice ea en ec] 37));have a : Hid (Bw w c):=by rw [b];exact bel1 _ _
 rw [<- b] at f
 have g : Hid (∀ W : World,Bw c W -> W.cell? ⟨w.heap.size,1,none⟩ = some (.string nm) /\ W.cell? ⟨w.heap.size,2,none⟩ = some (.slice ta tn tc)):=fun W hb=>by
  have m:=f.of_block (hb.block _ f.lt);exact ⟨m.cell (i:=1) (by omega),m.cell (i:=2) (by omega)⟩
 have u : c.cell? ⟨w.heap.size,0,none⟩ = some (.int .i64 2):=f.cell (i:=0) (by omega);obtain ⟨B,C⟩:=g.out c (Below.refl _ _);clear f;have p : Hid (∀ W : World,Bw c W -> Calls Tryz.prog 26 #[.slice ta tn tc,.int .i64 (tn : Int)] W fun r w'=>r = .returned (.string T) /\ Hid (Bw c w')):=fun W hb=>(D0.out W (a.out.trans (hb.mono a.out.size))).mono fun r w' h=>⟨h.1,hb.trans (h.2.out.mono hb.size)⟩;have l:=p.out c.drew (Below.refl _ _).drew;clear D0;go_enter Tryz.func12,Tryz.ntmps12;go_wp2;rw [<- b];clear b
 go_region_held3 (fun w'=>w'.cell? ⟨w.heap.size,1,none⟩ = some (.string nm) /\ w'.cell? ⟨w.heap.size,2,none⟩ = some (.slice ta tn tc)) (go_keep) (first
  | (go_at_call 26;(with_reducible refine l.mono ?_);rintro A n ⟨rfl,o⟩;obtain ⟨s,q⟩:=g.out n o.out))
 all_goals
  have d : Hid (Bw w n):=a.out.trans (o.out.mono a.out.size);go_wp2;go_ret;exact ⟨rfl,by first | exact d.out | exact d.out.drew | exact below_drewN d.out _⟩
theorem B9 (w : World) (nm T U : ByteArray) (ta ea : Option Addr) (tn tc en ec : Nat) (zn : nm.size <= 1048576) (sT : T.size <= 100000000) (sU : U.size <= 100000000)
  (D0 : Hid (∀ W,Bw w W -> Calls Tryz.prog 26 #[.slice ta tn tc,.int .i64 (tn : Int)] W fun r w'=>r = .returned (.string T) /\ Hid (Bw W w')))
  (D1 : Hid (∀ W,Bw w W -> Calls Tryz.prog 27 #[.slice ea en ec,.int .i64 (en : Int)] W fun r w'=>r = .returned (.string U) /\ Hid (Bw W w'))) :
  Calls Tryz.prog 12 #[.agg #[.int .i64 3,.string nm,.slice ta tn tc,.slice ea en ec]] w fun e w'=>e = .returned (.string (pV ++ nm ++ dz ++ T ++ ft ++ U ++ iH)) /\ Bw w w':=by
 have g : (⟨#[118,97,108,32]⟩ : ByteArray).size = 4:=rfl;have j : (⟨#[58,32]⟩ : ByteArray).size = 2:=rfl;have n : (⟨#[32,61,32]⟩ : ByteArray).size = 3:=rfl;have A : (⟨#[59,10]⟩ : ByteArray).size = 2:=rfl;have G:=rsa (⟨#[118,97,108,32]⟩ : ByteArray) nm (by rw [g];omega);have H:=rsa ((⟨#[118,97,108,32]⟩ : ByteArray) ++ nm) (⟨#[58,32]⟩ : ByteArray) (by rw [bsa,g,j];omega);have E:=rsa (((⟨#[118,97,108,32]⟩ : ByteArray) ++ nm) ++ (⟨#[58,32]⟩ : ByteArray)) T (by rw [bsa,bsa,g,j];omega);have J:=rsa ((((⟨#[118,97,108,32]⟩ : ByteArray) ++ nm) ++ (⟨#[58,32]⟩ : ByteArray)) ++ T) (⟨#[32,61,32]⟩ : ByteArray) (by rw [bsa,bsa,bsa,g,j,n];omega);have F:=rsa (((((⟨#[118,97,108,32]⟩ : ByteArray) ++ nm) ++ (⟨#[58,32]⟩ : ByteArray)) ++ T) ++ (⟨#[32,61,32]⟩ : ByteArray)) U (by rw [bsa,bsa,bsa,bsa,g,j,n];omega);have c6:=rsa ((((((⟨#[118,97,108,32]⟩ : ByteArray) ++ nm) ++ (⟨#[58,32]⟩ : ByteArray)) ++ T) ++ (⟨#[32,61,32]⟩ : ByteArray)) ++ U) (⟨#[59,10]⟩ : ByteArray) (by rw [bsa,bsa,bsa,bsa,bsa,g,j,n,A];omega);have k:=fK w (.int .i64 3) (.string nm) (.slice ta tn tc) (.slice ea en ec) 37;obtain ⟨b,c⟩:=xe (w.alloc (.cells #[.int .i64 3,.string nm,.slice ta tn tc,.slice ea en ec] 37));have a : Hid (Bw w b):=by rw [c];exact bel1 _ _
 rw [<- c] at k
 have f : Hid (∀ W : World,Bw b W -> W.cell? ⟨w.heap.size,1,none⟩ = some (.string nm) /\ W.cell? ⟨w.heap.size,2,none⟩ = some (.slice ta tn tc) /\ W.cell? ⟨w.heap.size,3,none⟩ = some (.slice ea en ec)):=fun W hb=>by
  have l:=k.of_block (hb.block _ k.lt);exact ⟨l.cell (i:=1) (by omega),l.cell (i:=2) (by omega),l.cell (i:=3) (by omega)⟩
 have D : b.cell? ⟨w.heap.size,0,none⟩ = some (.int .i64 3):=k.cell (i:=0) (by omega);obtain ⟨M,N,I⟩:=f.out b (Below.refl _ _);clear k;have u : Hid (∀ W : World,Bw b W -> Calls Tryz.prog 26 #[.slice ta tn tc,.int .i64 (tn : Int)] W fun r w'=>r = .returned (.string T) /\ Hid (Bw b w')):=fun W hb=>(D0.out W (a.out.trans (hb.mono a.out.size))).mono fun r w' h=>⟨h.1,hb.trans (h.2.out.mono hb.size)⟩;have B : Hid (∀ W : World,Bw b W -> Calls Tryz.prog 27 #[.slice ea en ec,.int .i64 (en : Int)] W fun r w'=>r = .returned (.string U) /\ Hid (Bw b w')):=fun W hb=>(D1.out W (a.out.trans (hb.mono a.out.size))).mono fun r w' h=>⟨h.1,hb.trans (h.2.out.mono hb.size)⟩;have m:=u.out b.drew (Below.refl _ _).drew;clear D0 D1;go_enter Tryz.func12,Tryz.ntmps12;go_wp2;rw [<- c];clear c
 go_region_held3 (fun w'=>w'.cell? ⟨w.heap.size,1,none⟩ = some (.string nm) /\ w'.cell? ⟨w.heap.size,2,none⟩ = some (.slice ta tn tc) /\ w'.cell? ⟨w.heap.size,3,none⟩ = some (.slice ea en ec)) (go_keep) (first
  | (go_at_call 26;(with_reducible refine m.mono ?_);rintro L o ⟨rfl,q⟩;obtain ⟨x,v,y⟩:=f.out o q.out)
  | (go_at_call 27;(with_reducible refine (B.out o q.out).mono ?_);rintro K s ⟨rfl,p⟩;obtain ⟨C,t,z⟩:=f.out s p.out))
 all_goals
  have d : Hid (Bw w s):=a.out.trans (p.out.mono a.out.size);go_wp2;go_ret;exact ⟨rfl,by first | exact d.out | exact d.out.drew | exact below_drewN d.out _⟩
theorem ow (w : World) {d : DC} {p : DPl} (h : jJ w d p) (hok : fO d = true) :
  Calls Tryz.prog 12 #[dV d p] w fun e w'=>e = .returned (.string (nN d)) /\ Bw w w':=by
 obtain ⟨f,a,i,c,b,j⟩:=h.form;have m : cD d = d.nm.size + bQ d.ty + ed d.ex:=rfl;have l:=h.cost;unfold dV;rw [b,j];unfold fO at hok;rw [Bool.and_eq_true] at hok;obtain ⟨-,hok⟩:=hok;unfold nN
 split at hok
 case isTrue z=>
  rw [if_pos z,z];exact B6 w d.nm f i _ a _ c (by omega)
 case isFalse z=>
  rw [if_neg z]
  split at hok
  case isTrue z2=>
   rw [if_pos z2,z2];simp only [Bool.and_eq_true] at hok;have g:=nt (Or.inl hok.1) (nlr _);exact BJ w d.nm (fW d.ty) f i _ a _ c (by omega) (Nat.le_trans g (by omega)) (fun W hb=>Ch W (h.below hb) b hok.1)
  case isFalse z2=>
   simp only [Bool.and_eq_true,decide_eq_true_eq] at hok;rw [if_neg z2,hok.1.1];have g:=nt (Or.inl hok.1.2) (nlr _);have k:=vN hok.2 (nlr _);exact B9 w d.nm (fW d.ty) (ww d.ex) f i _ a _ c (by omega) (Nat.le_trans g (by omega)) (Nat.le_trans k (by omega)) (fun W hb=>Ch W (h.below hb) b hok.1.2) (fun W hb=>Dc W (h.below hb) j hok.2)
def qE (ds : List DC) : Nat:=(ds.map fun d=>4 + d.ty.length + d.ex.length).sum
theorem Ac (ds : List DC) : qE ds <= 4 * eX ds:=by
 unfold qE eX
 induction ds with
 | nil=>simp
 | cons d ds ih=>
   rw [List.map_cons,List.sum_cons,List.map_cons,List.sum_cons,List.length_cons];have a : cD d = d.nm.size + (d.ty.length + (d.ty.map cT).sum) + (d.ex.length + (d.ex.map cE).sum):=rfl;omega
theorem vE {ds : List DC} {k : Nat} (hk : k < ds.length) : qE (ds.take (k + 1)) = qE (ds.take k) + (4 + ds[k].ty.length + ds[k].ex.length):=by
 unfold qE;rw [List.take_add_one,List.getElem?_eq_getElem hk,List.map_append,List.sum_append];simp
theorem uz (ds : List DC) (k : Nat) : qE (ds.take k) <= qE ds:=iN _ _ _
theorem tZ (a b : List DC) : bR (a ++ b) = bR a ++ bR b:=by
 induction a with
 | nil=>rw [List.nil_append];exact (gI _).symm
 | cons d a ih=>rw [List.cons_append,bR,bR,ih,ByteArray.append_assoc]
theorem sy {ds : List DC} {k : Nat} (hk : k < ds.length) : bR (ds.take (k + 1)) = bR (ds.take k) ++ nN ds[k]:=by
 rw [List.take_add_one,List.getElem?_eq_getElem hk,tZ];show _ ++ (nN ds[k] ++ e0) = _;rw [jF]
theorem rr {ds : List DC} (h : ds.all fO = true) : qE ds <= (bR ds).size /\ (bR ds).size <= 32 * eX ds:=by
 unfold qE eX
 induction ds with
 | nil=>exact ⟨Nat.zero_le _,nlr _⟩
 | cons d ds ih=>
   rw [List.all_cons,Bool.and_eq_true] at h;have b:=Aw h.1;have a:=ih h.2;rw [List.map_cons,List.sum_cons,List.map_cons,List.sum_cons,List.length_cons,bR,bsa];omega
theorem vF (ds : List DC) (k : Nat) : eX (ds.take k) <= eX ds:=by
 unfold eX;have:=iN cD ds k;have : (ds.take k).length <= ds.length:=by rw [List.length_take];omega
 omega
theorem wD {ds : List DC} {k : Nat} (hk : k < ds.length) : (ds.take (k + 1)).all fO = ((ds.take k).all fO && fO ds[k]):=by
 rw [List.take_add_one,List.getElem?_eq_getElem hk,List.all_append];simp
theorem Au {ds : List DC} {k : Nat} (hk : k < ds.length) (h : fO ds[k] = false) : ds.all fO = false:=by
 cases e : ds.all fO with
 | false=>rfl
 | true=>
   have:=List.all_eq_true.1 e ds[k] (List.getElem_mem hk);rw [h] at this;cases this
structure fV (w : World) (v : Value) (xs : List (DC × DPl)) : Prop where
 own : ∃ B,w.ownsRow B 37 4 v xs.length (bj xs)
 ok : ∀ x,x ∈ xs -> jJ w x.1 x.2
 cost : eX (xs.map Prod.fst) <= 1048576
theorem fV.below {w w' : World} {v : Value} {xs : List (DC × DPl)} (h : fV w v xs) (hb : Bw w w') : fV w' v xs:=⟨by obtain ⟨B,r⟩:=h.own;exact ⟨B,az r (ax hb) (by decide)⟩,fun x hx=>(h.ok x hx).below hb,h.cost⟩
theorem fV.form {w : World} {v : Value} {xs : List (DC × DPl)} (h : fV w v xs) : ∃ a c,v = .slice a xs.length c:=by obtain ⟨B,r⟩:=h.own;exact ad r
theorem fV.len {w : World} {v : Value} {xs : List (DC × DPl)} (h : fV w v xs) : xs.length <= 1048576:=by
 have a : eX (xs.map Prod.fst) = (xs.map Prod.fst).length + ((xs.map Prod.fst).map cD).sum:=rfl;have:=h.cost;rw [List.length_map] at a;omega
theorem fV.item {w : World} {a : Option Addr} {c : Nat} {xs : List (DC × DPl)} (h : fV w (.slice a xs.length c) xs) {k : Nat} (hk : k < xs.length) : ∃ g ta tc ea ec,a = some ⟨g,0,none⟩ /\ w.cell? ⟨g,k * 4,none⟩ = some (Value.int .i64 xs[k].1.kind) /\ w.cell? ⟨g,k * 4 + 1,none⟩ = some (Value.string xs[k].1.nm) /\ w.cell? ⟨g,k * 4 + 2,none⟩ = some (Value.slice ta xs[k].1.ty.length tc) /\ w.cell? ⟨g,k * 4 + 3,none⟩ = some (Value.slice ea xs[k].1.ex.length ec) /\ jJ w xs[k].1 xs[k].2 /\ dV xs[k].1 xs[k].2 = .agg #[.int .i64 xs[k].1.kind,.string xs[k].1.nm,.slice ta xs[k].1.ty.length tc,.slice ea xs[k].1.ex.length ec]:=by
 obtain ⟨B,r⟩:=h.own;obtain ⟨g,i,e,_⟩:=au r (show 0 < xs.length by omega);simp only [Value.slice.injEq] at e;obtain ⟨rfl,-,rfl⟩:=e;have ok:=h.ok _ (List.getElem_mem hk);obtain ⟨ta,tc,ea,ec,b,d⟩:=ok.form;exact ⟨g,ta,tc,ea,ec,rfl,af (f:=fU) bz r (j:=k) (r:=0) rfl hk (by omega) rfl,af (f:=fU) bz r rfl hk (by omega) rfl,af (f:=fU) bz r rfl hk (by omega) (by rw [<- b];rfl),af (f:=fU) bz r rfl hk (by omega) (by rw [<- d];rfl),ok,by unfold dV;rw [b,d]⟩
theorem qK (w : World) {v : Value} {xs : List (DC × DPl)} (h : fV w v xs) {l : List DC} (hl : xs.map Prod.fst = l) :
  Calls Tryz.prog 6 #[.agg #[v]] w fun e w'=>e = .returned (.bool (fS l)) /\ Bw w w':=by
 obtain ⟨a,c,rfl⟩:=h.form;have cb:=h.len;have ll : l.length = xs.length:=by rw [<- hl,List.length_map]
 have x : ∀ {k : Nat} (j : k < xs.length),l[k]'(by omega) = xs[k].1:=fun {k} j=>by subst hl;rw [List.getElem_map]
 have F : eX l <= 1048576:=by rw [<- hl];exact h.cost
 have bs:=Ac l;have b7 : Hid (∀ {k : Nat} (j : k < xs.length),qE (l.take (k + 1)) = qE (l.take k) + (4 + xs[k].1.ty.length + xs[k].1.ex.length)):=fun {k} j=>by rw [vE (by omega),x j]
 have b4 : Hid (∀ k,qE (l.take k) <= 4194304):=fun k=>Nat.le_trans (uz l k) (by omega)
 have a6 : Hid (∀ {k : Nat} (j : k < xs.length),bR (l.take (k + 1)) = bR (l.take k) ++ nN xs[k].1 /\ (l.take (k + 1)).all fO = ((l.take k).all fO && fO xs[k].1) /\ (fO xs[k].1 = false -> fS l = false)):=fun {k} j=>by
  refine ⟨by rw [sy (by omega),x j],by rw [wD (by omega),x j],fun z=>?_⟩;unfold fS;rw [Au (k:=k) (by omega) (by rw [x j];exact z)];rfl
 have a0 : Hid (∀ k,(l.take k).all fO = true -> (bR (l.take k)).size <= 33554432):=fun k j=>by
  have:=(rr j).2;have:=vF l k;omega
 have a7 : Hid (1000 < qE l -> fS l = false):=fun o=>by
  unfold fS
  cases e : l.all fO with
  | false=>rfl
  | true=>
    have:=(rr e).1;rw [decide_eq_false (by omega)];rfl
 have a5 : Hid (l.all fO = true -> fS l = decide ((bR l).size <= 1000)):=fun e=>by unfold fS;rw [e];rfl
 have Y : Hid (l.take xs.length = l):=by show _ = _;rw [<- ll];exact List.take_length
 have L : Hid (∀ W,Bw w W -> fV W (.slice a xs.length c) xs):=fun W o=>h.below o;obtain ⟨b,o⟩:=xe (fS l);rw [<- o] at a6 a7 a5 ⊢;clear h hl ll x F bs o;obtain ⟨E,y⟩:=xe (w.alloc (.cells #[.slice a xs.length c] 25));have n : Hid (Bw w E):=by rw [y];exact bel1 _ _
 have HC : Hid (∀ W : World,Bw E W -> W.cell? ⟨w.heap.size,0,none⟩ = some (.slice a xs.length c)):=fun W o=>by
  have k0 : E.cell? ⟨w.heap.size,0,none⟩ = some (.slice a xs.length c):=by rw [y];exact (aK w (.slice a xs.length c) 25).cell (i:=0) (by omega)
  exact (o.cell (p:=⟨w.heap.size,0,none⟩) (blt k0)).trans k0
 go_enter Tryz.func6,Tryz.ntmps6;go_wp2;rw [<- y];clear y
 go_loopw [3,4] (fun sz i wr=>∃ k m : Nat,k <= xs.length /\ m <= 4194304 /\ i = .int .i64 k /\ sz = .int .i64 m /\ Hid (m = qE (l.take k)) /\ Hid (Bw E wr)) (fun _ i _=>xs.length - (intOf i).toNat)
 case atStart=>exact ⟨0,0,Nat.zero_le _,by omega,rfl,rfl,rfl,Below.refl _ _⟩
 case round=>
  obtain ⟨k,m,j,hm,rfl,rfl,HM,r⟩:=hrel;have kc:=HC.out wr r.out;by_cases t : k < xs.length
  ·obtain ⟨g,R,N,ea,V,rfl,Q,O,K,I,Z,M⟩:=(L.out wr (n.out.trans (r.out.mono n.out.size))).item t
   have hs:=b7.out t;have bL:=b4.out (k + 1);rw [<- HM.out] at hs;obtain ⟨X,hX⟩:=xe (xs[k]);rw [<- hX] at Q O K I hs;clear Z M hX;have B : Hid (m + (4 + X.1.ty.length + X.1.ex.length) = qE (l.take (k + 1))):=hs.symm;have b5 : m + (4 + X.1.ty.length + X.1.ex.length) <= 4194304:=by omega
   clear hs bL;obtain ⟨tn,ao⟩:=xe (X.1.ty.length);obtain ⟨en,ah⟩:=xe (X.1.ex.length);rw [<- ao,<- ah] at B b5;rw [<- ao] at K;rw [<- ah] at I;have a1 : IntKind.i64.wrap ((m : Int) + 4) = (m : Int) + 4:=wk (by omega);have a2 : IntKind.i64.wrap ((m : Int) + 4 + (tn : Int)) = (m : Int) + 4 + (tn : Int):=wk (by omega);have a3 : IntKind.i64.wrap ((m : Int) + 4 + (tn : Int) + (en : Int)) = (m : Int) + 4 + (tn : Int) + (en : Int):=wk (by omega);have b3 : (k : Int) < (xs.length : Int):=by omega
   have b1 : (0 : Int) <= (k : Int):=by omega
   go_wp2;go_quiet (fail);go_wp2
   go_roundw
   case rel=>exact ⟨k + 1,m + (4 + tn + en),by omega,by omega,by go_num,by congr 1;omega,B,by first | exact r.out | exact r.out.drew | exact below_drewN r.out _⟩
   case measure=>simp [intOf];omega
  ·have H : k = xs.length:=by omega
   subst H;rw [Y.out] at HM;by_cases ar : 1000 < m
   ·have HF : Hid (b = false):=a7.out (by rw [<- HM.out];exact ar)
    have gb : (1000 : Int) < (m : Int):=by omega
    go_wp2;go_ret;exact ⟨by rw [HF.out];rfl,n.out.trans (r.out.mono n.out.size)⟩
   ·have gb : ¬ (1000 : Int) < (m : Int):=by omega
    have bv : Hid (Bw E wr):=r;go_wp2;clear r HM kc
    go_loopw [5,6] (fun sv i wq=>∃ (k : Nat) (s : ByteArray),k <= xs.length /\ i = .int .i64 k /\ sv = .string s /\ Hid (s = bR (l.take k)) /\ Hid ((l.take k).all fO = true) /\ Hid (Bw E wq)) (fun _ i _=>xs.length - (intOf i).toNat)
    case atStart=>exact ⟨0,_,Nat.zero_le _,rfl,rfl,rfl,rfl,bv⟩
    case round=>
     obtain ⟨k,s,j,rfl,rfl,B,HA,r⟩:=hrel;have A : Hid (Bw w wr):=n.out.trans (r.out.mono n.out.size);have kc:=HC.out wr r.out;have sb:=a0.out k HA.out;rw [<- B.out] at sb;by_cases t : k < xs.length
     ·obtain ⟨g,R,N,ea,V,rfl,Q,O,K,I,Z,M⟩:=(L.out wr A.out).item t
      obtain ⟨G,J,p3⟩:=a6.out t;have d:=a0.out (k + 1);rw [G,J,HA.out,Bool.true_and,<- B.out,bsa] at d;rw [<- B.out] at G;rw [HA.out,Bool.true_and] at J;have C:=v8 wr Z;have P:=fun (W : World) (o : Bw wr W) (ho : fO xs[k].1 = true)=>ow W (Z.below o) ho;rw [M] at C;rw [M] at P;obtain ⟨X,hX⟩:=xe (xs[k]);rw [<- hX] at Q O K I G J p3 d C P
      have HY : Hid (∀ W,Bw wr W -> W.cell? ⟨w.heap.size,0,none⟩ = some (.slice (some ⟨g,0,none⟩) xs.length c) /\ W.cell? ⟨g,k * 4,none⟩ = some (Value.int .i64 X.1.kind) /\ W.cell? ⟨g,k * 4 + 1,none⟩ = some (Value.string X.1.nm) /\ W.cell? ⟨g,k * 4 + 2,none⟩ = some (Value.slice R X.1.ty.length N) /\ W.cell? ⟨g,k * 4 + 3,none⟩ = some (Value.slice ea X.1.ex.length V)):=fun W o=>by
       have q : ∀ {a : Addr} {u : Value},wr.cell? a = some u -> W.cell? a = some u:=fun {a u} hh=>(o.cell (p:=a) (blt hh)).trans hh;exact ⟨q kc,q Q,q O,q K,q I⟩
      have b3 : (k : Int) < (xs.length : Int):=by omega
      have b1 : (0 : Int) <= (k : Int):=by omega
      clear Z M hX
      cases ho : fO X.1 with
      | false=>
        have HF : Hid (b = false):=p3 ho;rw [ho] at C;have D : Hid (Calls Tryz.prog 11 #[.agg #[.int .i64 X.1.kind,.string X.1.nm,.slice R X.1.ty.length N,.slice ea X.1.ex.length V]] wr fun e w'=>e = .returned (.bool false) /\ Bw wr w'):=C;clear C P G J p3 d ho;go_wp2_with (first | (go_at_call 11;refine D.out.mono ?_;rintro e w2 ⟨rfl,f⟩));go_ret;exact ⟨by rw [HF.out];rfl,A.out.trans (f.mono A.out.size)⟩
      | true=>
        rw [ho] at C;have D : Hid (Calls Tryz.prog 11 #[.agg #[.int .i64 X.1.kind,.string X.1.nm,.slice R X.1.ty.length N,.slice ea X.1.ex.length V]] wr fun e w'=>e = .returned (.bool true) /\ Bw wr w'):=C;obtain ⟨T,hT⟩:=xe (nN X.1);rw [<- hT] at G;have sT : s.size + T.size <= 33554432:=by rw [hT];exact d ho
        have bx : Hid (∀ W,Bw wr W -> Calls Tryz.prog 12 #[.agg #[.int .i64 X.1.kind,.string X.1.nm,.slice R X.1.ty.length N,.slice ea X.1.ex.length V]] W fun e w'=>e = .returned (.string T) /\ Bw W w'):=fun W o=>by rw [hT];exact P W o ho
        have b0 : Hid (s ++ T = bR (l.take (k + 1))):=G.symm;have b2 : Hid ((l.take (k + 1)).all fO = true):=J.trans ho;have cc:=rsa s T (by omega);clear C P G J p3 d ho hT;go_wp2_with fail;refine D.out.mono ?_;rintro e w2 ⟨rfl,f⟩;have S : Hid (Bw wr w2):=f;have C2:=bx.out w2 f;obtain ⟨x0,x1,x2,x3,x4⟩:=HY.out w2 f;clear f kc Q O K I;go_wp2_with fail;refine C2.mono ?_;rintro e w3 ⟨rfl,U⟩;have b6 : Hid (Bw E w3):=r.out.trans ((S.out.trans (U.mono S.out.size)).mono r.out.size);clear U C2 x0 x1 x2 x3 x4;go_wp2
        go_roundw
        case rel=>exact ⟨k + 1,s ++ T,by omega,by go_num,rfl,b0,b2,b6⟩
        case measure=>simp [intOf];omega
     ·have H : k = xs.length:=by omega
      subst H;rw [Y.out] at B HA;have HF : Hid (b = decide (s.size <= 1000)):=by show _ = _;rw [a5.out HA.out,B.out]
      go_wp2;go_ret;refine ⟨?_,A.out⟩;rw [HF.out];show Ending.returned (Value.bool (decide ((s.size : Int) <= 1000))) = _;congr 2;exact decide_eq_decide.2 (by omega)
end Go.Proofs.YtihedobejcaapaaGreatDoor
