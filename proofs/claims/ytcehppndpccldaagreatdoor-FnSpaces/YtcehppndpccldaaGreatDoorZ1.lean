/-
  QaA QaB QaC QcA QcB QcC QdC
-/
import Derived.Test.YtcehppndpccldaaGreatDoorSD
import Derived.Test.YtcehppndpccldaaGreatDoorU1
import Derived.Test.YtcehppndpccldaaGreatDoorXA
import Derived.BigRegion
import Derived.Test.YtcehppndpccldaaGreatDoorUI
set_option maxHeartbeats 4000000
set_option maxRecDepth 100000
namespace Go.Proofs.YtcehppndpccldaaGreatDoor
def er (ts : List TK) : List TK:=ts.map fun t=>⟨t.cls,t.txt,0⟩
theorem er_get (ts : List TK) (i : Nat) : (er ts)[i]? = (ts[i]?).map fun t=>⟨t.cls,t.txt,0⟩:=List.getElem?_map
theorem er_len (ts : List TK) : (er ts).length = ts.length:=List.length_map _
theorem isT_er (ts : List TK) : isT (er ts) = isT ts:=by
 funext i s
 unfold isT
 rw [er_get]
 cases ts[i]? <;> rfl
theorem isC_er (ts : List TK) : isC (er ts) = isC ts:=by
 funext i c
 unfold isC
 rw [er_get]
 cases ts[i]? <;> rfl
theorem tx_er (ts : List TK) : tx (er ts) = tx ts:=by
 funext i
 unfold tx
 rw [er_get]
 cases ts[i]? <;> rfl
theorem pathP_er (st : Bool) (ts : List TK) : pathP st (er ts) = pathP st ts:=by
 funext i
 unfold pathP
 rw [isT_er,isC_er,tx_er]
theorem floop_er {α : Type} (ts : List TK) (T : Nat -> Option (List α × Nat)) (sg : List UInt8) : ∀ f j ns its,floop (er ts) T sg f j ns its = floop ts T sg f j ns its
 | 0,_,_,_=>rfl
 | f + 1,j,ns,its=>by
   rw [floop,floop,isT_er,isC_er,tx_er]
   have ih:=floop_er ts T sg f
   simp only [ih]
theorem fldsP_er {α : Type} (ts : List TK) (T : Nat -> Option (List α × Nat)) (sg : List UInt8) : fldsP (er ts) T sg = fldsP ts T sg:=by
 funext j
 unfold fldsP
 rw [isT_er,er_len,floop_er]
theorem brkP_er {α : Type} (ts : List TK) (T : Nat -> Option (List α × Nat)) : brkP (er ts) T = brkP ts T:=by
 funext j
 unfold brkP
 rw [isT_er]
theorem baseP_er (st : Bool) (ts : List TK) (T : Nat -> Option (List TI × Nat)) : baseP st (er ts) T = baseP st ts T:=by
 funext i
 unfold baseP
 rw [isT_er,isC_er,pathP_er,fldsP_er,brkP_er]
theorem tyP_er (st : Bool) (ts : List TK) : ∀ f,tyP st (er ts) f = tyP st ts f
 | 0=>by funext i;rfl
 | f + 1=>by
   funext i
   rw [tyP,tyP,baseP_er,isT_er,tyP_er st ts f]
theorem atomP_er (st : Bool) (ts : List TK) (E : Nat -> Option (List EI × Nat)) : atomP st (er ts) E = atomP st ts E:=by
 funext i
 unfold atomP
 rw [isT_er,isC_er,tx_er,pathP_er,fldsP_er,brkP_er]
theorem postL_er (ts : List TK) (E : Nat -> Option (List EI × Nat)) : ∀ f its j,postL (er ts) E f its j = postL ts E f its j
 | 0,_,_=>rfl
 | f + 1,its,j=>by
   have ih:=postL_er ts E f
   rw [postL,postL,isT_er,isC_er,tx_er,brkP_er]
   simp only [ih]
theorem postP_er (st : Bool) (ts : List TK) (E : Nat -> Option (List EI × Nat)) : postP st (er ts) E = postP st ts E:=by
 funext i
 unfold postP
 rw [atomP_er,er_len]
 cases atomP st ts E i with
 | none=>rfl
 | some x=>exact postL_er _ _ _ _ _
theorem sumL_er (st : Bool) (ts : List TK) (E : Nat -> Option (List EI × Nat)) : ∀ f its j,sumL st (er ts) E f its j = sumL st ts E f its j
 | 0,_,_=>rfl
 | f + 1,its,j=>by
   have ih:=sumL_er st ts E f
   rw [sumL,sumL,isT_er,postP_er]
   simp only [ih]
theorem sumP_er (st : Bool) (ts : List TK) (E : Nat -> Option (List EI × Nat)) : sumP st (er ts) E = sumP st ts E:=by
 funext i
 unfold sumP
 rw [postP_er,er_len]
 cases postP st ts E i with
 | none=>rfl
 | some x=>exact sumL_er _ _ _ _ _ _
theorem funP_er (st : Bool) (ts : List TK) (E : Nat -> Option (List EI × Nat)) : funP st (er ts) E = funP st ts E:=by
 funext i
 unfold funP
 rw [isT_er,isC_er,tx_er,er_len,tyP_er]
theorem ifP_er (ts : List TK) (E : Nat -> Option (List EI × Nat)) : ifP (er ts) E = ifP ts E:=by
 funext i
 unfold ifP
 rw [isT_er]
theorem lessP_er (st : Bool) (ts : List TK) (E : Nat -> Option (List EI × Nat)) : lessP st (er ts) E = lessP st ts E:=by
 funext i
 unfold lessP
 rw [isT_er,sumP_er]
theorem exP_er (st : Bool) (ts : List TK) : ∀ f,exP st (er ts) f = exP st ts f
 | 0=>by funext i;rfl
 | f + 1=>by
   funext i
   rw [exP,exP,isT_er,exP_er st ts f,funP_er,ifP_er,lessP_er]
theorem declP_er (st : Bool) (ts : List TK) : declP st (er ts) = declP st ts:=by
 unfold declP
 rw [isT_er,isC_er,tx_er,er_len,tyP_er,exP_er]
theorem semi_er (ts : List TK) : semi (er ts) = semi ts:=by
 unfold semi er
 rw [List.findIdx?_map]
 rfl
theorem decs_er (st : Bool) : ∀ f (ts : List TK),decs st f (er ts) = decs st f ts
 | 0,_=>rfl
 | f + 1,ts=>by
   rw [decs,decs,semi_er]
   have e1 : (er ts).isEmpty = ts.isEmpty:=by cases ts <;> rfl
   rw [e1]
   split
   ·rfl
   ·cases semi ts with
    | none=>rfl
    | some k=>
      have e2 : (er ts).take k = er (ts.take k):=List.map_take.symm
      have e3 : (er ts).drop (k + 1) = er (ts.drop (k + 1)):=List.map_drop.symm
      dsimp only
      rw [e2,e3,declP_er,decs_er st f]
theorem bt_left {a b : ByteArray} {i : Nat} (h : i < a.size) : bt (a ++ b) i = bt a i:=by
 rw [bt_in (by rw [bsa];omega),bt_in h]
 congr 2
 exact ByteArray.getElem_append_left h
theorem bt_right {a b : ByteArray} (j : Nat) : bt (a ++ b) (a.size + j) = bt b j:=by
 by_cases h : j < b.size
 ·rw [bt_in (by rw [bsa];omega),bt_in h]
  congr 2
  rw [ByteArray.getElem_append_right (by omega)]
  congr 1
  omega
 ·rw [bt_out h,bt_out (by rw [bsa];omega)]
theorem run_right (p : Int -> Bool) {a b : ByteArray} (j : Nat) : run p (a ++ b) (a.size + j) = run p b j:=by
 by_cases h : j < b.size
 ·have h2 : a.size + j < (a ++ b).size:=by rw [bsa];omega
  cases hp : p (bt b j)
  ·rw [run_stop h hp,run_stop h2 (by rw [bt_right];exact hp)]
  ·rw [run_step h hp,run_step h2 (by rw [bt_right];exact hp),Nat.add_assoc,run_right p (j + 1)]
 ·rw [run_end h,run_end (by rw [bsa];omega)]
termination_by b.size - j
theorem plen_right {a b : ByteArray} (j : Nat) : plen (a ++ b) (a.size + j) = plen b j:=by
 unfold plen
 rw [bt_right,show a.size + j + 1 = a.size + (j + 1) by omega,bt_right,run_right,run_right,run_right]
theorem blk_right {a b : ByteArray} (j : Nat) : blk (a ++ b) (a.size + j) = blk b j:=by
 unfold blk
 rw [bt_right]
theorem ext_right {a b : ByteArray} (j k : Nat) : (a ++ b).extract (a.size + j) (a.size + j + k) = b.extract j (j + k):=by
 rw [ByteArray.extract_append,ByteArray.extract_eq_empty_iff.2 (by omega),show a.size + j - a.size = j by omega,show a.size + j + k - a.size = j + k by omega]
 exact ByteArray.empty_append
theorem tks_right {a b : ByteArray} (j : Nat) : er (tks (a ++ b) (a.size + j)) = er (tks b j):=by
 by_cases h : j < b.size
 ·have h2 : a.size + j < (a ++ b).size:=by rw [bsa];omega
  have hpos:=plen_pos b j
  have ih:=tks_right (a:=a) (b:=b) (j + plen b j)
  rw [<- Nat.add_assoc] at ih
  cases hb : blk b j
  ·rw [tks_tok h hb,tks_tok h2 (by rw [blk_right];exact hb),plen_right]
   have ep : ptx (a ++ b) (a.size + j) = ptx b j:=by
    unfold ptx
    rw [plen_right,ext_right]
   rw [ep]
   show (⟨_,_,0⟩ : TK) :: er _ = ⟨_,_,0⟩ :: er _
   rw [ih]
  ·rw [tks_blk h hb,tks_blk h2 (by rw [blk_right];exact hb),plen_right]
   exact ih
 ·rw [tks_end h,tks_end (by rw [bsa];omega)]
termination_by b.size - j
decreasing_by all_goals omega
theorem run_passes {p : Int -> Bool} {s : ByteArray} : ∀ {i j : Nat},j < run p s i -> p (bt s (i + j)) = true
 | i,j,h=>by
   by_cases hi : i < s.size
   ·cases hp : p (bt s i)
    ·rw [run_stop hi hp] at h;omega
    ·rw [run_step hi hp] at h
     cases j with
     | zero=>exact hp
     | succ j=>
       have:=run_passes (p:=p) (s:=s) (i:=i + 1) (j:=j) (by omega)
       rw [show i + (j + 1) = i + 1 + j by omega]
       exact this
   ·rw [run_end hi] at h;omega
termination_by i=>s.size - i
theorem run_thru (p : Int -> Bool) {t x : ByteArray} (hc : p (bt x 0) = false) : ∀ (n i : Nat),t.size - i <= n -> i <= t.size -> (∀ j,i <= j -> j < t.size -> p (bt t j) = true) -> run p (t ++ x) i = t.size - i
 | 0,i,hn,hi,_=>by
   have : i = t.size:=by omega
   subst this
   have h:=run_right p (a:=t) (b:=x) 0
   rw [Nat.add_zero] at h
   rw [h,Nat.sub_self]
   by_cases hz : 0 < x.size
   ·exact run_stop hz hc
   ·exact run_end hz
 | n + 1,i,hn,hi,ha=>by
   by_cases h : i < t.size
   ·have h2 : i < (t ++ x).size:=by rw [bsa];omega
    rw [run_step h2 (by rw [bt_left h];exact ha i (nlr _) h),run_thru p hc n (i + 1) (by omega) (by omega) (fun j h1 h2=>ha j (by omega) h2)]
    omega
   ·exact run_thru p hc 0 i (by omega) hi ha
theorem bt_ptx {s : ByteArray} {i j : Nat} (h : i < s.size) (hj : j < plen s i) : bt (ptx s i) j = bt s (i + j):=by
 have hle:=plen_le h
 rw [bt_in (by rw [ptx_size h];exact hj),bt_in (by omega)]
 congr 2
 unfold ptx
 rw [ByteArray.getElem_extract]
def Blk0 (x : ByteArray) : Prop:=bt x 0 = 32 \/ bt x 0 = 10 \/ bt x 0 = 35
theorem Blk0.no {x : ByteArray} (h : Blk0 x) : wb (bt x 0) = false /\ dg (bt x 0) = false:=by
 rcases h with h | h | h <;> · rw [h];decide
theorem plen_tok {s x : ByteArray} {i : Nat} (h : i < s.size) (hb : blk s i = false) (hc : cls (ptx s i).toList ≠ 0) (hx : Blk0 x) : plen (ptx s i ++ x) 0 = plen s i:=by
 have hz:=ptx_size h
 have hpos:=plen_pos s i
 have h0 : bt (ptx s i ++ x) 0 = bt s i:=by
  rw [bt_left (by omega),bt_ptx h (by omega)]
  rfl
 have hnb : ¬ (bt s i = 32 \/ bt s i = 10) /\ ¬ bt s i = 35:=by
  unfold blk at hb
  have:=of_decide_eq_false hb
  exact ⟨fun z=>this (by rcases z with z | z;exact .inl z;exact .inr (.inl z)),fun z=>this (.inr (.inr z))⟩
 have e : plen s i = if sl (bt s i) then 1 + run wb s (i + 1) else if dg (bt s i) then 1 + run dg s (i + 1) else if bt s i = 45 /\ bt s (i + 1) = 62 then 2 else 1:=by
  unfold plen
  rw [if_neg hnb.1,if_neg hnb.2]
 have e2 : plen (ptx s i ++ x) 0 = if sl (bt s i) then 1 + run wb (ptx s i ++ x) 1 else if dg (bt s i) then 1 + run dg (ptx s i ++ x) 1 else if bt s i = 45 /\ bt (ptx s i ++ x) 1 = 62 then 2 else 1:=by
  unfold plen
  rw [h0,if_neg hnb.1,if_neg hnb.2]
 by_cases h1 : sl (bt s i) = true
 ·rw [if_pos h1] at e
  rw [e2,if_pos h1,run_thru wb hx.no.1 (ptx s i).size 1 (by omega) (by omega) (fun j hj1 hj2=>by
   rw [bt_ptx h (by omega),show i + j = i + 1 + (j - 1) by omega]
   exact run_passes (by omega))]
  omega
 ·rw [if_neg h1] at e e2
  by_cases h2 : dg (bt s i) = true
  ·rw [if_pos h2] at e
   rw [e2,if_pos h2,run_thru dg hx.no.2 (ptx s i).size 1 (by omega) (by omega) (fun j hj1 hj2=>by
    rw [bt_ptx h (by omega),show i + j = i + 1 + (j - 1) by omega]
    exact run_passes (by omega))]
   omega
  ·rw [if_neg h2] at e e2
   by_cases h3 : bt s i = 45 /\ bt s (i + 1) = 62
   ·rw [if_pos h3] at e
    rw [e2,if_pos ⟨h3.1,by rw [bt_left (by omega),bt_ptx h (by omega)];exact h3.2⟩,e]
   ·rw [if_neg h3] at e
    have h4 : ¬ bt s i = 45:=fun z=>by
     apply hc
     have hh:=ptx_head h
     rw [z] at hh
     have hl : (ptx s i).toList.length = 1:=by rw [Go.ByteArray.toList_eq,Array.length_toList];show (ptx s i).size = 1;omega
     match hq : (ptx s i).toList,hl with
     | [b],_=>
       rw [hq] at hh
       have hb45 : (b.toNat : Int) = 45:=hh
       rw [cls_one (by rw [hb45];decide) (by rw [hb45];decide),hb45]
       decide
    rw [e2,if_neg (fun z=>h4 z.1),e]
theorem tok_then {s x : ByteArray} {i : Nat} (h : i < s.size) (hb : blk s i = false) (hc : cls (ptx s i).toList ≠ 0) (hx : Blk0 x) : er (tks (ptx s i ++ x) 0) = ⟨cls (ptx s i).toList,ptx s i,0⟩ :: er (tks x 0):=by
 have hz:=ptx_size h
 have hpos:=plen_pos s i
 have h0 : bt (ptx s i ++ x) 0 = bt s i:=by
  rw [bt_left (by omega),bt_ptx h (by omega)]
  rfl
 have hp:=plen_tok h hb hc hx
 have hs : 0 < (ptx s i ++ x).size:=by rw [bsa];omega
 rw [tks_tok hs (by unfold blk at hb ⊢;rw [h0];exact hb),hp]
 have ep : ptx (ptx s i ++ x) 0 = ptx s i:=by
  show (ptx s i ++ x).extract 0 (0 + plen (ptx s i ++ x) 0) = _
  rw [hp,Nat.zero_add,<- hz,ByteArray.extract_append]
  have e1 : x.extract (0 - (ptx s i).size) ((ptx s i).size - (ptx s i).size) = ByteArray.empty:=ByteArray.extract_eq_empty_iff.2 (by omega)
  rw [e1,ByteArray.append_empty]
  exact ByteArray.extract_zero_size
 rw [ep]
 show (⟨_,_,0⟩ : TK) :: er _ = _
 have h2:=tks_right (a:=ptx s i) (b:=x) 0
 rw [Nat.add_zero,hz] at h2
 rw [Nat.zero_add,h2]
def sp1 : ByteArray:=⟨#[32]⟩
def sp2 : ByteArray:=⟨#[10]⟩
def sp3 : ByteArray:=⟨#[35,59,10]⟩
def Sep (x : ByteArray) : Prop:=x = sp1 \/ x = sp2 \/ x = sp3
theorem Sep.blk0 {x r : ByteArray} (h : Sep x) : Blk0 (x ++ r):=by
 unfold Blk0
 rcases h with rfl | rfl | rfl <;> · rw [bt_left (by decide)];decide
theorem sep_one {x r : ByteArray} (hx : x = sp1 \/ x = sp2) : er (tks (x ++ r) 0) = er (tks r 0):=by
 have hs : x.size = 1:=by rcases hx with rfl | rfl <;> rfl
 have hb : bt (x ++ r) 0 = 32 \/ bt (x ++ r) 0 = 10:=by
  rw [bt_left (by omega)]
  rcases hx with rfl | rfl <;> decide
 have h0 : 0 < (x ++ r).size:=by rw [bsa];omega
 have hp : plen (x ++ r) 0 = 1:=by unfold plen;rw [if_pos hb]
 have hk : blk (x ++ r) 0 = true:=by
  unfold blk
  exact decide_eq_true (by rcases hb with z | z;exact .inl z;exact .inr (.inl z))
 rw [tks_blk h0 hk,hp]
 have h2:=tks_right (a:=x) (b:=r) 0
 rw [Nat.add_zero,hs] at h2
 exact h2
theorem sep_then {x r : ByteArray} (hx : Sep x) : er (tks (x ++ r) 0) = er (tks r 0):=by
 rcases hx with hx | hx | rfl
 ·exact sep_one (.inl hx)
 ·exact sep_one (.inr hx)
 ·have hz : (sp3 ++ r).size = 3 + r.size:=by rw [bsa];rfl
  have b0 : bt (sp3 ++ r) 0 = 35:=by rw [bt_left (by decide)];decide
  have b1 : bt (sp3 ++ r) 1 = 59:=by rw [bt_left (by decide)];decide
  have b2 : bt (sp3 ++ r) 2 = 10:=by rw [bt_left (by decide)];decide
  have r1 : run nn (sp3 ++ r) 1 = 1:=by rw [run_step (by omega) (by rw [b1];decide),run_stop (by omega) (by rw [b2];decide)]
  have p0 : plen (sp3 ++ r) 0 = 2:=by
   unfold plen
   rw [b0,if_neg (by decide),if_pos rfl,r1]
  have p2 : plen (sp3 ++ r) 2 = 1:=by unfold plen;rw [b2,if_pos (by decide)]
  rw [tks_blk (by omega) (by unfold blk;rw [b0];decide),p0,tks_blk (by omega) (by unfold blk;rw [b2];decide),p2]
  have h2:=tks_right (a:=sp3) (b:=r) 0
  exact h2
def Tok (t : TK) : Prop:=∃ s i,i < s.size /\ blk s i = false /\ t.txt = ptx s i /\ t.cls = cls (ptx s i).toList
theorem tks_tokS {s : ByteArray} : ∀ (n i : Nat),s.size - i <= n -> ∀ t,t ∈ tks s i -> Tok t
 | 0,i,hn,t,ht=>by
   rw [tks_end (by omega)] at ht
   cases ht
 | n + 1,i,hn,t,ht=>by
   by_cases h : i < s.size
   ·have hpos:=plen_pos s i
    cases hb : blk s i
    ·rw [tks_tok h hb] at ht
     rcases List.mem_cons.1 ht with rfl | ht
     ·exact ⟨s,i,h,hb,rfl,rfl⟩
     ·exact tks_tokS n _ (by omega) t ht
    ·rw [tks_blk h hb] at ht
     exact tks_tokS n _ (by omega) t ht
   ·rw [tks_end h] at ht
    cases ht
def spc : List (TK × ByteArray) -> ByteArray
 | []=>ByteArray.empty
 | x :: l=>x.1.txt ++ x.2 ++ spc l
theorem spc_snoc : ∀ (l : List (TK × ByteArray)) (x : TK × ByteArray),spc (l ++ [x]) = spc l ++ x.1.txt ++ x.2
 | [],x=>by
   show x.1.txt ++ x.2 ++ ByteArray.empty = ByteArray.empty ++ x.1.txt ++ x.2
   rw [ByteArray.append_empty,ByteArray.empty_append]
 | y :: l,x=>by
   show y.1.txt ++ y.2 ++ spc (l ++ [x]) = y.1.txt ++ y.2 ++ spc l ++ x.1.txt ++ x.2
   rw [spc_snoc l x]
   simp only [ByteArray.append_assoc]
theorem spc_tks : ∀ (l : List (TK × ByteArray)),(∀ x,x ∈ l -> Tok x.1 /\ x.1.cls ≠ 0 /\ Sep x.2) -> er (tks (spc l) 0) = er (l.map Prod.fst)
 | [],_=>by
   show er (tks ByteArray.empty 0) = _
   rw [tks_end (by decide)]
   rfl
 | x :: l,h=>by
   obtain ⟨⟨s,i,hi,hb,e1,e2⟩,hc,hs⟩:=h x (List.mem_cons_self)
   have ih:=spc_tks l (fun y hy=>h y (List.mem_cons_of_mem _ hy))
   show er (tks (x.1.txt ++ x.2 ++ spc l) 0) = ⟨x.1.cls,x.1.txt,0⟩ :: er (l.map Prod.fst)
   rw [ByteArray.append_assoc,e1,tok_then hi hb (by rw [<- e2];exact hc) (hs.blk0 (r:=spc l)),sep_then hs,ih,e2]
theorem spc_same (st : Bool) {s y : ByteArray} {l : List (TK × ByteArray)} (hl : l.map Prod.fst = toks s) (hy : y = spc l) (hz : y.size <= 1000) (hc : ∀ x,x ∈ l -> x.1.cls ≠ 0) (hs : ∀ x,x ∈ l -> Sep x.2) :
  er (toks y) = er (toks s) /\ decs st ((toks y).length + 1) (toks y) = decs st ((toks s).length + 1) (toks s):=by
 have hT : ∀ t,t ∈ toks s -> Tok t:=fun t ht=>by
  unfold toks at ht
  split at ht
  ·exact tks_tokS s.size 0 (by omega) t ht
  ·cases ht
 have h1 : er (toks y) = er (toks s):=by
  have : toks y = tks y 0:=by unfold toks;rw [if_pos hz]
  rw [this,hy,spc_tks l (fun x hx=>⟨hT _ (by rw [<- hl];exact List.mem_map_of_mem hx),hc x hx,hs x hx⟩),hl]
 have h2 : (toks y).length = (toks s).length:=by rw [<- er_len,h1,er_len]
 exact ⟨h1,by rw [<- decs_er,h1,h2,decs_er]⟩
end Go.Proofs.YtcehppndpccldaaGreatDoor
namespace Go.Proofs.YtcehppndpccldaaGreatDoor
open Go.RowKit
theorem d_count (ca : Option Addr) (L cc : Nat) (w : World) (hL : L <= 1048576) :
  Calls Tryz.prog 45 #[.slice ca L cc,.int .i64 10,.int .i64 2,.int .i64 10] w fun e w'=>(∃ n : Nat,e = .returned (.int .i64 (n : Int)) /\ 2 <= n /\ n <= 10) /\ w = w':=by
 have m1 : Int.tdiv (L : Int) 10 = ((L / 10 : Nat) : Int):=tdivN L 10
 obtain ⟨d,hd⟩:=xe (L / 10)
 rw [<- hd] at m1
 have hdl : d <= 1048576:=by omega
 have w1 : IntKind.i64.wrap (2 + (d : Int)) = 2 + (d : Int):=wk (by omega)
 clear hd
 by_cases h : (10 : Int) < 2 + (d : Int)
 ·go_enter Tryz.func45,Tryz.ntmps45
  go_wp2
  go_ret
  exact ⟨⟨10,rfl,by omega,by omega⟩,rfl⟩
 ·go_enter Tryz.func45,Tryz.ntmps45
  go_wp2
  go_ret
  exact ⟨⟨2 + d,by simp,by omega,by omega⟩,rfl⟩
theorem d_long (n : Nat) (w : World) (hn : n <= 2000) (hn9 : 9 <= n) :
  Calls Tryz.prog 43 #[.int .i64 (n : Int)] w fun e w'=>(∃ s,e = .returned (.string s) /\ s.size <= 2000) /\ w = w':=by
 go_enter Tryz.func43,Tryz.ntmps43
 go_wp2
 go_loopw [3] (fun v wr=>∃ s : ByteArray,v = .string s /\ 9 <= s.size /\ s.size <= n /\ w = wr) (fun v _=>match v with | .string s=>n - s.size | _=>0)
 case atStart=>exact ⟨_,rfl,by decide,hn9,rfl⟩
 case round=>
  obtain ⟨s,rfl,hs9,hsn,hw⟩:=hrel
  subst hw
  have w1 : IntKind.i64.wrap ((s.size : Int) * 2) = (s.size : Int) * 2:=wk (by omega)
  by_cases hlt : (s.size : Int) * 2 <= (n : Int)
  ·have a1:=rsa s s (by omega)
   go_wp2
   go_roundw
   case rel=>exact ⟨_,rfl,by rw [bsa];omega,by rw [bsa];omega,trivial⟩
   case measure=>show n - (s ++ s).size < n - s.size;rw [bsa];omega
  ·go_wp2
   go_loopw [3] (fun v wr2=>∃ s : ByteArray,v = .string s /\ s.size <= n /\ w = wr2) (fun v _=>match v with | .string s=>n - s.size | _=>0)
   case atStart=>exact ⟨_,rfl,hsn,rfl⟩
   case round=>
    rename World=>wr2
    obtain ⟨t,rfl,htn,hw⟩:=hrel
    subst hw
    by_cases hl2 : (t.size : Int) < (n : Int)
    ·have s1 : (⟨#[32]⟩ : ByteArray).size = 1:=rfl
     have a1:=rsa t (⟨#[32]⟩ : ByteArray) (by rw [s1];omega)
     go_wp2
     go_roundw
     case rel=>exact ⟨_,rfl,by rw [bsa,s1];omega,trivial⟩
     case measure=>show n - (t ++ (⟨#[32]⟩ : ByteArray)).size < n - t.size;rw [bsa,s1];omega
    ·go_wp2
     go_ret
     exact ⟨⟨_,rfl,by omega⟩,rfl⟩
theorem d_spoil (w : World) {ca : Option Addr} {cb co Ln cc p : Nat} {C : Nat -> Nat} (hC : BytesAt w ca cb co Ln C) (hLn : Ln <= 1048576) (hp : p <= 1000000) (s : ByteArray) (hs : s.size <= 2000) :
  Calls Tryz.prog 73 #[.slice ca Ln cc,.int .i64 (p : Int),.string s] w fun e w'=>(∃ t,e = .returned (.string t) /\ t.size <= 5000) /\ Bw w w':=by
 have C1:=d_take ca cb co Ln cc p 4 C w hC hLn (by omega) (by omega)
 have C2:=d_take ca cb co Ln cc (p + 1) (s.size + 1) C w hC hLn (by omega) (by omega)
 have C3:=d_take ca cb co Ln cc (p + 1 + 1) 24 C w hC hLn (by omega) (by omega)
 obtain ⟨a,ha⟩:=xe (tk C Ln p 4)
 obtain ⟨k,hk⟩:=xe (tk C Ln (p + 1) (s.size + 1))
 obtain ⟨x,hx⟩:=xe (tk C Ln (p + 1 + 1) 24)
 have ha4 : a < 4:=by rw [ha];exact tk_lt (by omega)
 have hks : k <= s.size:=by have : k < s.size + 1:=by rw [hk];exact tk_lt (by omega)
                            omega
 have hx24 : x < 24:=by rw [hx];exact tk_lt (by omega)
 rw [<- ha] at C1
 rw [<- hk] at C2
 rw [<- hx] at C3
 clear hC ha hk hx
 have ws : IntKind.i64.wrap ((s.size : Int) + 1) = (s.size : Int) + 1:=wk (by omega)
 have wkk : IntKind.i64.wrap (k : Int) = (k : Int):=wk (by omega)
 have wk1 : IntKind.i64.wrap ((k : Int) + 1) = (k : Int) + 1:=wk (by omega)
 have wx : IntKind.i64.wrap (x : Int) = (x : Int):=wk (by omega)
 have wx1 : IntKind.i64.wrap ((x : Int) + 1) = (x : Int) + 1:=wk (by omega)
 have k0 : (0 : Int) <= (k : Int):=by omega
 have k1 : (k : Int) <= (s.size : Int):=by omega
 have tk1 : ((k : Int) + 1).toNat = k + 1:=by omega
 have tx1 : ((x : Int) + 1).toNat = x + 1:=by omega
 obtain ⟨bits,hbits⟩ : ∃ b : ByteArray,b = ⟨#[59,58,61,63,123,125,40,41,44,46,43,60,45,62,120,48,32,35,10,65,95,102,57,113]⟩:=⟨_,rfl⟩
 have hbs : bits.size = 24:=by rw [hbits];rfl
 have z1 : (s.extract 0 k).size <= 2000:=by rw [ByteArray.size_extract];omega
 have z2 : (s.extract (k + 1) s.size).size <= 2000:=by rw [ByteArray.size_extract];omega
 have z3 : (s.extract k s.size).size <= 2000:=by rw [ByteArray.size_extract];omega
 have z4 : (bits.extract x (x + 1)).size <= 1:=by rw [ByteArray.size_extract];omega
 go_enter Tryz.func73,Tryz.ntmps73
 go_wp2_with fail
 refine C1.mono ?_
 rintro e w' ⟨rfl,rfl⟩
 go_wp2_with fail
 refine C2.mono ?_
 rintro e w' ⟨rfl,rfl⟩
 go_wp2_with fail
 refine C3.mono ?_
 rintro e w' ⟨rfl,rfl⟩
 clear C1 C2 C3
 by_cases h0 : a = 0 /\ k < s.size
 ·obtain ⟨h0,hk⟩:=h0
  subst h0
  have hk2 : (k : Int) < (s.size : Int):=by omega
  have a1:=rsa (s.extract 0 k) (s.extract (k + 1) s.size) (by omega)
  go_wp2
  go_region
  all_goals
   go_wp2
   go_ret
   exact ⟨⟨_,rfl,by rw [bsa];omega⟩,(Below.refl _ _).drew⟩
 by_cases h1 : a = 1 /\ k < s.size
 ·obtain ⟨h1,hk⟩:=h1
  subst h1
  have hk2 : (k : Int) < (s.size : Int):=by omega
  have a1:=rsa (s.extract 0 k) (bits.extract x (x + 1)) (by omega)
  have a2:=rsa (s.extract 0 k ++ bits.extract x (x + 1)) (s.extract (k + 1) s.size) (by rw [bsa];omega)
  rw [hbits] at a1 a2 z4
  clear hbits hbs h0
  go_wp2
  go_region
  all_goals
   go_wp2
   go_ret
   exact ⟨⟨_,rfl,by rw [bsa,bsa];omega⟩,(Below.refl _ _).drew⟩
 by_cases h2 : a = 2
 ·subst h2
  have a1:=rsa (s.extract 0 k) (bits.extract x (x + 1)) (by omega)
  have a2:=rsa (s.extract 0 k ++ bits.extract x (x + 1)) (s.extract k s.size) (by rw [bsa];omega)
  rw [hbits] at a1 a2 z4
  clear hbits hbs h0 h1
  go_wp2
  go_region
  all_goals
   go_wp2
   go_ret
   exact ⟨⟨_,rfl,by rw [bsa,bsa];omega⟩,(Below.refl _ _).drew⟩
 have e2 : ((a : Int) == 2) = false:=bn2 (by omega)
 by_cases ha0 : a = 0
 ·subst ha0
  have hk2 : ¬ (k : Int) < (s.size : Int):=by omega
  clear h0 h1 h2 hbits hbs
  go_wp2
  go_ret
  exact ⟨⟨_,rfl,by omega⟩,Below.refl _ _⟩
 have e0' : ((a : Int) == 0) = false:=bn2 (by omega)
 by_cases ha1 : a = 1
 ·subst ha1
  have hk2 : ¬ (k : Int) < (s.size : Int):=by omega
  clear h0 h1 h2 hbits hbs
  go_wp2
  go_ret
  exact ⟨⟨_,rfl,by omega⟩,Below.refl _ _⟩
 have e1' : ((a : Int) == 1) = false:=bn2 (by omega)
 clear h0 h1 h2 hbits hbs
 go_wp2
 go_ret
 exact ⟨⟨_,rfl,by omega⟩,Below.refl _ _⟩
theorem hidQ2 {p : Prop} (h : p) : Hid p:=h
theorem MS.tok {w : World} {tb : Nat} {ao : Option Addr} {ts : List TK} (h : MS w tb 0 ao ts) {k : Nat} (hk : k < ts.length) : ao = some ⟨tb,0,none⟩ /\ w.cell? ⟨tb,k * 3 + 1,none⟩ = some (.string (tkA ts k).txt):=by
 have h1:=h.1.c1 k hk
 rw [Nat.zero_add] at h1
 exact ⟨h.2 (by omega),h1⟩
theorem d_glued (w : World) {tb : Nat} {ao : Option Addr} {ts : List TK} {c : Nat} (h : MS w tb 0 ao ts) (ok : TkOK ts) {k : Nat} (hk : k < ts.length) (hl : ts.length <= 1000) :
  Calls Tryz.prog 109 #[.slice ao ts.length c,.int .i64 (k : Int)] w fun e w'=>(∃ b : Bool,e = .returned (.bool b)) /\ ∃ m,w' = w.drewN m:=by
 have w1 : IntKind.i64.wrap ((k : Int) + 1) = (k : Int) + 1:=wk (by omega)
 by_cases hk1 : k + 1 < ts.length
 ·obtain ⟨e1,c1⟩:=h.tok hk
  obtain ⟨_,c2⟩:=h.tok hk1
  have g1 : tkA ts k ∈ ts:=by unfold tkA;rw [List.getD_eq_getElem?_getD,List.getElem?_eq_getElem hk];exact List.getElem_mem hk
  have g2 : tkA ts (k + 1) ∈ ts:=by unfold tkA;rw [List.getD_eq_getElem?_getD,List.getElem?_eq_getElem hk1];exact List.getElem_mem hk1
  have p1:=ok.pos _ g1
  have p2:=ok.pos _ g2
  have s1:=ok.sz _ g1
  have s2:=ok.sz _ g2
  obtain ⟨t1,ht1⟩:=xe ((tkA ts k).txt)
  obtain ⟨t2,ht2⟩:=xe ((tkA ts (k + 1)).txt)
  rw [<- ht1] at c1 p1 s1
  rw [<- ht2] at c2 p2 s2
  obtain ⟨n1,hn1⟩ : ∃ n,t1.size = n + 1:=⟨t1.size - 1,by omega⟩
  have l1 : n1 < t1.size:=by omega
  obtain ⟨b1,hb1⟩ : ∃ b : Int,b = (t1[n1].toNat : Int):=⟨_,rfl⟩
  obtain ⟨b2,hb2⟩ : ∃ b : Int,b = (t2[0].toNat : Int):=⟨_,rfl⟩
  have hi : (k : Int) + 1 < (ts.length : Int):=by omega
  have hi2 : ¬ (ts.length : Int) <= (k : Int) + 1:=by omega
  have h0 : (0 : Int) <= (k : Int) + 1:=by omega
  have tn : ((k : Int) + 1).toNat = k + 1:=by omega
  have ki : (k : Int) < (ts.length : Int):=by omega
  obtain ⟨N,hN⟩:=xe (ts.length)
  rw [<- hN] at hi hi2 ki
  have hN1 : N <= 1000:=by omega
  rw [e1,<- hN]
  have wn : IntKind.i64.wrap ((t1.size : Int) - 1) = (n1 : Int):=wk (by omega)
  have ln1 : (n1 : Int) < (t1.size : Int):=by omega
  have l00 : (0 : Int) <= (n1 : Int):=by omega
  have x1 : ∀ j,Calls Tryz.prog 67 #[.int .u8 (t1[n1].toNat : Int)] (w.drewN j) fun e w'=>e = .returned (.bool (wb (t1[n1].toNat : Int))) /\ ∃ k,w' = (w.drewN j).drewN k:=fun j=>(c30 _ _).mono fun _ _ h=>⟨h.1,0,h.2⟩
  have x2 : ∀ j,Calls Tryz.prog 67 #[.int .u8 (t2[0].toNat : Int)] (w.drewN j) fun e w'=>e = .returned (.bool (wb (t2[0].toNat : Int))) /\ ∃ k,w' = (w.drewN j).drewN k:=fun j=>(c30 _ _).mono fun _ _ h=>⟨h.1,0,h.2⟩
  clear h ok g1 g2 ht1 ht2 hN hk1 hk hl hn1
  obtain ⟨r1,hr1⟩:=xe (wb (t1[n1].toNat : Int))
  obtain ⟨r2,hr2⟩:=xe (wb (t2[0].toNat : Int))
  rw [<- hr1] at x1
  rw [<- hr2] at x2
  clear hr1 hr2 hb1 hb2
  have X1:=hidQ2 x1
  have X2:=hidQ2 x2
  clear x1 x2
  cases r1
  ·go_enter Tryz.func109,Tryz.ntmps109
   go_wp2
   go_quiet (first | (go_at_call 67;first | (with_reducible exact Calls.quiet_of (X1.out _)) | (with_reducible exact quiet_two (X1.out _))))
   go_wp2
   go_ret
   exact ⟨⟨_,rfl⟩,_,rfl⟩
  ·go_enter Tryz.func109,Tryz.ntmps109
   go_wp2
   go_quiet (first | (go_at_call 67;first | (with_reducible exact Calls.quiet_of (X1.out _)) | (with_reducible exact quiet_two (X1.out _)) | (with_reducible exact Calls.quiet_of (X2.out _)) | (with_reducible exact quiet_two (X2.out _))))
   go_wp2
   go_ret
   exact ⟨⟨_,rfl⟩,_,rfl⟩
 ·have hi2 : (ts.length : Int) <= (k : Int) + 1:=by omega
  clear h ok
  go_enter Tryz.func109,Tryz.ntmps109
  go_wp2
  go_ret
  exact ⟨⟨_,rfl⟩,0,rfl⟩
theorem d_toks (s : ByteArray) (w : World) (hs : s.size <= 9223372036854775807) : Calls Tryz.prog 17 #[.string s] w fun e w'=>∃ (ao : Option Addr) (c tb : Nat),e = .returned (.slice ao (toks s).length c) /\ Hid (∀ W,Bw w' W -> MS W tb 0 ao (toks s)) /\ Hid (Bw w w'):=by
 refine (c5 s w hs).mono ?_
 rintro e w3 ⟨v0,rfl,hO⟩
 have hl:=toks_len s
 obtain ⟨ao,c,rfl⟩:=own_form hO.own
 obtain ⟨tb,hms⟩ : ∃ tb,MS w3 tb 0 ao (toks s):=by
  by_cases hp : 0 < (toks s).length
  ·obtain ⟨g,c',e,_⟩:=own_blk hO.own hp
   cases e
   exact ⟨g,TkAt.of_own hO,fun _=>rfl⟩
  ·exact ⟨0,⟨fun j hj=>absurd hj (by omega),fun j hj=>absurd hj (by omega),fun j hj=>absurd hj (by omega),by omega,fun j hj=>absurd hj (by omega),fun j hj=>absurd hj (by omega)⟩,fun z=>absurd z hp⟩
 exact ⟨ao,c,tb,rfl,fun W hb=>hms.below hb,hO.below⟩
theorem below_dn (w : World) (m : Nat) : Bw w (w.drewN m):=⟨rfl,rfl,rfl,nlr _,fun _ _=>rfl⟩
theorem d_spaced (w : World) {ca : Option Addr} {cb co Ln cc p : Nat} {C : Nat -> Nat} (hC : BytesAt w ca cb co Ln C) (hLn : Ln <= 1048576) (hp : p <= 1000000) (s : ByteArray) (hs : s.size <= 2000) :
  Calls Tryz.prog 72 #[.slice ca Ln cc,.int .i64 (p : Int),.string s] w fun e w'=>(∃ t,e = .returned (.string t) /\ t.size <= 3000000) /\ Bw w w':=by
 have C1:=d_toks s w (by omega)
 have HC : Hid (∀ W,Bw w W -> BytesAt W ca cb co Ln C):=fun W hb=>hC.below hb
 have HOK : Hid (TkOK (toks s)):=toks_ok s
 have hl:=toks_len s
 obtain ⟨ts,hts⟩:=xe (toks s)
 rw [<- hts] at C1 HOK hl
 clear hts hC
 go_enter Tryz.func72,Tryz.ntmps72
 go_wp2_with fail
 refine C1.mono ?_
 rintro e w1 ⟨ao,c,tb,rfl,HMS,HB1⟩
 clear C1
 go_wp2
 go_loopw [1,8,9] (fun pp v i wr=>∃ (k q : Nat) (t : ByteArray),k <= ts.length /\ i = .int .i64 k /\ pp = .int .i64 (q : Int) /\ q <= p + k /\ v = .string t /\ t.size <= k * 2000 /\ Hid (Bw w1 wr)) (fun _ _ i _=>ts.length - (intOf i).toNat)
 case atStart=>exact ⟨0,p,⟨#[]⟩,Nat.zero_le _,rfl,rfl,by omega,rfl,by decide,Below.refl _ _⟩
 case round=>
  obtain ⟨k,q,t,hk,rfl,rfl,hq,rfl,htk,HW⟩:=hrel
  have hk2 : k * 2000 <= 1000 * 2000:=Nat.mul_le_mul_right _ (by omega)
  have hk3 : (k + 1) * 2000 = k * 2000 + 2000:=Nat.succ_mul _ _
  have HWw : Hid (Bw w wr):=HB1.out.trans (HW.out.mono HB1.out.size)
  by_cases hlt : k < ts.length
  ·have lk : (k : Int) < (ts.length : Int):=by omega
   obtain ⟨ea,c1⟩:=(HMS.out wr HW.out).tok hlt
   have g1 : tkA ts k ∈ ts:=by unfold tkA;rw [List.getD_eq_getElem?_getD,List.getElem?_eq_getElem hlt];exact List.getElem_mem hlt
   have sx:=HOK.out.sz _ g1
   obtain ⟨x,hx⟩:=xe ((tkA ts k).txt)
   rw [<- hx] at c1 sx
   have C2:=d_take ca cb co Ln cc q 8 C wr (HC.out wr HWw.out) hLn (by omega) (by omega)
   obtain ⟨a,ha⟩:=xe (tk C Ln q 8)
   have ha8 : a < 8:=by rw [ha];exact tk_lt (by omega)
   rw [<- ha] at C2
   have C3:=d_glued (c:=c) wr (HMS.out wr HW.out) HOK.out hlt hl
   obtain ⟨N,hN⟩:=xe (ts.length)
   have HNL : Hid (N = ts.length /\ k + 1 <= N):=⟨hN,by omega⟩
   have hN1 : N <= 1000:=by omega
   rw [<- hN] at lk C3
   rw [ea] at C3
   rw [<- hN,ea]
   have a1:=rsa t x (by omega)
   obtain ⟨y,hy⟩:=xe (t ++ x)
   have sy : y.size <= k * 2000 + 1000:=by rw [hy,bsa];omega
   rw [<- hy] at a1
   have s1 : (⟨#[32,35,32,59,120,10]⟩ : ByteArray).size = 6:=rfl
   have s2 : (⟨#[32]⟩ : ByteArray).size = 1:=rfl
   have s3 : (⟨#[10,10]⟩ : ByteArray).size = 2:=rfl
   have a2:=rsa y (⟨#[32,35,32,59,120,10]⟩ : ByteArray) (by rw [s1];omega)
   have a3:=rsa y (⟨#[32]⟩ : ByteArray) (by rw [s2];omega)
   have a4:=rsa y (⟨#[10,10]⟩ : ByteArray) (by rw [s3];omega)
   have a5:=rsa (y ++ (⟨#[32]⟩ : ByteArray)) (⟨#[10,10]⟩ : ByteArray) (by rw [bsa,s2,s3];omega)
   have hm : N - (k + 1) < N - k:=by have:=HNL.out;omega
   have HKL : Hid (k + 1 <= N /\ N - (k + 1) < N - k):=by have:=HNL.out;exact ⟨by omega,by omega⟩
   clear ha hx hy hN g1 ea hlt
   go_wp2_with fail
   refine C2.mono ?_
   rintro e w3 ⟨rfl,rfl⟩
   clear C2
   by_cases e0' : a = 0
   ·subst e0'
    clear C3
    go_wp2
    go_roundw
    case rel=>exact ⟨k + 1,q + 1,_,HKL.out.1,by go_num,rfl,by omega,rfl,by rw [bsa,s1];omega,HW⟩
    case measure=>have:=HKL.out.2;simp [intOf];omega
   have b0 : ((a : Int) == 0) = false:=bn2 (by omega)
   by_cases e4 : a < 4
   ·have l4 : (a : Int) < 4:=by omega
    have b4 : ((a : Int) == 4) = false:=bn2 (by omega)
    clear C3
    go_wp2
    go_roundw
    case rel=>exact ⟨k + 1,q + 1,_,HKL.out.1,by go_num,rfl,by omega,rfl,by rw [bsa,s2];omega,HW⟩
    case measure=>have:=HKL.out.2;simp [intOf];omega
   have l4 : ¬ (a : Int) < 4:=by omega
   go_wp2_with fail
   refine C3.mono ?_
   rintro e w4 ⟨⟨b,rfl⟩,m,hw4⟩
   have HW4 : Hid (Bw w1 w4):=by rw [hw4];exact HW.out.trans ((below_dn wr m).mono HW.out.size)
   clear hw4 C3
   by_cases e5 : a = 4
   ·subst e5
    cases b
    ·go_wp2
     go_roundw
     case rel=>exact ⟨k + 1,q + 1,_,HKL.out.1,by go_num,rfl,by omega,rfl,by rw [bsa,s3];omega,HW4⟩
     case measure=>have:=HKL.out.2;simp [intOf];omega
    ·go_wp2
     go_roundw
     case rel=>exact ⟨k + 1,q + 1,_,HKL.out.1,by go_num,rfl,by omega,rfl,by rw [bsa,bsa,s2,s3];omega,HW4⟩
     case measure=>have:=HKL.out.2;simp [intOf];omega
   ·have b4 : ((a : Int) == 4) = false:=bn2 (by omega)
    cases b
    ·go_wp2
     go_roundw
     case rel=>exact ⟨k + 1,q + 1,_,HKL.out.1,by go_num,rfl,by omega,rfl,by omega,HW4⟩
     case measure=>have:=HKL.out.2;simp [intOf];omega
    ·go_wp2
     go_roundw
     case rel=>exact ⟨k + 1,q + 1,_,HKL.out.1,by go_num,rfl,by omega,rfl,by rw [bsa,s2];omega,HW4⟩
     case measure=>have:=HKL.out.2;simp [intOf];omega
  ·have lk : ¬ (k : Int) < (ts.length : Int):=by omega
   go_wp2
   go_ret
   exact ⟨⟨_,rfl,by omega⟩,HWw.out⟩
theorem prM_size (l : List DC) : (prM l).size <= 1000:=by
 unfold prM
 split
 ·rename_i h
  unfold okM at h
  simp only [Bool.and_eq_true,decide_eq_true_eq] at h
  exact h.2
 ·show (0 : Nat) <= 1000
  omega
theorem d_text (w : World) {ca : Option Addr} {cb co Ln cc p : Nat} {C : Nat -> Nat} (hC : BytesAt w ca cb co Ln C) (hLn : Ln <= 1048576) (hp : p <= 90000) {Q : List ByteArray} {mq : NPl} {mc : Nat} (hM : NsA w mq Q) (gM : ∀ s,s ∈ Q -> gn s = true) (hM0 : 0 < Q.length) (hM1 : Q.length <= 100) {n : Nat} (hn1 : 1 <= n) (hn10 : n <= 10) :
  Calls Tryz.prog 44 #[.slice ca Ln cc,.int .i64 (p : Int),.slice mq.a Q.length mc,.int .i64 (n : Int)] w fun e w'=>(∃ (s : ByteArray) (q : Nat),e = .returned (.tuple #[.string s,.int .i64 (q : Int)]) /\ s.size <= 1000 /\ p <= q /\ q <= p + 200010) /\ Hid (Bw w w'):=by
 have C1:=d_take ca cb co Ln cc p 16 C w hC hLn (by omega) (by omega)
 obtain ⟨hw,hhw⟩:=xe (tk C Ln p 16)
 have hw16 : hw < 16:=by rw [hhw];exact tk_lt (by omega)
 rw [<- hhw] at C1
 have C2:=d_module w hC (cc:=cc) (p:=p + 1) hLn (by omega) (mc:=mc) hM gM hM0 hM1 hn1 hn10
 have HC : Hid (∀ W,Bw w W -> BytesAt W ca cb co Ln C):=fun W hb=>hC.below hb
 have m4 : Int.tmod (hw : Int) 4 = ((hw % 4 : Nat) : Int):=tmodN hw 4
 obtain ⟨h4,hh4⟩:=xe (hw % 4)
 rw [<- hh4] at m4
 clear hC hM gM hhw hh4
 go_enter Tryz.func44,Tryz.ntmps44
 go_wp2_with fail
 refine C1.mono ?_
 rintro e w1 ⟨rfl,rfl⟩
 clear C1
 go_wp2_with fail
 refine C2.mono ?_
 rintro e w2 ⟨⟨va,m,c,q,rfl,hq1,hq2,HX⟩,HB2⟩
 clear C2
 obtain ⟨xs,hD,hm,hok⟩:=HX.out
 have C3:=v_print (w2.alloc (.cells #[.slice va m c] 24)) (hD.below (bel1 _ _)) rfl
 have sp:=prM_size (xs.map Prod.fst)
 obtain ⟨s,hs⟩:=xe (prM (xs.map Prod.fst))
 rw [<- hs] at C3 sp
 clear HX hD hm hok hs
 go_wp2_with fail
 refine C3.mono ?_
 rintro e w3 ⟨rfl,hb3⟩
 have HB3 : Hid (Bw w w3):=HB2.out.trans (((bel1 _ _).trans (hb3.mono (by simp))).mono HB2.out.size)
 clear C3 hb3
 have wq3 : IntKind.i64.wrap ((q : Int) + 3) = (q : Int) + 3:=wk (by omega)
 have hq3 : p <= q + 3 /\ q + 3 <= p + 200010:=by omega
 have hqB : q <= 1000000:=by omega
 go_upto_if 34 with fail
 go_cut [13] (fun v wx=>∃ t : ByteArray,v = .string t /\ t.size <= 1000 /\ Hid (Bw w wx))
 case first=>
  by_cases h1 : h4 = 1
  ·subst h1
   have C4:=d_spaced w3 (HC.out w3 HB3.out) (cc:=cc) hLn hqB s (by omega)
   go_wp2_with fail
   refine C4.mono ?_
   rintro e w4 ⟨⟨t,rfl,ht⟩,hb4⟩
   have HB4 : Hid (Bw w w4):=HB3.out.trans (hb4.mono HB3.out.size)
   clear C4 hb4
   by_cases hl : (t.size : Int) <= 1000
   ·go_wp2
    go_meet
    exact ⟨_,rfl,by omega,HB4⟩
   ·go_wp2
    go_meet
    exact ⟨_,rfl,by omega,HB4⟩
  ·have b1 : ((h4 : Int) == 1) = false:=bn2 (by omega)
   clear h1
   go_wp2
   go_meet
   exact ⟨_,rfl,by omega,HB3⟩
 case rest=>
  obtain ⟨t,rfl,ht,HBX⟩:=hcut
  by_cases h13 : (13 : Int) <= (hw : Int)
  ·have C5:=d_spoil wc (HC.out wc HBX.out) (cc:=cc) hLn hqB t (by omega)
   go_wp2_with fail
   refine C5.mono ?_
   rintro e w5 ⟨⟨u,rfl,hu⟩,hb5⟩
   have HB5 : Hid (Bw w w5):=HBX.out.trans (hb5.mono HBX.out.size)
   clear C5 hb5
   by_cases hl : (u.size : Int) <= 1000
   ·go_wp2
    go_ret2
    exact ⟨⟨_,q + 3,rfl,by omega,hq3.1,hq3.2⟩,HB5⟩
   ·go_wp2
    go_ret2
    exact ⟨⟨_,q + 3,rfl,by omega,hq3.1,hq3.2⟩,HB5⟩
  ·go_wp2
   go_ret2
   exact ⟨⟨_,q + 3,rfl,by omega,hq3.1,hq3.2⟩,HBX⟩
theorem d_parse (w : World) {ca : Option Addr} {cb co Ln cc : Nat} {C : Nat -> Nat} (hC : BytesAt w ca cb co Ln C) (hLn : Ln <= 1048576) :
  Calls Tryz.prog 21 #[.slice ca Ln cc] w fun e w'=>(∃ s : ByteArray,e = .returned (.string s) /\ s.size <= 2000) /\ Hid (Bw w w'):=by
 have C1:=d_take ca cb co Ln cc 0 24 C w hC hLn (by omega) (by omega)
 obtain ⟨hw,hhw⟩:=xe (tk C Ln 0 24)
 rw [<- hhw] at C1
 by_cases h23 : hw = 23
 ·have b23 : ((hw : Int) == 23) = true:=beq_iff_eq.2 (by omega)
  have C2:=d_take ca cb co Ln cc 1 6 C w hC hLn (by omega) (by omega)
  obtain ⟨x,hx⟩:=xe (tk C Ln 1 6)
  have hx6 : x < 6:=by rw [hx];exact tk_lt (by omega)
  rw [<- hx] at C2
  clear hx hhw hC h23
  go_enter Tryz.func21,Tryz.ntmps21
  go_wp2_with fail
  refine C1.mono ?_
  rintro e w1 ⟨rfl,rfl⟩
  go_wp2_with fail
  refine C2.mono ?_
  rintro e w1 ⟨rfl,rfl⟩
  clear C1 C2
  by_cases h2 : (x : Int) < 2
  ·have C3:=d_long (1000 + x) w (by omega) (by omega)
   have wx : IntKind.i64.wrap (1000 + (x : Int)) = 1000 + (x : Int):=wk (by omega)
   rw [show ((1000 + x : Nat) : Int) = 1000 + (x : Int) by omega] at C3
   go_wp2_with fail
   refine C3.mono ?_
   rintro e w3 ⟨⟨s,rfl,hs⟩,rfl⟩
   clear C3
   go_wp2
   go_ret
   exact ⟨⟨_,rfl,hs⟩,Below.refl _ _⟩
  by_cases e2 : x = 2
  ·subst e2
   clear h2
   go_wp2
   go_ret
   exact ⟨⟨_,rfl,by decide⟩,Below.refl _ _⟩
  have b2 : ((x : Int) == 2) = false:=bn2 (by omega)
  by_cases e3 : x = 3
  ·subst e3
   clear h2 e2
   go_wp2
   go_ret
   exact ⟨⟨_,rfl,by decide⟩,Below.refl _ _⟩
  have b3 : ((x : Int) == 3) = false:=bn2 (by omega)
  by_cases e4 : x = 4
  ·subst e4
   clear h2 e2 e3
   go_wp2
   go_ret
   exact ⟨⟨_,rfl,by decide⟩,Below.refl _ _⟩
  have b4 : ((x : Int) == 4) = false:=bn2 (by omega)
  clear e2 e3 e4
  go_wp2
  go_ret
  exact ⟨⟨_,rfl,by decide⟩,Below.refl _ _⟩
 ·have b23 : ((hw : Int) == 23) = false:=bn2 (by omega)
  have HC : Hid (∀ W,Bw w W -> BytesAt W ca cb co Ln C):=fun W hb=>hC.below hb
  obtain ⟨W2,hW2⟩:=xe (w.alloc (.cells #[.string ⟨#[97]⟩,.string ⟨#[98]⟩,.string ⟨#[109]⟩] 9))
  have HB2 : Hid (Bw w W2):=by rw [hW2];exact bel1 _ _
  have HNS : Hid (NsA W2 ⟨some ⟨w.heap.size,0,none⟩,w.heap.size,3⟩ [⟨#[97]⟩,⟨#[98]⟩,⟨#[109]⟩]):=by
   rw [hW2]
   have h:=World.ownsRow_lit (e:=9) (size:=1) w #[.string ⟨#[97]⟩,.string ⟨#[98]⟩,.string ⟨#[109]⟩] 3 (nlr _) (by unfold maxLen;omega) (by rfl)
   obtain ⟨g,hg⟩:=nm_of_own (ns:=[⟨#[97]⟩,⟨#[98]⟩,⟨#[109]⟩]) (n:=3) rfl h
   have eg:=(hg (by simp)).1
   simp only [Option.some.injEq,Addr.mk.injEq] at eg
   rw [<- eg.1] at hg
   exact hg.nsa
  have C3:=d_count ca Ln cc W2 hLn
  clear hC hhw h23
  go_enter Tryz.func21,Tryz.ntmps21
  go_wp2_with fail
  refine C1.mono ?_
  rintro e w1 ⟨rfl,rfl⟩
  clear C1
  go_wp2_with fail
  rw [<- hW2]
  clear hW2
  refine C3.mono ?_
  rintro e w3 ⟨⟨n,rfl,hn2,hn10⟩,rfl⟩
  clear C3
  have C4:=d_text W2 (HC.out W2 HB2.out) (cc:=cc) (p:=1) hLn (by omega) (mc:=3) HNS.out (fun s hs=>by
   simp only [List.mem_cons,List.not_mem_nil,or_false] at hs
   rcases hs with rfl | rfl | rfl <;> decide) (by decide) (by decide) (n:=n) (by omega) hn10
  go_wp2_with fail
  refine C4.mono ?_
  rintro e w4 ⟨⟨s,q,rfl,hs,_,_⟩,HB4⟩
  clear C4
  go_wp2
  go_ret
  exact ⟨⟨_,rfl,by omega⟩,HB2.out.trans (HB4.out.mono HB2.out.size)⟩
theorem d_tokens (w : World) {ca : Option Addr} {cb co Ln cc : Nat} {C : Nat -> Nat} (hC : BytesAt w ca cb co Ln C) (hLn : Ln <= 1048576) :
  Calls Tryz.prog 16 #[.slice ca Ln cc] w fun e w'=>(∃ s : ByteArray,e = .returned (.string s) /\ s.size <= 2000) /\ Hid (Bw w w'):=by
 have C1:=d_parse w hC (cc:=cc) hLn
 clear hC
 go_enter Tryz.func16,Tryz.ntmps16
 go_wp2_with fail
 refine C1.mono ?_
 rintro e w1 ⟨⟨s,rfl,hs⟩,HB⟩
 clear C1
 go_wp2
 go_ret
 exact ⟨⟨_,rfl,hs⟩,HB⟩
end Go.Proofs.YtcehppndpccldaaGreatDoor
