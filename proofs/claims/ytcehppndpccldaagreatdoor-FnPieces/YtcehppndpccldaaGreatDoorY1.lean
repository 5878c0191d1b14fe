/-
  QaA QaB QaC QcA QcB QcC QdC
-/
import Derived.Test.YtcehppndpccldaaGreatDoorSD
import Derived.Test.YtcehppndpccldaaGreatDoorU1
import Derived.Test.YtcehppndpccldaaGreatDoorXA
import Derived.BigRegion
import Derived.Test.YtcehppndpccldaaGreatDoorUI
set_option maxHeartbeats 4000000
set_option maxRecDepth 100000
namespace Go.Proofs.YtcehppndpccldaaGreatDoor
def er (ts : List TK) : List TK:=ts.map fun t=>⟨t.cls,t.txt,0⟩
theorem er_get (ts : List TK) (i : Nat) : (er ts)[i]? = (ts[i]?).map fun t=>⟨t.cls,t.txt,0⟩:=List.getElem?_map
theorem er_len (ts : List TK) : (er ts).length = ts.length:=List.length_map _
theorem er_app (a b : List TK) : er (a ++ b) = er a ++ er b:=List.map_append
theorem isT_er (ts : List TK) : isT (er ts) = isT ts:=by
 funext i s
 unfold isT
 rw [er_get]
 cases ts[i]? <;> rfl
theorem isC_er (ts : List TK) : isC (er ts) = isC ts:=by
 funext i c
 unfold isC
 rw [er_get]
 cases ts[i]? <;> rfl
theorem tx_er (ts : List TK) : tx (er ts) = tx ts:=by
 funext i
 unfold tx
 rw [er_get]
 cases ts[i]? <;> rfl
theorem pathP_er (st : Bool) (ts : List TK) : pathP st (er ts) = pathP st ts:=by
 funext i
 unfold pathP
 rw [isT_er,isC_er,tx_er]
theorem floop_er {α : Type} (ts : List TK) (T : Nat -> Option (List α × Nat)) (sg : List UInt8) : ∀ f j ns its,floop (er ts) T sg f j ns its = floop ts T sg f j ns its
 | 0,_,_,_=>rfl
 | f + 1,j,ns,its=>by
   rw [floop,floop,isT_er,isC_er,tx_er]
   have ih:=floop_er ts T sg f
   simp only [ih]
theorem fldsP_er {α : Type} (ts : List TK) (T : Nat -> Option (List α × Nat)) (sg : List UInt8) : fldsP (er ts) T sg = fldsP ts T sg:=by
 funext j
 unfold fldsP
 rw [isT_er,er_len,floop_er]
theorem brkP_er {α : Type} (ts : List TK) (T : Nat -> Option (List α × Nat)) : brkP (er ts) T = brkP ts T:=by
 funext j
 unfold brkP
 rw [isT_er]
theorem baseP_er (st : Bool) (ts : List TK) (T : Nat -> Option (List TI × Nat)) : baseP st (er ts) T = baseP st ts T:=by
 funext i
 unfold baseP
 rw [isT_er,isC_er,pathP_er,fldsP_er,brkP_er]
theorem tyP_er (st : Bool) (ts : List TK) : ∀ f,tyP st (er ts) f = tyP st ts f
 | 0=>by funext i;rfl
 | f + 1=>by
   funext i
   rw [tyP,tyP,baseP_er,isT_er,tyP_er st ts f]
theorem atomP_er (st : Bool) (ts : List TK) (E : Nat -> Option (List EI × Nat)) : atomP st (er ts) E = atomP st ts E:=by
 funext i
 unfold atomP
 rw [isT_er,isC_er,tx_er,pathP_er,fldsP_er,brkP_er]
theorem postL_er (ts : List TK) (E : Nat -> Option (List EI × Nat)) : ∀ f its j,postL (er ts) E f its j = postL ts E f its j
 | 0,_,_=>rfl
 | f + 1,its,j=>by
   have ih:=postL_er ts E f
   rw [postL,postL,isT_er,isC_er,tx_er,brkP_er]
   simp only [ih]
theorem postP_er (st : Bool) (ts : List TK) (E : Nat -> Option (List EI × Nat)) : postP st (er ts) E = postP st ts E:=by
 funext i
 unfold postP
 rw [atomP_er,er_len]
 cases atomP st ts E i with
 | none=>rfl
 | some x=>exact postL_er _ _ _ _ _
theorem sumL_er (st : Bool) (ts : List TK) (E : Nat -> Option (List EI × Nat)) : ∀ f its j,sumL st (er ts) E f its j = sumL st ts E f its j
 | 0,_,_=>rfl
 | f + 1,its,j=>by
   have ih:=sumL_er st ts E f
   rw [sumL,sumL,isT_er,postP_er]
   simp only [ih]
theorem sumP_er (st : Bool) (ts : List TK) (E : Nat -> Option (List EI × Nat)) : sumP st (er ts) E = sumP st ts E:=by
 funext i
 unfold sumP
 rw [postP_er,er_len]
 cases postP st ts E i with
 | none=>rfl
 | some x=>exact sumL_er _ _ _ _ _ _
theorem funP_er (st : Bool) (ts : List TK) (E : Nat -> Option (List EI × Nat)) : funP st (er ts) E = funP st ts E:=by
 funext i
 unfold funP
 rw [isT_er,isC_er,tx_er,er_len,tyP_er]
theorem ifP_er (ts : List TK) (E : Nat -> Option (List EI × Nat)) : ifP (er ts) E = ifP ts E:=by
 funext i
 unfold ifP
 rw [isT_er]
theorem lessP_er (st : Bool) (ts : List TK) (E : Nat -> Option (List EI × Nat)) : lessP st (er ts) E = lessP st ts E:=by
 funext i
 unfold lessP
 rw [isT_er,sumP_er]
theorem exP_er (st : Bool) (ts : List TK) : ∀ f,exP st (er ts) f = exP st ts f
 | 0=>by funext i;rfl
 | f + 1=>by
   funext i
   rw [exP,exP,isT_er,exP_er st ts f,funP_er,ifP_er,lessP_er]
theorem declP_er (st : Bool) (ts : List TK) : declP st (er ts) = declP st ts:=by
 unfold declP
 rw [isT_er,isC_er,tx_er,er_len,tyP_er,exP_er]
theorem semi_er (ts : List TK) : semi (er ts) = semi ts:=by
 unfold semi er
 rw [List.findIdx?_map]
 rfl
theorem decs_er (st : Bool) : ∀ f (ts : List TK),decs st f (er ts) = decs st f ts
 | 0,_=>rfl
 | f + 1,ts=>by
   rw [decs,decs,semi_er]
   have e1 : (er ts).isEmpty = ts.isEmpty:=by cases ts <;> rfl
   rw [e1]
   split
   ·rfl
   ·cases semi ts with
    | none=>rfl
    | some k=>
      have e2 : (er ts).take k = er (ts.take k):=List.map_take.symm
      have e3 : (er ts).drop (k + 1) = er (ts.drop (k + 1)):=List.map_drop.symm
      dsimp only
      rw [e2,e3,declP_er,decs_er st f]
theorem semi_lt {ts : List TK} {k : Nat} (h : semi ts = some k) : k < ts.length:=by
 unfold semi at h
 exact (List.findIdx?_eq_some_iff_getElem.1 h).1
theorem decs_enough (st : Bool) : ∀ (f : Nat) (ts : List TK) (g : Nat),ts.length <= f -> ts.length <= g -> decs st f ts = decs st g ts
 | 0,ts,g,h,_=>by
   have : ts = []:=List.eq_nil_of_length_eq_zero (by omega)
   subst this
   cases g <;> rfl
 | f + 1,ts,0,_,h=>by
   have : ts = []:=List.eq_nil_of_length_eq_zero (by omega)
   subst this
   rfl
 | f + 1,ts,g + 1,h1,h2=>by
   rw [decs,decs]
   split
   ·rfl
   ·cases hs : semi ts with
    | none=>rfl
    | some k=>
      have:=semi_lt hs
      dsimp only
      rw [decs_enough st f (ts.drop (k + 1)) g (by rw [List.length_drop];omega) (by rw [List.length_drop];omega)]
def Endd (ts : List TK) : Prop:=∀ t,ts.getLast? = some t -> t.txt.data.toList = sSemi
theorem decs_app (st : Bool) (b : List TK) : ∀ (n : Nat) (a : List TK) (f g h : Nat),a.length <= n -> Endd a -> (a ++ b).length <= f -> a.length <= g -> b.length <= h -> decs st f (a ++ b) = decs st g a ++ decs st h b
 | n,a,f,g,h,hn,he,hf,hg,hh=>by
   cases a with
   | nil=>
     have e1 : decs st g [] = []:=by cases g <;> rfl
     rw [e1,List.nil_append,List.nil_append]
     exact decs_enough st f b h (by simpa using hf) hh
   | cons x a=>
     have hsome : ∃ k,semi (x :: a) = some k:=by
      cases hs : semi (x :: a) with
      | some k=>exact ⟨k,rfl⟩
      | none=>
        exfalso
        unfold semi at hs
        rw [List.findIdx?_eq_none_iff] at hs
        obtain ⟨t,ht⟩ : ∃ t,(x :: a).getLast? = some t:=⟨_,List.getLast?_eq_some_getLast (by simp)⟩
        have h1:=he t ht
        have h2:=hs t (List.mem_of_getLast? ht)
        rw [h1] at h2
        simp at h2
     obtain ⟨k,hk⟩:=hsome
     have hlt:=semi_lt hk
     have hk2 : semi ((x :: a) ++ b) = some k:=by
      unfold semi at hk ⊢
      rw [List.findIdx?_append,hk]
      rfl
     cases n with
     | zero=>simp at hn
     | succ n=>
     cases f with
     | zero=>simp at hf
     | succ f=>
     cases g with
     | zero=>simp at hg
     | succ g=>
       rw [decs,hk2,decs,hk]
       have e1 : ((x :: a) ++ b).isEmpty = false:=rfl
       have e2 : (x :: a).isEmpty = false:=rfl
       rw [e1,e2]
       dsimp only
       have t1 : ((x :: a) ++ b).take k = (x :: a).take k:=List.take_append_of_le_length (by omega)
       have t2 : ((x :: a) ++ b).drop (k + 1) = (x :: a).drop (k + 1) ++ b:=List.drop_append_of_le_length (by omega)
       have he2 : Endd ((x :: a).drop (k + 1)):=fun t ht=>by
        refine he t ?_
        rw [List.getLast?_drop] at ht
        split at ht
        ·cases ht
        ·exact ht
       rw [t1,t2]
       show declP st _ :: decs st f ((x :: a).drop (k + 1) ++ b) = declP st _ :: (decs st g ((x :: a).drop (k + 1)) ++ decs st h b)
       congr 1
       have l1 : ((x :: a).drop (k + 1)).length = (x :: a).length - (k + 1):=List.length_drop
       refine decs_app st b n _ f g h (by rw [l1];simp only [List.length_cons] at hn ⊢;omega) he2 ?_ (by rw [l1];simp only [List.length_cons] at hg ⊢;omega) hh
       rw [lap,l1]
       simp only [lap,List.length_cons] at hf ⊢
       omega
theorem bt_left {a b : ByteArray} {i : Nat} (h : i < a.size) : bt (a ++ b) i = bt a i:=by
 rw [bt_in (by rw [bsa];omega),bt_in h]
 congr 2
 exact ByteArray.getElem_append_left h
theorem bt_right {a b : ByteArray} (j : Nat) : bt (a ++ b) (a.size + j) = bt b j:=by
 by_cases h : j < b.size
 ·rw [bt_in (by rw [bsa];omega),bt_in h]
  congr 2
  rw [ByteArray.getElem_append_right (by omega)]
  congr 1
  omega
 ·rw [bt_out h,bt_out (by rw [bsa];omega)]
theorem run_right (p : Int -> Bool) {a b : ByteArray} (j : Nat) : run p (a ++ b) (a.size + j) = run p b j:=by
 by_cases h : j < b.size
 ·have h2 : a.size + j < (a ++ b).size:=by rw [bsa];omega
  cases hp : p (bt b j)
  ·rw [run_stop h hp,run_stop h2 (by rw [bt_right];exact hp)]
  ·rw [run_step h hp,run_step h2 (by rw [bt_right];exact hp),Nat.add_assoc,run_right p (j + 1)]
 ·rw [run_end h,run_end (by rw [bsa];omega)]
termination_by b.size - j
theorem plen_right {a b : ByteArray} (j : Nat) : plen (a ++ b) (a.size + j) = plen b j:=by
 unfold plen
 rw [bt_right,show a.size + j + 1 = a.size + (j + 1) by omega,bt_right,run_right,run_right,run_right]
theorem blk_right {a b : ByteArray} (j : Nat) : blk (a ++ b) (a.size + j) = blk b j:=by
 unfold blk
 rw [bt_right]
theorem ext_right {a b : ByteArray} (j k : Nat) : (a ++ b).extract (a.size + j) (a.size + j + k) = b.extract j (j + k):=by
 rw [ByteArray.extract_append,ByteArray.extract_eq_empty_iff.2 (by omega),show a.size + j - a.size = j by omega,show a.size + j + k - a.size = j + k by omega]
 exact ByteArray.empty_append
theorem tks_right {a b : ByteArray} (j : Nat) : er (tks (a ++ b) (a.size + j)) = er (tks b j):=by
 by_cases h : j < b.size
 ·have h2 : a.size + j < (a ++ b).size:=by rw [bsa];omega
  have hpos:=plen_pos b j
  have ih:=tks_right (a:=a) (b:=b) (j + plen b j)
  rw [<- Nat.add_assoc] at ih
  cases hb : blk b j
  ·rw [tks_tok h hb,tks_tok h2 (by rw [blk_right];exact hb),plen_right]
   have ep : ptx (a ++ b) (a.size + j) = ptx b j:=by
    unfold ptx
    rw [plen_right,ext_right]
   rw [ep]
   show (⟨_,_,0⟩ : TK) :: er _ = ⟨_,_,0⟩ :: er _
   rw [ih]
  ·rw [tks_blk h hb,tks_blk h2 (by rw [blk_right];exact hb),plen_right]
   exact ih
 ·rw [tks_end h,tks_end (by rw [bsa];omega)]
termination_by b.size - j
decreasing_by all_goals omega
theorem run_nl (p : Int -> Bool) (hp10 : p 10 = false) {s x : ByteArray} (hx : bt x 0 = 10) : ∀ (n i : Nat),s.size - i <= n -> i <= s.size -> run p (s ++ x) i = run p s i
 | 0,i,hn,hi=>by
   have : i = s.size:=by omega
   subst this
   have h:=run_right p (a:=s) (b:=x) 0
   rw [Nat.add_zero] at h
   have e1 : run p s s.size = 0:=run_end (by omega)
   rw [h,e1]
   by_cases hz : 0 < x.size
   ·exact run_stop hz (by rw [hx];exact hp10)
   ·exact run_end hz
 | n + 1,i,hn,hi=>by
   by_cases h : i < s.size
   ·have h2 : i < (s ++ x).size:=by rw [bsa];omega
    cases hp : p (bt s i)
    ·rw [run_stop h hp,run_stop h2 (by rw [bt_left h];exact hp)]
    ·rw [run_step h hp,run_step h2 (by rw [bt_left h];exact hp),run_nl p hp10 hx n (i + 1) (by omega) (by omega)]
   ·exact run_nl p hp10 hx 0 i (by omega) hi
theorem bt_nl {s x : ByteArray} (hx : bt x 0 = 10) {i : Nat} (h : i <= s.size) : bt (s ++ x) i = bt s i \/ (bt (s ++ x) i = 10 /\ bt s i = -1):=by
 by_cases hi : i < s.size
 ·exact .inl (bt_left hi)
 ·have : i = s.size:=by omega
  subst this
  right
  have h0:=bt_right (a:=s) (b:=x) 0
  rw [Nat.add_zero] at h0
  exact ⟨by rw [h0,hx],bt_out (by omega)⟩
theorem plen_nl {s x : ByteArray} (hx : bt x 0 = 10) {i : Nat} (h : i < s.size) : plen (s ++ x) i = plen s i:=by
 unfold plen
 have r1:=run_nl nn (by decide) hx (s.size - (i + 1)) (i + 1) (nlr _) (by omega)
 have r2:=run_nl wb (by decide) hx (s.size - (i + 1)) (i + 1) (nlr _) (by omega)
 have r3:=run_nl dg (by decide) hx (s.size - (i + 1)) (i + 1) (nlr _) (by omega)
 rw [bt_left h,r1,r2,r3]
 have e : bt (s ++ x) (i + 1) = 62 ↔ bt s (i + 1) = 62:=by
  rcases bt_nl hx (show i + 1 <= s.size by omega) with e | ⟨e1,e2⟩
  ·rw [e]
  ·rw [e1,e2];simp
 simp only [e]
theorem tks_nl {s x : ByteArray} (hx : bt x 0 = 10) : ∀ (n i : Nat),s.size - i <= n -> i <= s.size -> tks (s ++ x) i = tks s i ++ tks (s ++ x) s.size
 | 0,i,hn,hi=>by
   have : i = s.size:=by omega
   subst this
   rw [tks_end (by omega : ¬ s.size < s.size),List.nil_append]
 | n + 1,i,hn,hi=>by
   by_cases h : i < s.size
   ·have h2 : i < (s ++ x).size:=by rw [bsa];omega
    have hpos:=plen_pos s i
    have hle:=plen_le h
    have ih:=tks_nl hx n (i + plen s i) (by omega) hle
    have eb : blk (s ++ x) i = blk s i:=by unfold blk;rw [bt_left h]
    cases hb : blk s i
    ·rw [tks_tok h hb,tks_tok h2 (by rw [eb];exact hb),plen_nl hx h,ih]
     have ep : ptx (s ++ x) i = ptx s i:=by
      unfold ptx
      rw [plen_nl hx h,ByteArray.extract_append,ByteArray.extract_eq_empty_iff.2 (by omega : min (i + plen s i - s.size) x.size <= i - s.size)]
      exact ByteArray.append_empty
     rw [ep]
     rfl
    ·rw [tks_blk h hb,tks_blk h2 (by rw [eb];exact hb),plen_nl hx h,ih]
   ·exact tks_nl hx 0 i (by omega) hi
def nlS : ByteArray:=⟨#[10]⟩
def nlE : ByteArray:=⟨#[10,59]⟩
theorem nl_bt (x : ByteArray) : bt (nlS ++ x) 0 = 10 /\ bt (nlE ++ x) 0 = 10:=by
 rw [bt_left (by decide),bt_left (by decide)]
 decide
theorem tks_s (s x : ByteArray) : er (tks (s ++ nlS ++ x) 0) = er (tks s 0) ++ er (tks x 0):=by
 rw [ByteArray.append_assoc,tks_nl (nl_bt x).1 s.size 0 (by omega) (by omega),er_app]
 congr 1
 have h:=tks_right (a:=s) (b:=nlS ++ x) 0
 rw [Nat.add_zero] at h
 rw [h]
 have h0 : 0 < (nlS ++ x).size:=by rw [bsa];show 0 < 1 + _;omega
 have hb : blk (nlS ++ x) 0 = true:=by unfold blk;rw [(nl_bt x).1];decide
 have hp : plen (nlS ++ x) 0 = 1:=by unfold plen;rw [(nl_bt x).1,if_pos (by decide)]
 rw [tks_blk h0 hb,hp]
 have h2:=tks_right (a:=nlS) (b:=x) 0
 exact h2
theorem tks_e (s x : ByteArray) : er (tks (s ++ nlE ++ x) 0) = er (tks s 0) ++ ⟨4,⟨#[59]⟩,0⟩ :: er (tks x 0):=by
 rw [ByteArray.append_assoc,tks_nl (nl_bt x).2 s.size 0 (by omega) (by omega),er_app]
 congr 1
 have h:=tks_right (a:=s) (b:=nlE ++ x) 0
 rw [Nat.add_zero] at h
 rw [h]
 have hz : (nlE ++ x).size = 2 + x.size:=by rw [bsa];rfl
 have b1 : bt (nlE ++ x) 1 = 59:=by rw [bt_left (by decide)];decide
 have hb : blk (nlE ++ x) 0 = true:=by unfold blk;rw [(nl_bt x).2];decide
 have hp : plen (nlE ++ x) 0 = 1:=by unfold plen;rw [(nl_bt x).2,if_pos (by decide)]
 have hb1 : blk (nlE ++ x) 1 = false:=by unfold blk;rw [b1];decide
 have hp1 : plen (nlE ++ x) 1 = 1:=by
  unfold plen
  rw [b1]
  have s1 : sl 59 = false:=by decide
  have s2 : dg 59 = false:=by decide
  simp [s1,s2]
 rw [tks_blk (by omega) hb,hp,tks_tok (by omega) hb1,hp1]
 have ep : ptx (nlE ++ x) 1 = ⟨#[59]⟩:=by
  unfold ptx
  rw [hp1,ByteArray.extract_append]
  have e1 : x.extract (1 - nlE.size) (1 + 1 - nlE.size) = ByteArray.empty:=ByteArray.extract_eq_empty_iff.2 (by show min 0 x.size <= 0;omega)
  rw [e1]
  decide
 have h2:=tks_right (a:=nlE) (b:=x) 0
 rw [ep]
 show (⟨cls (⟨#[59]⟩ : ByteArray).toList,⟨#[59]⟩,0⟩ : TK) :: er (tks (nlE ++ x) (0 + 1 + 1)) = _
 have e2 : (0 + 1 + 1 : Nat) = nlE.size + 0:=rfl
 have ec : cls (⟨#[59]⟩ : ByteArray).toList = 4:=by rw [Go.ByteArray.toList_eq];decide
 rw [e2,h2,ec]
def endB (s : ByteArray) : Bool:=match (toks s).getLast? with
 | none=>true
 | some t=>t.txt.data.toList == sSemi
def ended (s : ByteArray) : ByteArray:=if endB s then s ++ nlS else s ++ nlE
theorem er_last (ts : List TK) : (er ts).getLast? = (ts.getLast?).map fun t=>⟨t.cls,t.txt,0⟩:=List.getLast?_map
theorem ended_tks (s : ByteArray) (hs : s.size <= 1000) : ∃ L : List TK,Endd L /\ ∀ x : ByteArray,er (tks (ended s ++ x) 0) = L ++ er (tks x 0):=by
 have ht : toks s = tks s 0:=by unfold toks;rw [if_pos hs]
 unfold ended
 cases he : endB s with
 | true=>
   refine ⟨er (tks s 0),fun t h=>?_,fun x=>tks_s s x⟩
   unfold endB at he
   rw [ht] at he
   rw [er_last] at h
   cases hl : (tks s 0).getLast? with
   | none=>rw [hl] at h;cases h
   | some u=>
     rw [hl] at h he
     cases h
     exact beq_iff_eq.1 he
 | false=>
   refine ⟨er (tks s 0) ++ [⟨4,⟨#[59]⟩,0⟩],fun t h=>?_,fun x=>?_⟩
   ·rw [List.getLast?_append] at h
    simp at h
    rw [<- h]
    rfl
   ·have:=tks_e s x
    rw [List.append_assoc]
    exact this
theorem decs_pieces (st : Bool) (a b : ByteArray) (h : (ended a).size + (ended b).size <= 1000) : decs st ((toks (ended a ++ ended b)).length + 1) (toks (ended a ++ ended b)) = decs st ((toks (ended a)).length + 1) (toks (ended a)) ++ decs st ((toks (ended b)).length + 1) (toks (ended b)):=by
 have hge : a.size <= (ended a).size:=by
  unfold ended
  split <;> · rw [bsa];omega
 have t1 : toks (ended a ++ ended b) = tks (ended a ++ ended b) 0:=by unfold toks;rw [if_pos (by rw [bsa];exact h)]
 have t2 : toks (ended a) = tks (ended a) 0:=by unfold toks;rw [if_pos (by omega)]
 have t3 : toks (ended b) = tks (ended b) 0:=by unfold toks;rw [if_pos (by omega)]
 obtain ⟨L,hL,hx⟩:=ended_tks a (by omega)
 have e1:=hx (ended b)
 have e2 : er (tks (ended a) 0) = L:=by
  have:=hx ByteArray.empty
  rw [ByteArray.append_empty] at this
  rw [this,tks_end (by decide)]
  exact List.append_nil _
 rw [t1,t2,t3]
 have l1 : (tks (ended a ++ ended b) 0).length = L.length + (tks (ended b) 0).length:=by
  rw [<- er_len,e1,lap,er_len]
 have l2 : (tks (ended a) 0).length = L.length:=by rw [<- er_len,e2]
 rw [<- decs_er st _ (tks (ended a ++ ended b) 0),e1,<- decs_er st _ (tks (ended a) 0),e2,<- decs_er st _ (tks (ended b) 0)]
 exact decs_app st _ L.length L _ _ _ (nlr _) hL (by rw [lap,er_len,l1];omega) (by rw [l2];omega) (by rw [er_len];omega)
end Go.Proofs.YtcehppndpccldaaGreatDoor
namespace Go.Proofs.YtcehppndpccldaaGreatDoor
open Go.RowKit
theorem d_count (ca : Option Addr) (L cc : Nat) (w : World) (hL : L <= 1048576) :
  Calls Tryz.prog 45 #[.slice ca L cc,.int .i64 10,.int .i64 2,.int .i64 10] w fun e w'=>(∃ n : Nat,e = .returned (.int .i64 (n : Int)) /\ 2 <= n /\ n <= 10) /\ w = w':=by
 have m1 : Int.tdiv (L : Int) 10 = ((L / 10 : Nat) : Int):=tdivN L 10
 obtain ⟨d,hd⟩:=xe (L / 10)
 rw [<- hd] at m1
 have hdl : d <= 1048576:=by omega
 have w1 : IntKind.i64.wrap (2 + (d : Int)) = 2 + (d : Int):=wk (by omega)
 clear hd
 by_cases h : (10 : Int) < 2 + (d : Int)
 ·go_enter Tryz.func45,Tryz.ntmps45
  go_wp2
  go_ret
  exact ⟨⟨10,rfl,by omega,by omega⟩,rfl⟩
 ·go_enter Tryz.func45,Tryz.ntmps45
  go_wp2
  go_ret
  exact ⟨⟨2 + d,by simp,by omega,by omega⟩,rfl⟩
theorem d_long (n : Nat) (w : World) (hn : n <= 2000) (hn9 : 9 <= n) :
  Calls Tryz.prog 43 #[.int .i64 (n : Int)] w fun e w'=>(∃ s,e = .returned (.string s) /\ s.size <= 2000) /\ w = w':=by
 go_enter Tryz.func43,Tryz.ntmps43
 go_wp2
 go_loopw [3] (fun v wr=>∃ s : ByteArray,v = .string s /\ 9 <= s.size /\ s.size <= n /\ w = wr) (fun v _=>match v with | .string s=>n - s.size | _=>0)
 case atStart=>exact ⟨_,rfl,by decide,hn9,rfl⟩
 case round=>
  obtain ⟨s,rfl,hs9,hsn,hw⟩:=hrel
  subst hw
  have w1 : IntKind.i64.wrap ((s.size : Int) * 2) = (s.size : Int) * 2:=wk (by omega)
  by_cases hlt : (s.size : Int) * 2 <= (n : Int)
  ·have a1:=rsa s s (by omega)
   go_wp2
   go_roundw
   case rel=>exact ⟨_,rfl,by rw [bsa];omega,by rw [bsa];omega,trivial⟩
   case measure=>show n - (s ++ s).size < n - s.size;rw [bsa];omega
  ·go_wp2
   go_loopw [3] (fun v wr2=>∃ s : ByteArray,v = .string s /\ s.size <= n /\ w = wr2) (fun v _=>match v with | .string s=>n - s.size | _=>0)
   case atStart=>exact ⟨_,rfl,hsn,rfl⟩
   case round=>
    rename World=>wr2
    obtain ⟨t,rfl,htn,hw⟩:=hrel
    subst hw
    by_cases hl2 : (t.size : Int) < (n : Int)
    ·have s1 : (⟨#[32]⟩ : ByteArray).size = 1:=rfl
     have a1:=rsa t (⟨#[32]⟩ : ByteArray) (by rw [s1];omega)
     go_wp2
     go_roundw
     case rel=>exact ⟨_,rfl,by rw [bsa,s1];omega,trivial⟩
     case measure=>show n - (t ++ (⟨#[32]⟩ : ByteArray)).size < n - t.size;rw [bsa,s1];omega
    ·go_wp2
     go_ret
     exact ⟨⟨_,rfl,by omega⟩,rfl⟩
theorem d_spoil (w : World) {ca : Option Addr} {cb co Ln cc p : Nat} {C : Nat -> Nat} (hC : BytesAt w ca cb co Ln C) (hLn : Ln <= 1048576) (hp : p <= 1000000) (s : ByteArray) (hs : s.size <= 2000) :
  Calls Tryz.prog 73 #[.slice ca Ln cc,.int .i64 (p : Int),.string s] w fun e w'=>(∃ t,e = .returned (.string t) /\ t.size <= 5000) /\ Bw w w':=by
 have C1:=d_take ca cb co Ln cc p 4 C w hC hLn (by omega) (by omega)
 have C2:=d_take ca cb co Ln cc (p + 1) (s.size + 1) C w hC hLn (by omega) (by omega)
 have C3:=d_take ca cb co Ln cc (p + 1 + 1) 24 C w hC hLn (by omega) (by omega)
 obtain ⟨a,ha⟩:=xe (tk C Ln p 4)
 obtain ⟨k,hk⟩:=xe (tk C Ln (p + 1) (s.size + 1))
 obtain ⟨x,hx⟩:=xe (tk C Ln (p + 1 + 1) 24)
 have ha4 : a < 4:=by rw [ha];exact tk_lt (by omega)
 have hks : k <= s.size:=by have : k < s.size + 1:=by rw [hk];exact tk_lt (by omega)
                            omega
 have hx24 : x < 24:=by rw [hx];exact tk_lt (by omega)
 rw [<- ha] at C1
 rw [<- hk] at C2
 rw [<- hx] at C3
 clear hC ha hk hx
 have ws : IntKind.i64.wrap ((s.size : Int) + 1) = (s.size : Int) + 1:=wk (by omega)
 have wkk : IntKind.i64.wrap (k : Int) = (k : Int):=wk (by omega)
 have wk1 : IntKind.i64.wrap ((k : Int) + 1) = (k : Int) + 1:=wk (by omega)
 have wx : IntKind.i64.wrap (x : Int) = (x : Int):=wk (by omega)
 have wx1 : IntKind.i64.wrap ((x : Int) + 1) = (x : Int) + 1:=wk (by omega)
 have k0 : (0 : Int) <= (k : Int):=by omega
 have k1 : (k : Int) <= (s.size : Int):=by omega
 have tk1 : ((k : Int) + 1).toNat = k + 1:=by omega
 have tx1 : ((x : Int) + 1).toNat = x + 1:=by omega
 obtain ⟨bits,hbits⟩ : ∃ b : ByteArray,b = ⟨#[59,58,61,63,123,125,40,41,44,46,43,60,45,62,120,48,32,35,10,65,95,102,57,113]⟩:=⟨_,rfl⟩
 have hbs : bits.size = 24:=by rw [hbits];rfl
 have z1 : (s.extract 0 k).size <= 2000:=by rw [ByteArray.size_extract];omega
 have z2 : (s.extract (k + 1) s.size).size <= 2000:=by rw [ByteArray.size_extract];omega
 have z3 : (s.extract k s.size).size <= 2000:=by rw [ByteArray.size_extract];omega
 have z4 : (bits.extract x (x + 1)).size <= 1:=by rw [ByteArray.size_extract];omega
 go_enter Tryz.func73,Tryz.ntmps73
 go_wp2_with fail
 refine C1.mono ?_
 rintro e w' ⟨rfl,rfl⟩
 go_wp2_with fail
 refine C2.mono ?_
 rintro e w' ⟨rfl,rfl⟩
 go_wp2_with fail
 refine C3.mono ?_
 rintro e w' ⟨rfl,rfl⟩
 clear C1 C2 C3
 by_cases h0 : a = 0 /\ k < s.size
 ·obtain ⟨h0,hk⟩:=h0
  subst h0
  have hk2 : (k : Int) < (s.size : Int):=by omega
  have a1:=rsa (s.extract 0 k) (s.extract (k + 1) s.size) (by omega)
  go_wp2
  go_region
  all_goals
   go_wp2
   go_ret
   exact ⟨⟨_,rfl,by rw [bsa];omega⟩,(Below.refl _ _).drew⟩
 by_cases h1 : a = 1 /\ k < s.size
 ·obtain ⟨h1,hk⟩:=h1
  subst h1
  have hk2 : (k : Int) < (s.size : Int):=by omega
  have a1:=rsa (s.extract 0 k) (bits.extract x (x + 1)) (by omega)
  have a2:=rsa (s.extract 0 k ++ bits.extract x (x + 1)) (s.extract (k + 1) s.size) (by rw [bsa];omega)
  rw [hbits] at a1 a2 z4
  clear hbits hbs h0
  go_wp2
  go_region
  all_goals
   go_wp2
   go_ret
   exact ⟨⟨_,rfl,by rw [bsa,bsa];omega⟩,(Below.refl _ _).drew⟩
 by_cases h2 : a = 2
 ·subst h2
  have a1:=rsa (s.extract 0 k) (bits.extract x (x + 1)) (by omega)
  have a2:=rsa (s.extract 0 k ++ bits.extract x (x + 1)) (s.extract k s.size) (by rw [bsa];omega)
  rw [hbits] at a1 a2 z4
  clear hbits hbs h0 h1
  go_wp2
  go_region
  all_goals
   go_wp2
   go_ret
   exact ⟨⟨_,rfl,by rw [bsa,bsa];omega⟩,(Below.refl _ _).drew⟩
 have e2 : ((a : Int) == 2) = false:=bn2 (by omega)
 by_cases ha0 : a = 0
 ·subst ha0
  have hk2 : ¬ (k : Int) < (s.size : Int):=by omega
  clear h0 h1 h2 hbits hbs
  go_wp2
  go_ret
  exact ⟨⟨_,rfl,by omega⟩,Below.refl _ _⟩
 have e0' : ((a : Int) == 0) = false:=bn2 (by omega)
 by_cases ha1 : a = 1
 ·subst ha1
  have hk2 : ¬ (k : Int) < (s.size : Int):=by omega
  clear h0 h1 h2 hbits hbs
  go_wp2
  go_ret
  exact ⟨⟨_,rfl,by omega⟩,Below.refl _ _⟩
 have e1' : ((a : Int) == 1) = false:=bn2 (by omega)
 clear h0 h1 h2 hbits hbs
 go_wp2
 go_ret
 exact ⟨⟨_,rfl,by omega⟩,Below.refl _ _⟩
theorem hidQ2 {p : Prop} (h : p) : Hid p:=h
theorem MS.tok {w : World} {tb : Nat} {ao : Option Addr} {ts : List TK} (h : MS w tb 0 ao ts) {k : Nat} (hk : k < ts.length) : ao = some ⟨tb,0,none⟩ /\ w.cell? ⟨tb,k * 3 + 1,none⟩ = some (.string (tkA ts k).txt):=by
 have h1:=h.1.c1 k hk
 rw [Nat.zero_add] at h1
 exact ⟨h.2 (by omega),h1⟩
theorem d_glued (w : World) {tb : Nat} {ao : Option Addr} {ts : List TK} {c : Nat} (h : MS w tb 0 ao ts) (ok : TkOK ts) {k : Nat} (hk : k < ts.length) (hl : ts.length <= 1000) :
  Calls Tryz.prog 109 #[.slice ao ts.length c,.int .i64 (k : Int)] w fun e w'=>(∃ b : Bool,e = .returned (.bool b)) /\ ∃ m,w' = w.drewN m:=by
 have w1 : IntKind.i64.wrap ((k : Int) + 1) = (k : Int) + 1:=wk (by omega)
 by_cases hk1 : k + 1 < ts.length
 ·obtain ⟨e1,c1⟩:=h.tok hk
  obtain ⟨_,c2⟩:=h.tok hk1
  have g1 : tkA ts k ∈ ts:=by unfold tkA;rw [List.getD_eq_getElem?_getD,List.getElem?_eq_getElem hk];exact List.getElem_mem hk
  have g2 : tkA ts (k + 1) ∈ ts:=by unfold tkA;rw [List.getD_eq_getElem?_getD,List.getElem?_eq_getElem hk1];exact List.getElem_mem hk1
  have p1:=ok.pos _ g1
  have p2:=ok.pos _ g2
  have s1:=ok.sz _ g1
  have s2:=ok.sz _ g2
  obtain ⟨t1,ht1⟩:=xe ((tkA ts k).txt)
  obtain ⟨t2,ht2⟩:=xe ((tkA ts (k + 1)).txt)
  rw [<- ht1] at c1 p1 s1
  rw [<- ht2] at c2 p2 s2
  obtain ⟨n1,hn1⟩ : ∃ n,t1.size = n + 1:=⟨t1.size - 1,by omega⟩
  have l1 : n1 < t1.size:=by omega
  obtain ⟨b1,hb1⟩ : ∃ b : Int,b = (t1[n1].toNat : Int):=⟨_,rfl⟩
  obtain ⟨b2,hb2⟩ : ∃ b : Int,b = (t2[0].toNat : Int):=⟨_,rfl⟩
  have hi : (k : Int) + 1 < (ts.length : Int):=by omega
  have hi2 : ¬ (ts.length : Int) <= (k : Int) + 1:=by omega
  have h0 : (0 : Int) <= (k : Int) + 1:=by omega
  have tn : ((k : Int) + 1).toNat = k + 1:=by omega
  have ki : (k : Int) < (ts.length : Int):=by omega
  obtain ⟨N,hN⟩:=xe (ts.length)
  rw [<- hN] at hi hi2 ki
  have hN1 : N <= 1000:=by omega
  rw [e1,<- hN]
  have wn : IntKind.i64.wrap ((t1.size : Int) - 1) = (n1 : Int):=wk (by omega)
  have ln1 : (n1 : Int) < (t1.size : Int):=by omega
  have l00 : (0 : Int) <= (n1 : Int):=by omega
  have x1 : ∀ j,Calls Tryz.prog 67 #[.int .u8 (t1[n1].toNat : Int)] (w.drewN j) fun e w'=>e = .returned (.bool (wb (t1[n1].toNat : Int))) /\ ∃ k,w' = (w.drewN j).drewN k:=fun j=>(c30 _ _).mono fun _ _ h=>⟨h.1,0,h.2⟩
  have x2 : ∀ j,Calls Tryz.prog 67 #[.int .u8 (t2[0].toNat : Int)] (w.drewN j) fun e w'=>e = .returned (.bool (wb (t2[0].toNat : Int))) /\ ∃ k,w' = (w.drewN j).drewN k:=fun j=>(c30 _ _).mono fun _ _ h=>⟨h.1,0,h.2⟩
  clear h ok g1 g2 ht1 ht2 hN hk1 hk hl hn1
  obtain ⟨r1,hr1⟩:=xe (wb (t1[n1].toNat : Int))
  obtain ⟨r2,hr2⟩:=xe (wb (t2[0].toNat : Int))
  rw [<- hr1] at x1
  rw [<- hr2] at x2
  clear hr1 hr2 hb1 hb2
  have X1:=hidQ2 x1
  have X2:=hidQ2 x2
  clear x1 x2
  cases r1
  ·go_enter Tryz.func109,Tryz.ntmps109
   go_wp2
   go_quiet (first | (go_at_call 67;first | (with_reducible exact Calls.quiet_of (X1.out _)) | (with_reducible exact quiet_two (X1.out _))))
   go_wp2
   go_ret
   exact ⟨⟨_,rfl⟩,_,rfl⟩
  ·go_enter Tryz.func109,Tryz.ntmps109
   go_wp2
   go_quiet (first | (go_at_call 67;first | (with_reducible exact Calls.quiet_of (X1.out _)) | (with_reducible exact quiet_two (X1.out _)) | (with_reducible exact Calls.quiet_of (X2.out _)) | (with_reducible exact quiet_two (X2.out _))))
   go_wp2
   go_ret
   exact ⟨⟨_,rfl⟩,_,rfl⟩
 ·have hi2 : (ts.length : Int) <= (k : Int) + 1:=by omega
  clear h ok
  go_enter Tryz.func109,Tryz.ntmps109
  go_wp2
  go_ret
  exact ⟨⟨_,rfl⟩,0,rfl⟩
theorem d_toks (s : ByteArray) (w : World) (hs : s.size <= 9223372036854775807) : Calls Tryz.prog 17 #[.string s] w fun e w'=>∃ (ao : Option Addr) (c tb : Nat),e = .returned (.slice ao (toks s).length c) /\ Hid (∀ W,Bw w' W -> MS W tb 0 ao (toks s)) /\ Hid (Bw w w'):=by
 refine (c5 s w hs).mono ?_
 rintro e w3 ⟨v0,rfl,hO⟩
 have hl:=toks_len s
 obtain ⟨ao,c,rfl⟩:=own_form hO.own
 obtain ⟨tb,hms⟩ : ∃ tb,MS w3 tb 0 ao (toks s):=by
  by_cases hp : 0 < (toks s).length
  ·obtain ⟨g,c',e,_⟩:=own_blk hO.own hp
   cases e
   exact ⟨g,TkAt.of_own hO,fun _=>rfl⟩
  ·exact ⟨0,⟨fun j hj=>absurd hj (by omega),fun j hj=>absurd hj (by omega),fun j hj=>absurd hj (by omega),by omega,fun j hj=>absurd hj (by omega),fun j hj=>absurd hj (by omega)⟩,fun z=>absurd z hp⟩
 exact ⟨ao,c,tb,rfl,fun W hb=>hms.below hb,hO.below⟩
theorem below_dn (w : World) (m : Nat) : Bw w (w.drewN m):=⟨rfl,rfl,rfl,nlr _,fun _ _=>rfl⟩
theorem d_spaced (w : World) {ca : Option Addr} {cb co Ln cc p : Nat} {C : Nat -> Nat} (hC : BytesAt w ca cb co Ln C) (hLn : Ln <= 1048576) (hp : p <= 1000000) (s : ByteArray) (hs : s.size <= 2000) :
  Calls Tryz.prog 72 #[.slice ca Ln cc,.int .i64 (p : Int),.string s] w fun e w'=>(∃ t,e = .returned (.string t) /\ t.size <= 3000000) /\ Bw w w':=by
 have C1:=d_toks s w (by omega)
 have HC : Hid (∀ W,Bw w W -> BytesAt W ca cb co Ln C):=fun W hb=>hC.below hb
 have HOK : Hid (TkOK (toks s)):=toks_ok s
 have hl:=toks_len s
 obtain ⟨ts,hts⟩:=xe (toks s)
 rw [<- hts] at C1 HOK hl
 clear hts hC
 go_enter Tryz.func72,Tryz.ntmps72
 go_wp2_with fail
 refine C1.mono ?_
 rintro e w1 ⟨ao,c,tb,rfl,HMS,HB1⟩
 clear C1
 go_wp2
 go_loopw [1,8,9] (fun pp v i wr=>∃ (k q : Nat) (t : ByteArray),k <= ts.length /\ i = .int .i64 k /\ pp = .int .i64 (q : Int) /\ q <= p + k /\ v = .string t /\ t.size <= k * 2000 /\ Hid (Bw w1 wr)) (fun _ _ i _=>ts.length - (intOf i).toNat)
 case atStart=>exact ⟨0,p,⟨#[]⟩,Nat.zero_le _,rfl,rfl,by omega,rfl,by decide,Below.refl _ _⟩
 case round=>
  obtain ⟨k,q,t,hk,rfl,rfl,hq,rfl,htk,HW⟩:=hrel
  have hk2 : k * 2000 <= 1000 * 2000:=Nat.mul_le_mul_right _ (by omega)
  have hk3 : (k + 1) * 2000 = k * 2000 + 2000:=Nat.succ_mul _ _
  have HWw : Hid (Bw w wr):=HB1.out.trans (HW.out.mono HB1.out.size)
  by_cases hlt : k < ts.length
  ·have lk : (k : Int) < (ts.length : Int):=by omega
   obtain ⟨ea,c1⟩:=(HMS.out wr HW.out).tok hlt
   have g1 : tkA ts k ∈ ts:=by unfold tkA;rw [List.getD_eq_getElem?_getD,List.getElem?_eq_getElem hlt];exact List.getElem_mem hlt
   have sx:=HOK.out.sz _ g1
   obtain ⟨x,hx⟩:=xe ((tkA ts k).txt)
   rw [<- hx] at c1 sx
   have C2:=d_take ca cb co Ln cc q 8 C wr (HC.out wr HWw.out) hLn (by omega) (by omega)
   obtain ⟨a,ha⟩:=xe (tk C Ln q 8)
   have ha8 : a < 8:=by rw [ha];exact tk_lt (by omega)
   rw [<- ha] at C2
   have C3:=d_glued (c:=c) wr (HMS.out wr HW.out) HOK.out hlt hl
   obtain ⟨N,hN⟩:=xe (ts.length)
   have HNL : Hid (N = ts.length /\ k + 1 <= N):=⟨hN,by omega⟩
   have hN1 : N <= 1000:=by omega
   rw [<- hN] at lk C3
   rw [ea] at C3
   rw [<- hN,ea]
   have a1:=rsa t x (by omega)
   obtain ⟨y,hy⟩:=xe (t ++ x)
   have sy : y.size <= k * 2000 + 1000:=by rw [hy,bsa];omega
   rw [<- hy] at a1
   have s1 : (⟨#[32,35,32,59,120,10]⟩ : ByteArray).size = 6:=rfl
   have s2 : (⟨#[32]⟩ : ByteArray).size = 1:=rfl
   have s3 : (⟨#[10,10]⟩ : ByteArray).size = 2:=rfl
   have a2:=rsa y (⟨#[32,35,32,59,120,10]⟩ : ByteArray) (by rw [s1];omega)
   have a3:=rsa y (⟨#[32]⟩ : ByteArray) (by rw [s2];omega)
   have a4:=rsa y (⟨#[10,10]⟩ : ByteArray) (by rw [s3];omega)
   have a5:=rsa (y ++ (⟨#[32]⟩ : ByteArray)) (⟨#[10,10]⟩ : ByteArray) (by rw [bsa,s2,s3];omega)
   have hm : N - (k + 1) < N - k:=by have:=HNL.out;omega
   have HKL : Hid (k + 1 <= N /\ N - (k + 1) < N - k):=by have:=HNL.out;exact ⟨by omega,by omega⟩
   clear ha hx hy hN g1 ea hlt
   go_wp2_with fail
   refine C2.mono ?_
   rintro e w3 ⟨rfl,rfl⟩
   clear C2
   by_cases e0' : a = 0
   ·subst e0'
    clear C3
    go_wp2
    go_roundw
    case rel=>exact ⟨k + 1,q + 1,_,HKL.out.1,by go_num,rfl,by omega,rfl,by rw [bsa,s1];omega,HW⟩
    case measure=>have:=HKL.out.2;simp [intOf];omega
   have b0 : ((a : Int) == 0) = false:=bn2 (by omega)
   by_cases e4 : a < 4
   ·have l4 : (a : Int) < 4:=by omega
    have b4 : ((a : Int) == 4) = false:=bn2 (by omega)
    clear C3
    go_wp2
    go_roundw
    case rel=>exact ⟨k + 1,q + 1,_,HKL.out.1,by go_num,rfl,by omega,rfl,by rw [bsa,s2];omega,HW⟩
    case measure=>have:=HKL.out.2;simp [intOf];omega
   have l4 : ¬ (a : Int) < 4:=by omega
   go_wp2_with fail
   refine C3.mono ?_
   rintro e w4 ⟨⟨b,rfl⟩,m,hw4⟩
   have HW4 : Hid (Bw w1 w4):=by rw [hw4];exact HW.out.trans ((below_dn wr m).mono HW.out.size)
   clear hw4 C3
   by_cases e5 : a = 4
   ·subst e5
    cases b
    ·go_wp2
     go_roundw
     case rel=>exact ⟨k + 1,q + 1,_,HKL.out.1,by go_num,rfl,by omega,rfl,by rw [bsa,s3];omega,HW4⟩
     case measure=>have:=HKL.out.2;simp [intOf];omega
    ·go_wp2
     go_roundw
     case rel=>exact ⟨k + 1,q + 1,_,HKL.out.1,by go_num,rfl,by omega,rfl,by rw [bsa,bsa,s2,s3];omega,HW4⟩
     case measure=>have:=HKL.out.2;simp [intOf];omega
   ·have b4 : ((a : Int) == 4) = false:=bn2 (by omega)
    cases b
    ·go_wp2
     go_roundw
     case rel=>exact ⟨k + 1,q + 1,_,HKL.out.1,by go_num,rfl,by omega,rfl,by omega,HW4⟩
     case measure=>have:=HKL.out.2;simp [intOf];omega
    ·go_wp2
     go_roundw
     case rel=>exact ⟨k + 1,q + 1,_,HKL.out.1,by go_num,rfl,by omega,rfl,by rw [bsa,s2];omega,HW4⟩
     case measure=>have:=HKL.out.2;simp [intOf];omega
  ·have lk : ¬ (k : Int) < (ts.length : Int):=by omega
   go_wp2
   go_ret
   exact ⟨⟨_,rfl,by omega⟩,HWw.out⟩
theorem l_ended (w : World) (s : ByteArray) (hs : s.size <= 1000000) :
  Calls Tryz.prog 20 #[.string s] w fun e w'=>e = .returned (.string (ended s)) /\ Bw w w':=by
 have C1:=d_toks s w (by omega)
 have hl:=toks_len s
 have s1 : (⟨#[10]⟩ : ByteArray).size = 1:=rfl
 have s2 : (⟨#[10,59]⟩ : ByteArray).size = 2:=rfl
 have a1:=rsa s (⟨#[10]⟩ : ByteArray) (by rw [s1];omega)
 have a2:=rsa s (⟨#[10,59]⟩ : ByteArray) (by rw [s2];omega)
 have HE : Hid (ended s = if endB s then s ++ (⟨#[10]⟩ : ByteArray) else s ++ (⟨#[10,59]⟩ : ByteArray)):=by show _ = _;rfl
 by_cases h0 : (toks s).length = 0
 ·have HB : Hid (endB s = true):=by
   show _ = _
   unfold endB
   rw [List.eq_nil_of_length_eq_zero h0]
   rfl
  rw [h0] at C1
  go_enter Tryz.func20,Tryz.ntmps20
  go_wp2_with fail
  refine C1.mono ?_
  rintro e w1 ⟨ao,c,tb,rfl,HMS,HB1⟩
  clear C1
  go_wp2
  go_ret
  exact ⟨by rw [HE.out,HB.out];rfl,HB1.out⟩
 ·obtain ⟨n,hn⟩ : ∃ n,(toks s).length = n + 1:=⟨(toks s).length - 1,by omega⟩
  have HB : Hid (endB s = ((tkA (toks s) n).txt.toList == [59])):=by
   show _ = _
   unfold endB
   rw [List.getLast?_eq_getElem?,hn,Nat.add_sub_cancel,List.getElem?_eq_getElem (by omega)]
   unfold tkA
   rw [List.getD_eq_getElem?_getD,List.getElem?_eq_getElem (by omega),ByteArray.toList_eq]
   rfl
  obtain ⟨bb,hbb⟩:=xe (endB s)
  rw [<- hbb] at HB HE
  have hb2 : ((tkA (toks s) n).txt.toList == [59]) = bb:=HB.out.symm
  obtain ⟨t,ht⟩:=xe ((tkA (toks s) n).txt)
  have HT : Hid (n < (toks s).length /\ t = (tkA (toks s) n).txt):=⟨by omega,ht⟩
  rw [<- ht] at hb2
  have hn1 : n < 1000:=by omega
  rw [hn] at C1
  have wn : IntKind.i64.wrap ((n : Int) + 1 - 1) = (n : Int):=wk (by omega)
  have n0 : (((n : Int) + 1) == 0) = false:=bn2 (by omega)
  have nl : (n : Int) < (n : Int) + 1:=by omega
  have nz : (0 : Int) <= (n : Int):=by omega
  clear h0 hl hbb ht HB
  go_enter Tryz.func20,Tryz.ntmps20
  go_wp2_with fail
  refine C1.mono ?_
  rintro e w1 ⟨ao,c,tb,rfl,HMS,HB1⟩
  obtain ⟨ea,c1⟩:=(HMS.out w1 (Below.refl _ _)).tok HT.out.1
  rw [<- HT.out.2] at c1
  rw [ea]
  clear C1 ea hn
  cases bb
  ·go_wp2
   go_ret
   exact ⟨by rw [HE.out];rfl,HB1.out⟩
  ·go_wp2
   go_ret
   exact ⟨by rw [HE.out];rfl,HB1.out⟩
theorem prM_size (l : List DC) : (prM l).size <= 1000:=by
 unfold prM
 split
 ·rename_i h
  unfold okM at h
  simp only [Bool.and_eq_true,decide_eq_true_eq] at h
  exact h.2
 ·show (0 : Nat) <= 1000
  omega
theorem d_text (w : World) {ca : Option Addr} {cb co Ln cc p : Nat} {C : Nat -> Nat} (hC : BytesAt w ca cb co Ln C) (hLn : Ln <= 1048576) (hp : p <= 90000) {Q : List ByteArray} {mq : NPl} {mc : Nat} (hM : NsA w mq Q) (gM : ∀ s,s ∈ Q -> gn s = true) (hM0 : 0 < Q.length) (hM1 : Q.length <= 100) {n : Nat} (hn1 : 1 <= n) (hn10 : n <= 10) :
  Calls Tryz.prog 44 #[.slice ca Ln cc,.int .i64 (p : Int),.slice mq.a Q.length mc,.int .i64 (n : Int)] w fun e w'=>(∃ (s : ByteArray) (q : Nat),e = .returned (.tuple #[.string s,.int .i64 (q : Int)]) /\ s.size <= 1000 /\ p <= q /\ q <= p + 200010) /\ Hid (Bw w w'):=by
 have C1:=d_take ca cb co Ln cc p 16 C w hC hLn (by omega) (by omega)
 obtain ⟨hw,hhw⟩:=xe (tk C Ln p 16)
 have hw16 : hw < 16:=by rw [hhw];exact tk_lt (by omega)
 rw [<- hhw] at C1
 have C2:=d_module w hC (cc:=cc) (p:=p + 1) hLn (by omega) (mc:=mc) hM gM hM0 hM1 hn1 hn10
 have HC : Hid (∀ W,Bw w W -> BytesAt W ca cb co Ln C):=fun W hb=>hC.below hb
 have m4 : Int.tmod (hw : Int) 4 = ((hw % 4 : Nat) : Int):=tmodN hw 4
 obtain ⟨h4,hh4⟩:=xe (hw % 4)
 rw [<- hh4] at m4
 clear hC hM gM hhw hh4
 go_enter Tryz.func44,Tryz.ntmps44
 go_wp2_with fail
 refine C1.mono ?_
 rintro e w1 ⟨rfl,rfl⟩
 clear C1
 go_wp2_with fail
 refine C2.mono ?_
 rintro e w2 ⟨⟨va,m,c,q,rfl,hq1,hq2,HX⟩,HB2⟩
 clear C2
 obtain ⟨xs,hD,hm,hok⟩:=HX.out
 have C3:=v_print (w2.alloc (.cells #[.slice va m c] 24)) (hD.below (bel1 _ _)) rfl
 have sp:=prM_size (xs.map Prod.fst)
 obtain ⟨s,hs⟩:=xe (prM (xs.map Prod.fst))
 rw [<- hs] at C3 sp
 clear HX hD hm hok hs
 go_wp2_with fail
 refine C3.mono ?_
 rintro e w3 ⟨rfl,hb3⟩
 have HB3 : Hid (Bw w w3):=HB2.out.trans (((bel1 _ _).trans (hb3.mono (by simp))).mono HB2.out.size)
 clear C3 hb3
 have wq3 : IntKind.i64.wrap ((q : Int) + 3) = (q : Int) + 3:=wk (by omega)
 have hq3 : p <= q + 3 /\ q + 3 <= p + 200010:=by omega
 have hqB : q <= 1000000:=by omega
 go_upto_if 34 with fail
 go_cut [13] (fun v wx=>∃ t : ByteArray,v = .string t /\ t.size <= 1000 /\ Hid (Bw w wx))
 case first=>
  by_cases h1 : h4 = 1
  ·subst h1
   have C4:=d_spaced w3 (HC.out w3 HB3.out) (cc:=cc) hLn hqB s (by omega)
   go_wp2_with fail
   refine C4.mono ?_
   rintro e w4 ⟨⟨t,rfl,ht⟩,hb4⟩
   have HB4 : Hid (Bw w w4):=HB3.out.trans (hb4.mono HB3.out.size)
   clear C4 hb4
   by_cases hl : (t.size : Int) <= 1000
   ·go_wp2
    go_meet
    exact ⟨_,rfl,by omega,HB4⟩
   ·go_wp2
    go_meet
    exact ⟨_,rfl,by omega,HB4⟩
  ·have b1 : ((h4 : Int) == 1) = false:=bn2 (by omega)
   clear h1
   go_wp2
   go_meet
   exact ⟨_,rfl,by omega,HB3⟩
 case rest=>
  obtain ⟨t,rfl,ht,HBX⟩:=hcut
  by_cases h13 : (13 : Int) <= (hw : Int)
  ·have C5:=d_spoil wc (HC.out wc HBX.out) (cc:=cc) hLn hqB t (by omega)
   go_wp2_with fail
   refine C5.mono ?_
   rintro e w5 ⟨⟨u,rfl,hu⟩,hb5⟩
   have HB5 : Hid (Bw w w5):=HBX.out.trans (hb5.mono HBX.out.size)
   clear C5 hb5
   by_cases hl : (u.size : Int) <= 1000
   ·go_wp2
    go_ret2
    exact ⟨⟨_,q + 3,rfl,by omega,hq3.1,hq3.2⟩,HB5⟩
   ·go_wp2
    go_ret2
    exact ⟨⟨_,q + 3,rfl,by omega,hq3.1,hq3.2⟩,HB5⟩
  ·go_wp2
   go_ret2
   exact ⟨⟨_,q + 3,rfl,by omega,hq3.1,hq3.2⟩,HBX⟩
theorem d_parse (w : World) {ca : Option Addr} {cb co Ln cc : Nat} {C : Nat -> Nat} (hC : BytesAt w ca cb co Ln C) (hLn : Ln <= 1048576) :
  Calls Tryz.prog 21 #[.slice ca Ln cc] w fun e w'=>(∃ s : ByteArray,e = .returned (.string s) /\ s.size <= 2000) /\ Hid (Bw w w'):=by
 have C1:=d_take ca cb co Ln cc 0 24 C w hC hLn (by omega) (by omega)
 obtain ⟨hw,hhw⟩:=xe (tk C Ln 0 24)
 rw [<- hhw] at C1
 by_cases h23 : hw = 23
 ·have b23 : ((hw : Int) == 23) = true:=beq_iff_eq.2 (by omega)
  have C2:=d_take ca cb co Ln cc 1 6 C w hC hLn (by omega) (by omega)
  obtain ⟨x,hx⟩:=xe (tk C Ln 1 6)
  have hx6 : x < 6:=by rw [hx];exact tk_lt (by omega)
  rw [<- hx] at C2
  clear hx hhw hC h23
  go_enter Tryz.func21,Tryz.ntmps21
  go_wp2_with fail
  refine C1.mono ?_
  rintro e w1 ⟨rfl,rfl⟩
  go_wp2_with fail
  refine C2.mono ?_
  rintro e w1 ⟨rfl,rfl⟩
  clear C1 C2
  by_cases h2 : (x : Int) < 2
  ·have C3:=d_long (1000 + x) w (by omega) (by omega)
   have wx : IntKind.i64.wrap (1000 + (x : Int)) = 1000 + (x : Int):=wk (by omega)
   rw [show ((1000 + x : Nat) : Int) = 1000 + (x : Int) by omega] at C3
   go_wp2_with fail
   refine C3.mono ?_
   rintro e w3 ⟨⟨s,rfl,hs⟩,rfl⟩
   clear C3
   go_wp2
   go_ret
   exact ⟨⟨_,rfl,hs⟩,Below.refl _ _⟩
  by_cases e2 : x = 2
  ·subst e2
   clear h2
   go_wp2
   go_ret
   exact ⟨⟨_,rfl,by decide⟩,Below.refl _ _⟩
  have b2 : ((x : Int) == 2) = false:=bn2 (by omega)
  by_cases e3 : x = 3
  ·subst e3
   clear h2 e2
   go_wp2
   go_ret
   exact ⟨⟨_,rfl,by decide⟩,Below.refl _ _⟩
  have b3 : ((x : Int) == 3) = false:=bn2 (by omega)
  by_cases e4 : x = 4
  ·subst e4
   clear h2 e2 e3
   go_wp2
   go_ret
   exact ⟨⟨_,rfl,by decide⟩,Below.refl _ _⟩
  have b4 : ((x : Int) == 4) = false:=bn2 (by omega)
  clear e2 e3 e4
  go_wp2
  go_ret
  exact ⟨⟨_,rfl,by decide⟩,Below.refl _ _⟩
 ·have b23 : ((hw : Int) == 23) = false:=bn2 (by omega)
  have HC : Hid (∀ W,Bw w W -> BytesAt W ca cb co Ln C):=fun W hb=>hC.below hb
  obtain ⟨W2,hW2⟩:=xe (w.alloc (.cells #[.string ⟨#[97]⟩,.string ⟨#[98]⟩,.string ⟨#[109]⟩] 9))
  have HB2 : Hid (Bw w W2):=by rw [hW2];exact bel1 _ _
  have HNS : Hid (NsA W2 ⟨some ⟨w.heap.size,0,none⟩,w.heap.size,3⟩ [⟨#[97]⟩,⟨#[98]⟩,⟨#[109]⟩]):=by
   rw [hW2]
   have h:=World.ownsRow_lit (e:=9) (size:=1) w #[.string ⟨#[97]⟩,.string ⟨#[98]⟩,.string ⟨#[109]⟩] 3 (nlr _) (by unfold maxLen;omega) (by rfl)
   obtain ⟨g,hg⟩:=nm_of_own (ns:=[⟨#[97]⟩,⟨#[98]⟩,⟨#[109]⟩]) (n:=3) rfl h
   have eg:=(hg (by simp)).1
   simp only [Option.some.injEq,Addr.mk.injEq] at eg
   rw [<- eg.1] at hg
   exact hg.nsa
  have C3:=d_count ca Ln cc W2 hLn
  clear hC hhw h23
  go_enter Tryz.func21,Tryz.ntmps21
  go_wp2_with fail
  refine C1.mono ?_
  rintro e w1 ⟨rfl,rfl⟩
  clear C1
  go_wp2_with fail
  rw [<- hW2]
  clear hW2
  refine C3.mono ?_
  rintro e w3 ⟨⟨n,rfl,hn2,hn10⟩,rfl⟩
  clear C3
  have C4:=d_text W2 (HC.out W2 HB2.out) (cc:=cc) (p:=1) hLn (by omega) (mc:=3) HNS.out (fun s hs=>by
   simp only [List.mem_cons,List.not_mem_nil,or_false] at hs
   rcases hs with rfl | rfl | rfl <;> decide) (by decide) (by decide) (n:=n) (by omega) hn10
  go_wp2_with fail
  refine C4.mono ?_
  rintro e w4 ⟨⟨s,q,rfl,hs,_,_⟩,HB4⟩
  clear C4
  go_wp2
  go_ret
  exact ⟨⟨_,rfl,by omega⟩,HB2.out.trans (HB4.out.mono HB2.out.size)⟩
end Go.Proofs.YtcehppndpccldaaGreatDoor
