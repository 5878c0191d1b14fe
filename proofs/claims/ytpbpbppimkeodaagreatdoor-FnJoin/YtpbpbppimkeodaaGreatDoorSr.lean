/-
  SubRel SubFields JqA JqB JqC JqD
-/
import Derived.Test.YtpbpbppimkeodaaGreatDoorSk
import Derived.Sort.Walk0
import Derived.Test.YtpbpbppimkeodaaGreatDoorSq
namespace Go.Proofs.YtpbpbppimkeodaaGreatDoor
def posOf (d : ND) (s : ByteArray) : Nat:=((List.range d.nn).map fun i=>(d.nm i).data.toList).idxOf s.data.toList
theorem posOf_lt {d : ND} {s : ByteArray} : posOf d s < d.nn ↔ ∃ k,k < d.nn /\ d.nm k = s:=by
 unfold posOf
 constructor
 ·intro h
  have h' : ((List.range d.nn).map fun i=>(d.nm i).data.toList).idxOf s.data.toList < ((List.range d.nn).map fun i=>(d.nm i).data.toList).length:=by simpa using h
  have e:=List.getElem_idxOf h'
  simp only [List.getElem_map,List.getElem_range] at e
  exact ⟨_,h,Go.WideShapes.bytes_inj e⟩
 ·rintro ⟨k,hk,rfl⟩
  have:=List.idxOf_lt_length_of_mem (List.mem_map.2 ⟨k,List.mem_range.2 hk,rfl⟩ : (d.nm k).data.toList ∈ (List.range d.nn).map fun i=>(d.nm i).data.toList)
  simpa using this
theorem posOf_lab {d e : ND} (h : Lab d e) (s : ByteArray) : posOf d s = posOf e s:=by
 unfold posOf
 rw [<- h.nn]
 have : ((List.range d.nn).map fun i=>(d.nm i).data.toList) = ((List.range d.nn).map fun i=>(e.nm i).data.toList):=List.map_congr_left (fun i hi=>by rw [h.nm i (List.mem_range.1 hi)])
 rw [this]
def Can (d e : ND) : Prop:=d.kind = 0 \/ e.kind = 0 \/ (d.kind = e.kind /\ (d.kind = 4 \/ ∀ i,i < e.nn -> posOf d (e.nm i) < d.nn))
def demP (d e : ND) : List (Bool × Nat × Nat):=
 if d.kind = 0 \/ e.kind = 0 then [] else if d.kind = 4 then [(true,0,0),(false,1,1)] else (List.range e.nn).map fun i=>(false,posOf d (e.nm i),i)
def atP (d e : ND) (q : Bool × Nat × Nat) : Nat × Nat:=if q.1 then (kid e q.2.2,kid d q.2.1) else (kid d q.2.1,kid e q.2.2)
def SubS (G : Nat -> ND) (R : Nat -> Nat -> Prop) : Prop:=∀ x y,R x y -> Can (G x) (G y) /\ ∀ q,q ∈ demP (G x) (G y) -> R (atP (G x) (G y) q).1 (atP (G x) (G y) q).2
def SubP (G : Nat -> ND) (a b : Nat) : Prop:=∃ R,SubS G R /\ R a b
theorem can_lab {d e d' e' : ND} (h : Lab d d') (k : Lab e e') : Can d e ↔ Can d' e':=by
 unfold Can
 rw [h.kind,k.kind,h.nn,k.nn]
 constructor
 ·rintro (c | c | ⟨c,c'⟩)
  ·exact Or.inl c
  ·exact Or.inr (Or.inl c)
  ·refine Or.inr (Or.inr ⟨c,c'.imp id (fun z i hi=>?_)⟩)
   rw [<- posOf_lab h,<- k.nm i (by rw [k.nn];exact hi)];exact z i hi
 ·rintro (c | c | ⟨c,c'⟩)
  ·exact Or.inl c
  ·exact Or.inr (Or.inl c)
  ·refine Or.inr (Or.inr ⟨c,c'.imp id (fun z i hi=>?_)⟩)
   rw [posOf_lab h,k.nm i (by rw [k.nn];exact hi)];exact z i hi
theorem dem_lab {d e d' e' : ND} (h : Lab d d') (k : Lab e e') : demP d e = demP d' e':=by
 unfold demP
 rw [h.kind,k.kind,k.nn]
 have : ((List.range e'.nn).map fun i=>(false,posOf d (e.nm i),i)) = ((List.range e'.nn).map fun i=>(false,posOf d' (e'.nm i),i)):=List.map_congr_left (fun i hi=>by
  rw [posOf_lab h,k.nm i (by rw [k.nn];exact List.mem_range.1 hi)])
 rw [this]
theorem dem_lt {d e : ND} (hd : Plain d) (he : Plain e) (hc : Can d e) {q : Bool × Nat × Nat} (hq : q ∈ demP d e) : q.2.1 < d.nk /\ q.2.2 < e.nk:=by
 unfold demP at hq
 by_cases h0 : d.kind = 0 \/ e.kind = 0
 ·rw [if_pos h0] at hq;cases hq
 ·rw [if_neg h0] at hq
  rcases hc with c | c | ⟨c,c'⟩
  ·exact absurd (Or.inl c) h0
  ·exact absurd (Or.inr c) h0
  ·by_cases h4 : d.kind = 4
   ·rw [if_pos h4] at hq
    have e1 : d.nk = 2:=by rw [hd.kids,if_neg (by omega),if_pos h4]
    have e2 : e.nk = 2:=by rw [he.kids,if_neg (by omega),if_pos (by omega)]
    simp only [List.mem_cons,List.not_mem_nil,or_false] at hq
    rcases hq with rfl | rfl
    ·exact ⟨by show 0 < _;omega,by show 0 < _;omega⟩
    ·exact ⟨by show 1 < _;omega,by show 1 < _;omega⟩
   ·rw [if_neg h4] at hq
    obtain ⟨i,hi,rfl⟩:=List.mem_map.1 hq
    have hi':=List.mem_range.1 hi
    have hp:=(c'.resolve_left h4) i hi'
    by_cases h3 : d.kind = 3
    ·have e1 : d.nk = d.nn:=by rw [hd.kids,if_pos h3]
     have e2 : e.nk = e.nn:=by rw [he.kids,if_pos (by omega)]
     exact ⟨by show posOf d (e.nm i) < _;omega,by show i < _;omega⟩
    ·have n0:=he.bare (by omega)
     omega
def Across (G' G : Nat -> ND) (B : Nat -> Nat -> Prop) : Prop:=∀ i x,B i x -> Lab (G' i) (G x) /\ Plain (G' i) /\ Plain (G x) /\ ∀ j,j < (G' i).nk -> B (kid (G' i) j) (kid (G x) j)
theorem sub_across {G' G : Nat -> ND} {B : Nat -> Nat -> Prop} (hB : Across G' G B) {i j x y : Nat} (hx : B i x) (hy : B j y) : SubP G x y ↔ SubP G' i j:=by
 constructor
 ·rintro ⟨R,hR,hr⟩
  refine ⟨fun a b=>∃ u v,B a u /\ B b v /\ R u v,?_,⟨x,y,hx,hy,hr⟩⟩
  rintro a b ⟨u,v,hu,hv,huv⟩
  obtain ⟨l1,p1,p1',k1⟩:=hB a u hu
  obtain ⟨l2,p2,p2',k2⟩:=hB b v hv
  obtain ⟨c,d⟩:=hR u v huv
  have c':=(can_lab l1 l2).2 c
  refine ⟨c',fun q hq=>?_⟩
  obtain ⟨q1,q2⟩:=dem_lt p1 p2 c' hq
  rw [dem_lab l1 l2] at hq
  have z:=d q hq
  unfold atP at z ⊢
  by_cases s : q.1 = true
  ·rw [if_pos s] at z ⊢
   exact ⟨_,_,k2 _ q2,k1 _ q1,z⟩
  ·rw [if_neg s] at z ⊢
   exact ⟨_,_,k1 _ q1,k2 _ q2,z⟩
 ·rintro ⟨R,hR,hr⟩
  refine ⟨fun u v=>∃ a b,B a u /\ B b v /\ R a b,?_,⟨i,j,hx,hy,hr⟩⟩
  rintro u v ⟨a,b,hu,hv,hab⟩
  obtain ⟨l1,p1,p1',k1⟩:=hB a u hu
  obtain ⟨l2,p2,p2',k2⟩:=hB b v hv
  obtain ⟨c,d⟩:=hR a b hab
  refine ⟨(can_lab l1 l2).1 c,fun q hq=>?_⟩
  rw [<- dem_lab l1 l2] at hq
  obtain ⟨q1,q2⟩:=dem_lt p1 p2 c hq
  have z:=d q hq
  unfold atP at z ⊢
  by_cases s : q.1 = true
  ·rw [if_pos s] at z ⊢
   exact ⟨_,_,k2 _ q2,k1 _ q1,z⟩
  ·rw [if_neg s] at z ⊢
   exact ⟨_,_,k1 _ q1,k2 _ q2,z⟩
theorem can_refl (d : ND) : Can d d:=by
 refine Or.inr (Or.inr ⟨rfl,Or.inr (fun i hi=>?_)⟩)
 exact posOf_lt.2 ⟨i,hi,rfl⟩
end Go.Proofs.YtpbpbppimkeodaaGreatDoor
namespace Go.Proofs.YtpbpbppimkeodaaGreatDoor
open Go.RowKit Go.Maps
def Srt (d : ND) : Prop:=∀ i k,i < k -> k < d.nn -> lt (d.nm i) (d.nm k) = true
theorem lt_dec (a b : ByteArray) : lt a b = decide (a.toList < b.toList):=bytesLess_eq _ _
theorem lt_trans' {a b c : ByteArray} (h1 : lt a b = true) (h2 : lt b c = true) : lt a c = true:=by
 rw [lt_dec] at *
 simp only [decide_eq_true_eq] at *
 exact List.lt_trans h1 h2
theorem lt_ne {a b : ByteArray} (h : lt a b = true) : a ≠ b:=by
 intro e
 rw [lt_dec,e] at h
 simp only [decide_eq_true_eq] at h
 exact List.lt_irrefl _ h
theorem lt_tot {a b : ByteArray} (h : lt a b = false) (hn : a ≠ b) : lt b a = true:=by
 rw [lt_dec] at *
 simp only [decide_eq_false_iff_not,decide_eq_true_eq] at *
 apply Classical.byContradiction
 intro c
 have e:=List.le_antisymm (List.not_lt.1 h) (List.not_lt.1 c)
 exact hn (Go.WideShapes.bytes_inj (by rw [<- ByteArray.toList_eq,<- ByteArray.toList_eq];exact e.symm))
theorem posOf_eq {d : ND} {s : ByteArray} {i : Nat} (hi : i < d.nn) (he : d.nm i = s) (hb : ∀ k,k < i -> d.nm k ≠ s) : posOf d s = i:=by
 have hlt : posOf d s < d.nn:=posOf_lt.2 ⟨i,hi,he⟩
 have h' : ((List.range d.nn).map fun i=>(d.nm i).data.toList).idxOf s.data.toList < ((List.range d.nn).map fun i=>(d.nm i).data.toList).length:=by simpa [posOf] using hlt
 have e:=List.getElem_idxOf h'
 simp only [List.getElem_map,List.getElem_range] at e
 have e2 : d.nm (posOf d s) = s:=Go.WideShapes.bytes_inj e
 rcases Nat.lt_trichotomy (posOf d s) i with c | c | c
 ·exact absurd e2 (hb _ c)
 ·exact c
 ·exfalso
  have hm : (d.nm i).data.toList ∈ ((List.range d.nn).map fun i=>(d.nm i).data.toList).take (i + 1):=by
   rw [<- List.map_take,List.take_range,Nat.min_eq_left (by omega)]
   exact List.mem_map.2 ⟨i,List.mem_range.2 (by omega),rfl⟩
  have e3 : ((List.range d.nn).map fun i=>(d.nm i).data.toList) = ((List.range d.nn).map fun i=>(d.nm i).data.toList).take (i + 1) ++ ((List.range d.nn).map fun i=>(d.nm i).data.toList).drop (i + 1):=(List.take_append_drop _ _).symm
  have : posOf d s < i + 1:=by
   unfold posOf
   rw [e3,List.idxOf_append,if_pos (by rw [<- he];exact hm)]
   have:=List.idxOf_lt_length_of_mem (by rw [<- he];exact hm : s.data.toList ∈ ((List.range d.nn).map fun i=>(d.nm i).data.toList).take (i + 1))
   rw [List.length_take] at this
   omega
  omega
theorem pos_here {d : ND} {s : ByteArray} {i : Nat} (hb : ∀ k,k < i -> lt (d.nm k) s = true) (hi : i < d.nn) (he : d.nm i = s) : posOf d s = i:=
 posOf_eq hi he (fun k hk=>lt_ne (hb k hk))
theorem pos_end {d : ND} {s : ByteArray} (hb : ∀ k,k < d.nn -> lt (d.nm k) s = true) : ¬ posOf d s < d.nn:=fun h=>by
 obtain ⟨k,hk,e⟩:=posOf_lt.1 h
 exact lt_ne (hb k hk) e
theorem pos_not {d : ND} {s : ByteArray} {i : Nat} (hS : Srt d) (hi : i < d.nn) (hb : ∀ k,k < i -> lt (d.nm k) s = true) (h1 : lt (d.nm i) s = false) (h2 : d.nm i ≠ s) : ¬ posOf d s < d.nn:=fun h=>by
 obtain ⟨k,hk,e⟩:=posOf_lt.1 h
 have hs:=lt_tot h1 h2
 rcases Nat.lt_trichotomy k i with c | c | c
 ·exact lt_ne (hb k c) e
 ·subst c;exact h2 e
 ·exact lt_ne (lt_trans' hs (hS i k c hk)) e.symm
def fieldsTill (x y : ND) (ord : List (Nat × Nat)) : Nat -> List (Nat × Nat)
 | 0=>ord
 | j + 1=>addP (fieldsTill x y ord j) (kid x (posOf x (y.nm j)),kid y j)
theorem fields_len (x y : ND) (ord : List (Nat × Nat)) : ∀ j,(fieldsTill x y ord j).length <= ord.length + j
 | 0=>Nat.le_refl _
 | j + 1=>by
   have:=fields_len x y ord j
   unfold fieldsTill addP
   split
   ·omega
   ·simp;omega
theorem Kn.box {w : World} {kb mb : Nat} {ov : Value} {D : DataW Unit} {ord : List (Nat × Nat)} {keep : Nat -> Prop} (h : Kn w kb mb ov D ord keep) (o : Obj) :
  Kn (w.alloc o) kb mb ov D ord (fun k=>keep k \/ k = w.heap.size):=by
 have hk:=h.row.lt
 have hm:=h.mlt
 refine ⟨h.row.alloc _,h.mlt,h.map.alloc _,h.has,h.own.alloc _,fun k hk'=>?_⟩
 rcases hk' with hk' | rfl
 ·obtain ⟨f1,f2,f3,f4⟩:=h.far k hk'
  exact ⟨by simp;omega,f2,f3,f4⟩
 ·exact ⟨by simp,by omega,by omega,fun e=>by have:=(h.own.lt _ e.symm).2;omega⟩
end Go.Proofs.YtpbpbppimkeodaaGreatDoor
namespace Go.Proofs.YtpbpbppimkeodaaGreatDoor
theorem lt_same {a b : ByteArray} (h1 : lt a b = false) (h2 : lt b a = false) : a = b:=by
 by_cases h : a = b
 ·exact h
 ·rw [lt_tot h1 h] at h2;cases h2
theorem mixF_from {x y : ND} {up : Bool} : ∀ (f i j : Nat) (p : ByteArray × Kq),p ∈ mixF x y up f i j -> (∃ a,i <= a /\ a < x.nn /\ p.1 = x.nm a) \/ (∃ b,j <= b /\ b < y.nn /\ p.1 = y.nm b):=by
 intro f
 induction f with
 | zero=>intro i j p h;simp [mixF] at h
 | succ f ih=>
   intro i j p h
   have wk : ∀ i' j',i <= i' -> j <= j' -> ((∃ a,i' <= a /\ a < x.nn /\ p.1 = x.nm a) \/ (∃ b,j' <= b /\ b < y.nn /\ p.1 = y.nm b)) -> (∃ a,i <= a /\ a < x.nn /\ p.1 = x.nm a) \/ (∃ b,j <= b /\ b < y.nn /\ p.1 = y.nm b):=fun i' j' h1 h2 h=>by
    rcases h with ⟨a,q1,q2⟩ | ⟨a,q1,q2⟩
    ·exact Or.inl ⟨a,by omega,q2⟩
    ·exact Or.inr ⟨a,by omega,q2⟩
   rw [mixF] at h
   by_cases hc : i < x.nn \/ j < y.nn
   ·rw [if_pos hc] at h
    by_cases h1 : ¬ j < y.nn \/ (i < x.nn /\ lt (x.nm i) (y.nm j) = true)
    ·rw [if_pos h1] at h
     have hi : i < x.nn:=by rcases h1 with q | q <;> omega
     rcases List.mem_append.1 h with z | z
     ·cases up
      ·rw [if_neg (by decide)] at z
       rw [List.mem_singleton.1 z]
       exact Or.inl ⟨i,Nat.le_refl _,hi,rfl⟩
      ·simp at z
     ·exact wk _ _ (by omega) (by omega) (ih _ _ _ z)
    ·rw [if_neg h1] at h
     by_cases h2 : ¬ i < x.nn \/ lt (y.nm j) (x.nm i) = true
     ·rw [if_pos h2] at h
      have hj : j < y.nn:=by omega
      rcases List.mem_append.1 h with z | z
      ·cases up
       ·rw [if_neg (by decide)] at z
        rw [List.mem_singleton.1 z]
        exact Or.inr ⟨j,Nat.le_refl _,hj,rfl⟩
       ·simp at z
      ·exact wk _ _ (by omega) (by omega) (ih _ _ _ z)
     ·rw [if_neg h2] at h
      have hi : i < x.nn:=by omega
      rcases List.mem_cons.1 h with z | z
      ·rw [z];exact Or.inl ⟨i,Nat.le_refl _,hi,rfl⟩
      ·exact wk _ _ (by omega) (by omega) (ih _ _ _ z)
   ·rw [if_neg hc] at h
    simp at h
theorem srt_le {x : ND} (hx : Srt x) {i a : Nat} (h : i <= a) (ha : a < x.nn) {s : ByteArray} (hs : lt s (x.nm i) = true) : lt s (x.nm a) = true:=by
 by_cases e : i = a
 ·rw [<- e];exact hs
 ·exact lt_trans' hs (hx i a (by omega) ha)
theorem mixF_order {x y : ND} {up : Bool} (hx : Srt x) (hy : Srt y) : ∀ (f i j : Nat),((mixF x y up f i j).map Prod.fst).Pairwise (fun s t=>lt s t = true):=by
 intro f
 induction f with
 | zero=>intro i j;simp [mixF]
 | succ f ih=>
   intro i j
   rw [mixF]
   by_cases hc : i < x.nn \/ j < y.nn
   ·rw [if_pos hc]
    by_cases h1 : ¬ j < y.nn \/ (i < x.nn /\ lt (x.nm i) (y.nm j) = true)
    ·rw [if_pos h1]
     have hi : i < x.nn:=by rcases h1 with q | q <;> omega
     cases up
     ·rw [if_neg (by decide)]
      show (x.nm i :: (mixF x y false f (i + 1) j).map Prod.fst).Pairwise _
      refine List.pairwise_cons.2 ⟨fun s hs=>?_,ih _ _⟩
      obtain ⟨p,hp,rfl⟩:=List.mem_map.1 hs
      rcases mixF_from _ _ _ _ hp with ⟨a,q1,q2,e⟩ | ⟨a,q1,q2,e⟩
      ·rw [e];exact hx i a (by omega) q2
      ·rw [e]
       rcases h1 with z | z
       ·omega
       ·exact srt_le hy q1 q2 z.2
     ·simpa using ih (i + 1) j
    ·rw [if_neg h1]
     by_cases h2 : ¬ i < x.nn \/ lt (y.nm j) (x.nm i) = true
     ·rw [if_pos h2]
      have hj : j < y.nn:=by omega
      cases up
      ·rw [if_neg (by decide)]
       show (y.nm j :: (mixF x y false f i (j + 1)).map Prod.fst).Pairwise _
       refine List.pairwise_cons.2 ⟨fun s hs=>?_,ih _ _⟩
       obtain ⟨p,hp,rfl⟩:=List.mem_map.1 hs
       rcases mixF_from _ _ _ _ hp with ⟨a,q1,q2,e⟩ | ⟨a,q1,q2,e⟩
       ·rw [e]
        rcases h2 with z | z
        ·omega
        ·exact srt_le hx q1 q2 z
       ·rw [e];exact hy j a (by omega) q2
      ·simpa using ih i (j + 1)
     ·rw [if_neg h2]
      have hj : j < y.nn:=by omega
      have hi : i < x.nn:=by omega
      have e0 : x.nm i = y.nm j:=lt_same (by
       cases h : lt (x.nm i) (y.nm j)
       ·rfl
       ·exact absurd (Or.inr ⟨hi,h⟩) h1) (by
       cases h : lt (y.nm j) (x.nm i)
       ·rfl
       ·exact absurd (Or.inr h) h2)
      show (x.nm i :: (mixF x y up f (i + 1) (j + 1)).map Prod.fst).Pairwise _
      refine List.pairwise_cons.2 ⟨fun s hs=>?_,ih _ _⟩
      obtain ⟨p,hp,rfl⟩:=List.mem_map.1 hs
      rcases mixF_from _ _ _ _ hp with ⟨a,q1,q2,e⟩ | ⟨a,q1,q2,e⟩
      ·rw [e];exact hx i a (by omega) q2
      ·rw [e,e0];exact hy j a (by omega) q2
   ·rw [if_neg hc]
    simp
theorem mixF_up {x y : ND} : ∀ (f i j : Nat) (p : ByteArray × Kq),p ∈ mixF x y true f i j -> ∃ a b,a < x.nn /\ b < y.nn /\ p.1 = x.nm a /\ x.nm a = y.nm b /\ p.2 = .qn ⟨kid x a,kid y b,true⟩:=by
 intro f
 induction f with
 | zero=>intro i j p h;simp [mixF] at h
 | succ f ih=>
   intro i j p h
   rw [mixF] at h
   by_cases hc : i < x.nn \/ j < y.nn
   ·rw [if_pos hc] at h
    by_cases h1 : ¬ j < y.nn \/ (i < x.nn /\ lt (x.nm i) (y.nm j) = true)
    ·rw [if_pos h1] at h
     exact ih _ _ _ (by simpa using h)
    ·rw [if_neg h1] at h
     by_cases h2 : ¬ i < x.nn \/ lt (y.nm j) (x.nm i) = true
     ·rw [if_pos h2] at h
      exact ih _ _ _ (by simpa using h)
     ·rw [if_neg h2] at h
      have hj : j < y.nn:=by omega
      have hi : i < x.nn:=by omega
      have e0 : x.nm i = y.nm j:=lt_same (by
       cases h : lt (x.nm i) (y.nm j)
       ·rfl
       ·exact absurd (Or.inr ⟨hi,h⟩) h1) (by
       cases h : lt (y.nm j) (x.nm i)
       ·rfl
       ·exact absurd (Or.inr h) h2)
      rcases List.mem_cons.1 h with z | z
      ·rw [z];exact ⟨i,j,hi,hj,rfl,e0,rfl⟩
      ·exact ih _ _ _ z
   ·rw [if_neg hc] at h
    simp at h
theorem mixF_downX {x y : ND} : ∀ (f i j : Nat),(x.nn - i) + (y.nn - j) <= f -> ∀ a,i <= a -> a < x.nn -> ∃ p,p ∈ mixF x y false f i j /\ p.1 = x.nm a /\ (p.2 = .ty (kid x a) \/ ∃ b,b < y.nn /\ x.nm a = y.nm b /\ p.2 = .qn ⟨kid x a,kid y b,false⟩):=by
 intro f
 induction f with
 | zero=>intro i j hf a h1 h2;omega
 | succ f ih=>
   intro i j hf a ha1 ha2
   rw [mixF]
   have hc : i < x.nn \/ j < y.nn:=by omega
   rw [if_pos hc]
   by_cases h1 : ¬ j < y.nn \/ (i < x.nn /\ lt (x.nm i) (y.nm j) = true)
   ·rw [if_pos h1,if_neg (by decide)]
    by_cases e : a = i
    ·subst e;exact ⟨(x.nm a,.ty (kid x a)),by simp,rfl,Or.inl rfl⟩
    ·obtain ⟨p,hp,q⟩:=ih (i + 1) j (by omega) a (by omega) ha2
     exact ⟨p,List.mem_append_right _ hp,q⟩
   ·rw [if_neg h1]
    by_cases h2 : ¬ i < x.nn \/ lt (y.nm j) (x.nm i) = true
    ·rw [if_pos h2]
     obtain ⟨p,hp,q⟩:=ih i (j + 1) (by omega) a (by omega) ha2
     exact ⟨p,List.mem_append_right _ hp,q⟩
    ·rw [if_neg h2]
     have hj : j < y.nn:=by omega
     have hi : i < x.nn:=by omega
     have e0 : x.nm i = y.nm j:=lt_same (by
      cases h : lt (x.nm i) (y.nm j)
      ·rfl
      ·exact absurd (Or.inr ⟨hi,h⟩) h1) (by
      cases h : lt (y.nm j) (x.nm i)
      ·rfl
      ·exact absurd (Or.inr h) h2)
     by_cases e : a = i
     ·subst e;exact ⟨(x.nm a,.qn ⟨kid x a,kid y j,false⟩),by simp,rfl,Or.inr ⟨j,hj,e0,rfl⟩⟩
     ·obtain ⟨p,hp,q⟩:=ih (i + 1) (j + 1) (by omega) a (by omega) ha2
      exact ⟨p,List.mem_cons_of_mem _ hp,q⟩
theorem mixF_downY {x y : ND} : ∀ (f i j : Nat),(x.nn - i) + (y.nn - j) <= f -> ∀ b,j <= b -> b < y.nn -> ∃ p,p ∈ mixF x y false f i j /\ p.1 = y.nm b /\ (p.2 = .ty (kid y b) \/ ∃ a,a < x.nn /\ x.nm a = y.nm b /\ p.2 = .qn ⟨kid x a,kid y b,false⟩):=by
 intro f
 induction f with
 | zero=>intro i j hf b h1 h2;omega
 | succ f ih=>
   intro i j hf b hb1 hb2
   rw [mixF]
   have hc : i < x.nn \/ j < y.nn:=by omega
   rw [if_pos hc]
   by_cases h1 : ¬ j < y.nn \/ (i < x.nn /\ lt (x.nm i) (y.nm j) = true)
   ·rw [if_pos h1]
    have hi : i < x.nn:=by rcases h1 with q | q <;> omega
    obtain ⟨p,hp,q⟩:=ih (i + 1) j (by omega) b hb1 hb2
    exact ⟨p,List.mem_append_right _ hp,q⟩
   ·rw [if_neg h1]
    by_cases h2 : ¬ i < x.nn \/ lt (y.nm j) (x.nm i) = true
    ·rw [if_pos h2,if_neg (by decide)]
     by_cases e : b = j
     ·subst e;exact ⟨(y.nm b,.ty (kid y b)),by simp,rfl,Or.inl rfl⟩
     ·obtain ⟨p,hp,q⟩:=ih i (j + 1) (by omega) b (by omega) hb2
      exact ⟨p,List.mem_append_right _ hp,q⟩
    ·rw [if_neg h2]
     have hj : j < y.nn:=by omega
     have hi : i < x.nn:=by omega
     have e0 : x.nm i = y.nm j:=lt_same (by
      cases h : lt (x.nm i) (y.nm j)
      ·rfl
      ·exact absurd (Or.inr ⟨hi,h⟩) h1) (by
      cases h : lt (y.nm j) (x.nm i)
      ·rfl
      ·exact absurd (Or.inr h) h2)
     by_cases e : b = j
     ·subst e;exact ⟨(x.nm i,.qn ⟨kid x i,kid y b,false⟩),by simp,e0,Or.inr ⟨i,hi,e0,rfl⟩⟩
     ·obtain ⟨p,hp,q⟩:=ih (i + 1) (j + 1) (by omega) b (by omega) hb2
      exact ⟨p,List.mem_cons_of_mem _ hp,q⟩
theorem mixD_srt {n : Nat} {H : Nat -> ND} {L : List Qn} {q : Qn} (hx : Srt (H q.a)) (hy : Srt (H q.b)) : Srt (mixD n H L q):=by
 intro i k hik hk
 have hk : k < (mixN (H q.a) (H q.b) q.up).length:=hk
 show lt ((mixN (H q.a) (H q.b) q.up).getD i ByteArray.empty) ((mixN (H q.a) (H q.b) q.up).getD k ByteArray.empty) = true
 unfold mixN at hk ⊢
 by_cases e : (H q.a).kind = (H q.b).kind /\ (H q.a).kind = 3
 ·rw [if_pos e] at hk ⊢
  have hp:=mixF_order (up:=q.up) hx hy (((H q.a).nn - 0) + ((H q.b).nn - 0)) 0 0
  have hp : ((mixAll (H q.a) (H q.b) q.up 0 0).map Prod.fst).Pairwise (fun s t=>lt s t = true):=hp
  have:=List.pairwise_iff_getElem.1 hp i k (by omega) hk hik
  rw [List.getD_eq_getElem?_getD,List.getD_eq_getElem?_getD,List.getElem?_eq_getElem hk,List.getElem?_eq_getElem (by omega : i < _)]
  exact this
 ·rw [if_neg e] at hk
  simp at hk
theorem posOf_srt {d : ND} (h : Srt d) {k : Nat} (hk : k < d.nn) : posOf d (d.nm k) = k:=pos_here (fun t ht=>h t k ht hk) hk rfl
theorem mixG_at {n : Nat} {H : Nat -> ND} {L : List Qn} {q0 q : Qn} {i : Nat} (h : L[i]? = some q) : mixG n H L q0 (n + i) = mixD n H L q:=by
 rw [mixG_ge (by omega),show n + i - n = i from by omega,List.getD_eq_getElem?_getD,h]
 rfl
theorem mixD_kid {n : Nat} {H : Nat -> ND} {L : List Qn} {q : Qn} {j : Nat} {k : Kq} (h : (mixQ (H q.a) (H q.b) q.up)[j]? = some k) : kid (mixD n H L q) j = numK n L k:=by
 show (((((mixQ (H q.a) (H q.b) q.up).map (numK n L)).getD j 0 : Nat) : Int)).toNat = _
 rw [List.getD_eq_getElem?_getD,List.getElem?_map,h]
 rfl
theorem numK_at {n : Nat} {L : List Qn} {r : Qn} (h : r ∈ L) : ∃ i,L[i]? = some r /\ numK n L (.qn r) = n + i:=
 ⟨L.idxOf r,by rw [List.getElem?_eq_getElem (List.idxOf_lt_length_of_mem h)];exact congrArg some (List.getElem_idxOf _),rfl⟩
def Rj (n : Nat) (L : List Qn) (u v : Nat) : Prop:=
 (∃ i q,L[i]? = some q /\ q.up = true /\ v = n + i /\ (u = q.a \/ u = q.b)) \/ (∃ i q,L[i]? = some q /\ q.up = false /\ u = n + i /\ (v = q.a \/ v = q.b)) \/ (u = v /\ u < n)
theorem mixD_kinds {n : Nat} {H : Nat -> ND} {L : List Qn} {q : Qn} : (mixD n H L q).kind = mixK (H q.a) (H q.b):=rfl
theorem rj_sub {n : Nat} {H : Nat -> ND} (hH : GoodH n H) (hs : ∀ t,t < n -> Srt (H t)) {L : List Qn} {q0 : Qn} (hL : InQ n L) (hC : ClosedQ H L) : SubS (mixG n H L q0) (Rj n L):=by
 intro u v h
 rcases h with ⟨i,q,hq,hup,rfl,hu⟩ | ⟨i,q,hq,hup,rfl,hv⟩ | ⟨rfl,hu⟩
 ·-- a type below the Join
  have hm : q ∈ L:=List.mem_of_getElem? hq
  obtain ⟨ha,hb⟩:=hL q hm
  have hun : u < n:=by rcases hu with rfl | rfl <;> assumption
  rw [mixG_at hq,mixG_lt hun]
  by_cases hk : (H q.a).kind = (H q.b).kind
  ·have hku : (H u).kind = (H q.a).kind:=by rcases hu with rfl | rfl;rfl;exact hk.symm
   have hkd : (mixD n H L q).kind = (H u).kind:=by rw [mixD_kinds,hku];unfold mixK;rw [if_pos hk]
   by_cases h4 : (H q.a).kind = 4
   ·have hQ : mixQ (H q.a) (H q.b) q.up = [.qn ⟨kid (H q.a) 0,kid (H q.b) 0,!q.up⟩,.qn ⟨kid (H q.a) 1,kid (H q.b) 1,q.up⟩]:=by unfold mixQ;rw [if_pos hk,if_pos h4]
    refine ⟨Or.inr (Or.inr ⟨hkd.symm,Or.inl (hku.trans h4)⟩),fun p hp=>?_⟩
    unfold demP at hp
    rw [if_neg (by omega),if_pos (hku.trans h4)] at hp
    have k0 : kid (mixD n H L q) 0 = numK n L (.qn ⟨kid (H q.a) 0,kid (H q.b) 0,!q.up⟩):=mixD_kid (by rw [hQ];rfl)
    have k1 : kid (mixD n H L q) 1 = numK n L (.qn ⟨kid (H q.a) 1,kid (H q.b) 1,q.up⟩):=mixD_kid (by rw [hQ];rfl)
    obtain ⟨i0,l0,e0⟩:=numK_at (n:=n) (hC q hm ⟨kid (H q.a) 0,kid (H q.b) 0,!q.up⟩ (by rw [hQ];simp))
    obtain ⟨i1,l1,e1⟩:=numK_at (n:=n) (hC q hm ⟨kid (H q.a) 1,kid (H q.b) 1,q.up⟩ (by rw [hQ];simp))
    simp only [List.mem_cons,List.not_mem_nil,or_false] at hp
    rcases hp with rfl | rfl
    ·show Rj n L (kid (mixD n H L q) 0) (kid (H u) 0)
     rw [k0,e0]
     refine Or.inr (Or.inl ⟨i0,_,l0,by rw [hup];rfl,rfl,?_⟩)
     rcases hu with rfl | rfl
     ·exact Or.inl rfl
     ·exact Or.inr rfl
    ·show Rj n L (kid (H u) 1) (kid (mixD n H L q) 1)
     rw [k1,e1]
     refine Or.inl ⟨i1,_,l1,hup,rfl,?_⟩
     rcases hu with rfl | rfl
     ·exact Or.inl rfl
     ·exact Or.inr rfl
   ·by_cases h3 : (H q.a).kind = 3
    ·have hN : mixN (H q.a) (H q.b) q.up = (mixAll (H q.a) (H q.b) q.up 0 0).map Prod.fst:=by unfold mixN;rw [if_pos ⟨hk,h3⟩]
     have hQ : mixQ (H q.a) (H q.b) q.up = (mixAll (H q.a) (H q.b) q.up 0 0).map Prod.snd:=by unfold mixQ;rw [if_pos hk,if_neg h4,if_pos h3]
     have fld : ∀ j,j < (mixD n H L q).nn -> ∃ a b,a < (H q.a).nn /\ b < (H q.b).nn /\ (mixD n H L q).nm j = (H q.a).nm a /\ (H q.a).nm a = (H q.b).nm b /\ kid (mixD n H L q) j = numK n L (.qn ⟨kid (H q.a) a,kid (H q.b) b,q.up⟩) /\ Kq.qn ⟨kid (H q.a) a,kid (H q.b) b,q.up⟩ ∈ mixQ (H q.a) (H q.b) q.up:=fun j hj=>by
      have hj : j < (mixN (H q.a) (H q.b) q.up).length:=hj
      have hj2 : j < (mixAll (H q.a) (H q.b) q.up 0 0).length:=by rw [hN,List.length_map] at hj;exact hj
      have hmem : (mixAll (H q.a) (H q.b) q.up 0 0)[j] ∈ mixAll (H q.a) (H q.b) q.up 0 0:=List.getElem_mem _
      have hmem2 : (mixAll (H q.a) (H q.b) q.up 0 0)[j] ∈ mixF (H q.a) (H q.b) true (((H q.a).nn - 0) + ((H q.b).nn - 0)) 0 0:=by rw [<- hup];exact hmem
      obtain ⟨a,b,h1,h2,h5,h6,h7⟩:=mixF_up _ _ _ _ hmem2
      have hq2 : (mixQ (H q.a) (H q.b) q.up)[j]? = some (.qn ⟨kid (H q.a) a,kid (H q.b) b,q.up⟩):=by
       rw [hQ,List.getElem?_map,List.getElem?_eq_getElem hj2]
       show some ((mixAll (H q.a) (H q.b) q.up 0 0)[j].2) = _
       rw [h7,hup]
      refine ⟨a,b,h1,h2,?_,h6,mixD_kid hq2,List.mem_of_getElem? hq2⟩
      show (mixN (H q.a) (H q.b) q.up).getD j ByteArray.empty = _
      rw [hN,List.getD_eq_getElem?_getD,List.getElem?_map,List.getElem?_eq_getElem hj2]
      exact h5
     refine ⟨Or.inr (Or.inr ⟨hkd.symm,Or.inr (fun j hj=>?_)⟩),fun p hp=>?_⟩
     ·obtain ⟨a,b,h1,h2,h5,h6,_⟩:=fld j hj
      rcases hu with rfl | rfl
      ·exact posOf_lt.2 ⟨a,h1,h5.symm⟩
      ·exact posOf_lt.2 ⟨b,h2,by rw [h5,h6]⟩
     ·unfold demP at hp
      rw [if_neg (by omega),if_neg (by omega)] at hp
      obtain ⟨j,hj,rfl⟩:=List.mem_map.1 hp
      obtain ⟨a,b,h1,h2,h5,h6,h7,h8⟩:=fld j (List.mem_range.1 hj)
      obtain ⟨i1,l1,e1⟩:=numK_at (n:=n) (hC q hm _ h8)
      show Rj n L (kid (H u) (posOf (H u) ((mixD n H L q).nm j))) (kid (mixD n H L q) j)
      rw [h7,e1,h5]
      refine Or.inl ⟨i1,_,l1,hup,rfl,?_⟩
      rcases hu with rfl | rfl
      ·exact Or.inl (by rw [posOf_srt (hs _ ha) h1])
      ·exact Or.inr (by rw [h6,posOf_srt (hs _ hb) h2])
    ·have hN : (mixD n H L q).nn = 0:=by show (mixN (H q.a) (H q.b) q.up).length = 0;unfold mixN;rw [if_neg (fun z=>h3 z.2)];rfl
     refine ⟨Or.inr (Or.inr ⟨hkd.symm,Or.inr (fun j hj=>by omega)⟩),fun p hp=>?_⟩
     unfold demP at hp
     by_cases h0 : (H u).kind = 0 \/ (mixD n H L q).kind = 0
     ·rw [if_pos h0] at hp;cases hp
     ·rw [if_neg h0,if_neg (by omega),hN] at hp;simp at hp
  ·have h0 : (mixD n H L q).kind = 0:=by rw [mixD_kinds];unfold mixK;rw [if_neg hk]
   refine ⟨Or.inr (Or.inl h0),fun p hp=>?_⟩
   unfold demP at hp
   rw [if_pos (Or.inr h0)] at hp
   cases hp
 ·-- the Meet below a type
  have hm : q ∈ L:=List.mem_of_getElem? hq
  obtain ⟨ha,hb⟩:=hL q hm
  have hvn : v < n:=by rcases hv with rfl | rfl <;> assumption
  rw [mixG_at hq,mixG_lt hvn]
  by_cases hk : (H q.a).kind = (H q.b).kind
  ·have hkv : (H v).kind = (H q.a).kind:=by rcases hv with rfl | rfl;rfl;exact hk.symm
   have hkd : (mixD n H L q).kind = (H v).kind:=by rw [mixD_kinds,hkv];unfold mixK;rw [if_pos hk]
   by_cases h4 : (H q.a).kind = 4
   ·have hQ : mixQ (H q.a) (H q.b) q.up = [.qn ⟨kid (H q.a) 0,kid (H q.b) 0,!q.up⟩,.qn ⟨kid (H q.a) 1,kid (H q.b) 1,q.up⟩]:=by unfold mixQ;rw [if_pos hk,if_pos h4]
    refine ⟨Or.inr (Or.inr ⟨hkd,Or.inl (hkd.trans (hkv.trans h4))⟩),fun p hp=>?_⟩
    unfold demP at hp
    rw [if_neg (by omega),if_pos (hkd.trans (hkv.trans h4))] at hp
    have k0 : kid (mixD n H L q) 0 = numK n L (.qn ⟨kid (H q.a) 0,kid (H q.b) 0,!q.up⟩):=mixD_kid (by rw [hQ];rfl)
    have k1 : kid (mixD n H L q) 1 = numK n L (.qn ⟨kid (H q.a) 1,kid (H q.b) 1,q.up⟩):=mixD_kid (by rw [hQ];rfl)
    obtain ⟨i0,l0,e0⟩:=numK_at (n:=n) (hC q hm ⟨kid (H q.a) 0,kid (H q.b) 0,!q.up⟩ (by rw [hQ];simp))
    obtain ⟨i1,l1,e1⟩:=numK_at (n:=n) (hC q hm ⟨kid (H q.a) 1,kid (H q.b) 1,q.up⟩ (by rw [hQ];simp))
    simp only [List.mem_cons,List.not_mem_nil,or_false] at hp
    rcases hp with rfl | rfl
    ·show Rj n L (kid (H v) 0) (kid (mixD n H L q) 0)
     rw [k0,e0]
     refine Or.inl ⟨i0,_,l0,by rw [hup];rfl,rfl,?_⟩
     rcases hv with rfl | rfl
     ·exact Or.inl rfl
     ·exact Or.inr rfl
    ·show Rj n L (kid (mixD n H L q) 1) (kid (H v) 1)
     rw [k1,e1]
     refine Or.inr (Or.inl ⟨i1,_,l1,hup,rfl,?_⟩)
     rcases hv with rfl | rfl
     ·exact Or.inl rfl
     ·exact Or.inr rfl
   ·by_cases h3 : (H q.a).kind = 3
    ·have hN : mixN (H q.a) (H q.b) q.up = (mixAll (H q.a) (H q.b) q.up 0 0).map Prod.fst:=by unfold mixN;rw [if_pos ⟨hk,h3⟩]
     have hQ : mixQ (H q.a) (H q.b) q.up = (mixAll (H q.a) (H q.b) q.up 0 0).map Prod.snd:=by unfold mixQ;rw [if_pos hk,if_neg h4,if_pos h3]
     have nkv : (H v).nk = (H v).nn:=hH.nk3 hvn (hkv.trans h3)
     have hsd : Srt (mixD n H L q):=mixD_srt (hs _ ha) (hs _ hb)
     have fld : ∀ j,j < (H v).nn -> ∃ t,t < (mixD n H L q).nn /\ (mixD n H L q).nm t = (H v).nm j /\ Rj n L (kid (mixD n H L q) t) (kid (H v) j):=fun j hj=>by
      have key : ∃ p,p ∈ mixAll (H q.a) (H q.b) q.up 0 0 /\ p.1 = (H v).nm j /\ (p.2 = .ty (kid (H v) j) \/ ∃ r : Qn,r.up = false /\ (kid (H v) j = r.a \/ kid (H v) j = r.b) /\ p.2 = .qn r):=by
       rcases hv with rfl | rfl
       ·obtain ⟨p,h1,h2,h5⟩:=mixF_downX (x:=H q.a) (y:=H q.b) (((H q.a).nn - 0) + ((H q.b).nn - 0)) 0 0 (Nat.le_refl _) j (Nat.zero_le _) hj
        refine ⟨p,by rw [hup];exact h1,h2,?_⟩
        rcases h5 with h5 | ⟨b,_,_,h5⟩
        ·exact Or.inl h5
        ·exact Or.inr ⟨_,rfl,Or.inl rfl,h5⟩
       ·obtain ⟨p,h1,h2,h5⟩:=mixF_downY (x:=H q.a) (y:=H q.b) (((H q.a).nn - 0) + ((H q.b).nn - 0)) 0 0 (Nat.le_refl _) j (Nat.zero_le _) hj
        refine ⟨p,by rw [hup];exact h1,h2,?_⟩
        rcases h5 with h5 | ⟨b,_,_,h5⟩
        ·exact Or.inl h5
        ·exact Or.inr ⟨_,rfl,Or.inr rfl,h5⟩
      obtain ⟨p,hp,hp1,hp2⟩:=key
      obtain ⟨t,ht,rfl⟩:=List.mem_iff_getElem.1 hp
      have hq2 : (mixQ (H q.a) (H q.b) q.up)[t]? = some ((mixAll (H q.a) (H q.b) q.up 0 0)[t].2):=by
       rw [hQ,List.getElem?_map,List.getElem?_eq_getElem ht];rfl
      refine ⟨t,?_,?_,?_⟩
      ·show t < (mixN (H q.a) (H q.b) q.up).length
       rw [hN,List.length_map];exact ht
      ·show (mixN (H q.a) (H q.b) q.up).getD t ByteArray.empty = _
       rw [hN,List.getD_eq_getElem?_getD,List.getElem?_map,List.getElem?_eq_getElem ht]
       exact hp1
      ·rw [mixD_kid hq2]
       rcases hp2 with e | ⟨r,hr1,hr2,e⟩
       ·rw [e]
        exact Or.inr (Or.inr ⟨rfl,hH.kids.lt hvn (by omega)⟩)
       ·rw [e] at hq2 ⊢
        obtain ⟨i1,l1,e1⟩:=numK_at (n:=n) (hC q hm r (List.mem_of_getElem? hq2))
        rw [e1]
        exact Or.inr (Or.inl ⟨i1,r,l1,hr1,rfl,hr2⟩)
     refine ⟨Or.inr (Or.inr ⟨hkd,Or.inr (fun j hj=>?_)⟩),fun p hp=>?_⟩
     ·obtain ⟨t,h1,h2,_⟩:=fld j hj
      exact posOf_lt.2 ⟨t,h1,h2⟩
     ·unfold demP at hp
      rw [if_neg (by omega),if_neg (by omega)] at hp
      obtain ⟨j,hj,rfl⟩:=List.mem_map.1 hp
      obtain ⟨t,h1,h2,h5⟩:=fld j (List.mem_range.1 hj)
      show Rj n L (kid (mixD n H L q) (posOf (mixD n H L q) ((H v).nm j))) (kid (H v) j)
      rw [<- h2,posOf_srt hsd h1]
      exact h5
    ·have hN : (H v).nn = 0:=hH.bare v hvn (by omega)
     refine ⟨Or.inr (Or.inr ⟨hkd,Or.inr (fun j hj=>by omega)⟩),fun p hp=>?_⟩
     unfold demP at hp
     by_cases h0 : (mixD n H L q).kind = 0 \/ (H v).kind = 0
     ·rw [if_pos h0] at hp;cases hp
     ·rw [if_neg h0,if_neg (by omega),hN] at hp;simp at hp
  ·have h0 : (mixD n H L q).kind = 0:=by rw [mixD_kinds];unfold mixK;rw [if_neg hk]
   refine ⟨Or.inl h0,fun p hp=>?_⟩
   unfold demP at hp
   rw [if_pos (Or.inl h0)] at hp
   cases hp
 ·-- a type below itself
  rw [mixG_lt hu]
  refine ⟨Or.inr (Or.inr ⟨rfl,Or.inr (fun j hj=>by rw [posOf_srt (hs u hu) hj];exact hj)⟩),fun p hp=>?_⟩
  unfold demP at hp
  by_cases h0 : (H u).kind = 0 \/ (H u).kind = 0
  ·rw [if_pos h0] at hp;cases hp
  ·rw [if_neg h0] at hp
   by_cases h4 : (H u).kind = 4
   ·rw [if_pos h4] at hp
    have n2:=hH.nk4 hu h4
    simp only [List.mem_cons,List.not_mem_nil,or_false] at hp
    rcases hp with rfl | rfl
    ·exact Or.inr (Or.inr ⟨rfl,hH.kids.lt hu (by show 0 < _;omega)⟩)
    ·exact Or.inr (Or.inr ⟨rfl,hH.kids.lt hu (by show 1 < _;omega)⟩)
   ·rw [if_neg h4] at hp
    obtain ⟨j,hj,rfl⟩:=List.mem_map.1 hp
    have hj2:=List.mem_range.1 hj
    have h3 : (H u).kind = 3:=by
     by_cases h : (H u).kind = 3
     ·exact h
     ·have:=hH.bare u hu h;omega
    have n3:=hH.nk3 hu h3
    show Rj n L (kid (H u) (posOf (H u) ((H u).nm j))) (kid (H u) j)
    rw [posOf_srt (hs u hu) hj2]
    exact Or.inr (Or.inr ⟨rfl,hH.kids.lt hu (by omega)⟩)
theorem lt_self (a : ByteArray) : lt a a = false:=by
 cases h : lt a a
 ·rfl
 ·exact absurd rfl (lt_ne h)
theorem mixF_self {x : ND} {up : Bool} : ∀ (f i : Nat),(x.nn - i) + (x.nn - i) <= f -> mixF x x up f i i = (List.range (x.nn - i)).map fun t=>(x.nm (i + t),.qn ⟨kid x (i + t),kid x (i + t),up⟩):=by
 intro f
 induction f with
 | zero=>
   intro i h
   rw [show x.nn - i = 0 from by omega]
   rfl
 | succ f ih=>
   intro i h
   rw [mixF]
   by_cases hi : i < x.nn
   ·rw [if_pos (Or.inl hi),if_neg (fun z=>by
     rcases z with z | z
     ·exact z hi
     ·rw [lt_self] at z;cases z.2),if_neg (fun z=>by
     rcases z with z | z
     ·exact z hi
     ·rw [lt_self] at z;cases z)]
    rw [ih (i + 1) (by omega)]
    rw [show x.nn - i = (x.nn - (i + 1)) + 1 from by omega,List.range_succ_eq_map,List.map_cons,List.map_map]
    congr 1
    refine List.map_congr_left (fun t _=>?_)
    show _ = (x.nm (i + (t + 1)),Kq.qn ⟨kid x (i + (t + 1)),kid x (i + (t + 1)),up⟩)
    rw [show i + 1 + t = i + (t + 1) from by omega]
   ·rw [if_neg (fun z=>by rcases z with z | z <;> exact hi z),show x.nn - i = 0 from by omega]
    rfl
theorem mixAll_self {x : ND} {up : Bool} : mixAll x x up 0 0 = (List.range x.nn).map fun t=>(x.nm t,.qn ⟨kid x t,kid x t,up⟩):=by
 unfold mixAll
 rw [mixF_self _ 0 (Nat.le_refl _),Nat.sub_zero]
 refine List.map_congr_left (fun t _=>?_)
 rw [Nat.zero_add]
theorem mixQ_self {x : ND} {up : Bool} {j : Nat} (h3 : x.kind = 3 -> x.nk = x.nn) (h4 : x.kind = 4 -> x.nk = 2) (h0 : x.kind ≠ 3 -> x.kind ≠ 4 -> x.nk = 0) (hj : j < x.nk) : ∃ u,(mixQ x x up)[j]? = some (.qn ⟨kid x j,kid x j,u⟩):=by
 unfold mixQ
 rw [if_pos rfl]
 by_cases k4 : x.kind = 4
 ·rw [if_pos k4]
  have:=h4 k4
  match j,(show j < 2 by omega) with
  | 0,_=>exact ⟨_,rfl⟩
  | 1,_=>exact ⟨_,rfl⟩
 ·rw [if_neg k4]
  by_cases k3 : x.kind = 3
  ·rw [if_pos k3,mixAll_self,List.map_map]
   refine ⟨up,?_⟩
   rw [List.getElem?_map,List.getElem?_range (by have:=h3 k3;omega)]
   rfl
  ·have:=h0 k3 k4;omega
theorem mixQ_diag {x : ND} {up : Bool} {r : Qn} (h : Kq.qn r ∈ mixQ x x up) : r.a = r.b:=by
 unfold mixQ at h
 rw [if_pos rfl] at h
 by_cases k4 : x.kind = 4
 ·rw [if_pos k4] at h
  simp only [List.mem_cons,List.not_mem_nil,or_false,Kq.qn.injEq] at h
  rcases h with rfl | rfl <;> rfl
 ·rw [if_neg k4] at h
  by_cases k3 : x.kind = 3
  ·rw [if_pos k3,mixAll_self,List.map_map] at h
   obtain ⟨t,_,e⟩:=List.mem_map.1 h
   have e2 : Kq.qn ⟨kid x t,kid x t,up⟩ = Kq.qn r:=e
   simp only [Kq.qn.injEq] at e2
   rw [<- e2]
  ·rw [if_neg k3] at h;simp at h
theorem addAll_new : ∀ (ks : List Kq) (L : List Qn) (r : Qn),r ∈ addAll L ks -> r ∈ L \/ Kq.qn r ∈ ks
 | [],L,r,h=>Or.inl h
 | k :: ks,L,r,h=>by
   rcases addAll_new ks (addQ L k) r h with z | z
   ·cases k with
    | ty a=>exact Or.inl z
    | qn q=>
      have z : r ∈ (if q ∈ L then L else L ++ [q]):=z
      by_cases hm : q ∈ L
      ·rw [if_pos hm] at z;exact Or.inl z
      ·rw [if_neg hm] at z
       rcases List.mem_append.1 z with y | y
       ·exact Or.inl y
       ·rw [List.mem_singleton.1 y];exact Or.inr List.mem_cons_self
   ·exact Or.inr (List.mem_cons_of_mem _ z)
theorem qs_diag {H : Nat -> ND} {q0 : Qn} (h0 : q0.a = q0.b) : ∀ k r,r ∈ qsTill H q0 k -> r.a = r.b
 | 0,r,h=>by rw [List.mem_singleton.1 h];exact h0
 | k + 1,r,h=>by
   rw [qs_succ] at h
   have hq : (qAt H q0 k).a = (qAt H q0 k).b:=by
    unfold qAt
    by_cases hk : k < (qsTill H q0 k).length
    ·exact qs_diag h0 k _ (by rw [List.getD_eq_getElem?_getD,List.getElem?_eq_getElem hk];exact List.getElem_mem _)
    ·rw [List.getD_eq_getElem?_getD,List.getElem?_eq_none (Nat.le_of_not_lt hk)];exact h0
   rcases addAll_new _ _ r h with z | z
   ·exact qs_diag h0 k r z
   ·rw [<- hq] at z;exact mixQ_diag z
theorem made_same {n : Nat} {H : Nat -> ND} (hH : GoodH n H) (hs : ∀ t,t < n -> shp (H t) = true) {L : List Qn} {q0 : Qn} (hL : InQ n L) (hC : ClosedQ H L) (hD : ∀ r,r ∈ L -> r.a = r.b) {i : Nat} {q : Qn} (hq : L[i]? = some q) : Same (n + L.length) (mixG n H L q0) q.a (n + i):=by
 refine ⟨fun u v=>(u = v /\ u < n) \/ (∃ i q,L[i]? = some q /\ u = q.a /\ v = n + i),?_,Or.inr ⟨i,q,hq,rfl,rfl⟩⟩
 intro u v _ _ h
 rcases h with ⟨rfl,hu⟩ | ⟨i,q,hq,rfl,rfl⟩
 ·rw [mixG_lt hu]
  exact ⟨Lab.refl _,fun j hj=>Or.inl ⟨rfl,hH.kids.lt hu hj⟩⟩
 ·have hm : q ∈ L:=List.mem_of_getElem? hq
  obtain ⟨ha,_⟩:=hL q hm
  have hd:=hD q hm
  rw [mixG_at hq,mixG_lt ha]
  have pl:=plain_of (hs _ ha)
  have n3 : (H q.a).kind = 3 -> (H q.a).nk = (H q.a).nn:=hH.nk3 ha
  have n4 : (H q.a).kind = 4 -> (H q.a).nk = 2:=hH.nk4 ha
  have n0 : (H q.a).kind ≠ 3 -> (H q.a).kind ≠ 4 -> (H q.a).nk = 0:=fun k3 k4=>by have:=pl.kids;rw [if_neg k3,if_neg k4] at this;exact this
  have eQ : mixQ (H q.a) (H q.b) q.up = mixQ (H q.a) (H q.a) q.up:=by rw [hd]
  have lk : (mixD n H L q).nk = (H q.a).nk:=by
   show (mixQ (H q.a) (H q.b) q.up).length = _
   rw [eQ]
   unfold mixQ
   rw [if_pos rfl]
   by_cases k4 : (H q.a).kind = 4
   ·rw [if_pos k4,n4 k4];rfl
   ·rw [if_neg k4]
    by_cases k3 : (H q.a).kind = 3
    ·rw [if_pos k3,mixAll_self,List.length_map,List.length_map,List.length_range,n3 k3]
    ·rw [if_neg k3,n0 k3 k4];rfl
  have eN : mixN (H q.a) (H q.b) q.up = (List.range (H q.a).nn).map (H q.a).nm:=by
   rw [<- hd]
   unfold mixN
   by_cases k3 : (H q.a).kind = 3
   ·rw [if_pos ⟨rfl,k3⟩,mixAll_self,List.map_map];rfl
   ·rw [if_neg (fun z=>k3 z.2),pl.bare k3];rfl
  refine ⟨⟨?_,?_,fun j hj=>?_,lk.symm⟩,fun j hj=>?_⟩
  ·show (H q.a).kind = mixK (H q.a) (H q.b)
   rw [<- hd];unfold mixK;rw [if_pos rfl]
  ·show (H q.a).nn = (mixN (H q.a) (H q.b) q.up).length
   rw [eN,List.length_map,List.length_range]
  ·show (H q.a).nm j = (mixN (H q.a) (H q.b) q.up).getD j ByteArray.empty
   rw [eN,List.getD_eq_getElem?_getD,List.getElem?_map,List.getElem?_range hj]
   rfl
  ·obtain ⟨u,hu⟩:=mixQ_self (up:=q.up) n3 n4 n0 hj
   rw [<- eQ] at hu
   rw [mixD_kid hu]
   obtain ⟨i1,l1,e1⟩:=numK_at (n:=n) (hC q hm _ (List.mem_of_getElem? hu))
   rw [e1]
   exact Or.inr ⟨i1,_,l1,rfl,rfl⟩
def Alk (G G' : Nat -> ND) (Z : Nat -> Nat -> Prop) : Prop:=∀ a u,Z a u -> Plain (G a) /\ Lab (G a) (G' u) /\ ∀ j,j < (G a).nk -> Z (kid (G a) j) (kid (G' u) j)
theorem sub_via {G G' : Nat -> ND} {Z : Nat -> Nat -> Prop} (hZ : Alk G G' Z) {R : Nat -> Nat -> Prop} (hR : SubS G' R) : SubS G (fun a b=>∃ u v,Z a u /\ Z b v /\ R u v):=by
 rintro a b ⟨u,v,hu,hv,h⟩
 obtain ⟨pa,la,ka⟩:=hZ a u hu
 obtain ⟨pb,lb,kb⟩:=hZ b v hv
 obtain ⟨hc,hd⟩:=hR u v h
 have hc2 : Can (G a) (G b):=(can_lab la lb).2 hc
 refine ⟨hc2,fun q hq=>?_⟩
 have hlt:=dem_lt pa pb hc2 hq
 rw [dem_lab la lb] at hq
 have h9:=hd q hq
 have z1:=ka q.2.1 hlt.1
 have z2:=kb q.2.2 hlt.2
 unfold atP at h9 ⊢
 by_cases e : q.1 = true
 ·rw [if_pos e] at h9 ⊢
  exact ⟨_,_,z2,z1,h9⟩
 ·rw [if_neg e] at h9 ⊢
  exact ⟨_,_,z1,z2,h9⟩
theorem sub_alk {G G' : Nat -> ND} {Z : Nat -> Nat -> Prop} (hZ : Alk G G' Z) {a b u v : Nat} (ha : Z a u) (hb : Z b v) (h : SubP G' u v) : SubP G a b:=by
 obtain ⟨R,hR,hr⟩:=h
 exact ⟨_,sub_via hZ hR,u,v,ha,hb,hr⟩
theorem same_alk {N N' : Nat} {G G' : Nat -> ND} {Z : Nat -> Nat -> Prop} (hZ : Alk G G' Z) (hN : ∀ a u,Z a u -> a < N /\ u < N') {a b u v : Nat} (ha : Z a u) (hb : Z b v) (h : Same N' G' u v) : Same N G a b:=by
 obtain ⟨R,hR,hr⟩:=h
 refine ⟨fun a b=>∃ u v,Z a u /\ Z b v /\ R u v,?_,u,v,ha,hb,hr⟩
 rintro a b _ _ ⟨u,v,hu,hv,h⟩
 obtain ⟨_,la,ka⟩:=hZ a u hu
 obtain ⟨_,lb,kb⟩:=hZ b v hv
 obtain ⟨l,k⟩:=hR u v (hN a u hu).2 (hN b v hv).2 h
 refine ⟨(la.trans l).trans lb.symm,fun j hj=>?_⟩
 have j2 : j < (G' u).nk:=by rw [<- la.nk];exact hj
 have j3 : j < (G b).nk:=by rw [lb.nk,<- l.nk];exact j2
 exact ⟨_,_,ka j hj,kb j j3,k j j2⟩
theorem join_above {n : Nat} {H : Nat -> ND} (hH : GoodH n H) (hs : ∀ t,t < n -> Srt (H t)) {L : List Qn} {q0 : Qn} (hL : InQ n L) (hC : ClosedQ H L) (h0 : L[0]? = some q0) : (q0.up = true -> SubP (mixG n H L q0) q0.a n /\ SubP (mixG n H L q0) q0.b n) /\ (q0.up = false -> SubP (mixG n H L q0) n q0.a /\ SubP (mixG n H L q0) n q0.b):=by
 have S:=rj_sub (q0:=q0) hH hs hL hC
 refine ⟨fun h=>⟨⟨_,S,Or.inl ⟨0,q0,h0,h,rfl,Or.inl rfl⟩⟩,⟨_,S,Or.inl ⟨0,q0,h0,h,rfl,Or.inr rfl⟩⟩⟩,fun h=>⟨⟨_,S,Or.inr (Or.inl ⟨0,q0,h0,h,rfl,Or.inl rfl⟩)⟩,⟨_,S,Or.inr (Or.inl ⟨0,q0,h0,h,rfl,Or.inr rfl⟩)⟩⟩⟩
end Go.Proofs.YtpbpbppimkeodaaGreatDoor
