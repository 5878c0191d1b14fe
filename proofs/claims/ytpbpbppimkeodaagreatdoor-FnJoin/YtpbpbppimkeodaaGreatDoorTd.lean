/-
  SubDone SubF2
-/
import Derived.Test.YtpbpbppimkeodaaGreatDoorSr
set_option maxRecDepth 100000
namespace Go.Proofs.YtpbpbppimkeodaaGreatDoor
theorem SubP.can {G : Nat -> ND} {a b : Nat} (h : SubP G a b) : Can (G a) (G b):=by
 obtain ⟨R,hR,hr⟩:=h
 exact (hR a b hr).1
theorem SubP.dem {G : Nat -> ND} {a b : Nat} (h : SubP G a b) {q : Bool × Nat × Nat} (hq : q ∈ demP (G a) (G b)) : SubP G (atP (G a) (G b) q).1 (atP (G a) (G b) q).2:=by
 obtain ⟨R,hR,hr⟩:=h
 exact ⟨R,hR,(hR a b hr).2 q hq⟩
theorem posOf_self {d : ND} (h : Srt d) {i : Nat} (hi : i < d.nn) : posOf d (d.nm i) = i:=posOf_eq hi rfl (fun k hk=>lt_ne (h k i hk hi))
theorem dem_self {d : ND} (h : Srt d) {q : Bool × Nat × Nat} (hq : q ∈ demP d d) : (atP d d q).1 = (atP d d q).2:=by
 unfold demP at hq
 by_cases h0 : d.kind = 0 \/ d.kind = 0
 ·rw [if_pos h0] at hq;cases hq
 ·rw [if_neg h0] at hq
  by_cases h4 : d.kind = 4
  ·rw [if_pos h4] at hq
   simp only [List.mem_cons,List.not_mem_nil,or_false] at hq
   rcases hq with rfl | rfl <;> rfl
  ·rw [if_neg h4] at hq
   obtain ⟨i,hi,rfl⟩:=List.mem_map.1 hq
   show kid d (posOf d (d.nm i)) = kid d i
   rw [posOf_self h (List.mem_range.1 hi)]
theorem sub_done {N : Nat} {G : Nat -> ND} {ord : List (Nat × Nat)} (hK : Kids N G) (hP : ∀ x,x < N -> Plain (G x)) (hS : ∀ x,x < N -> Srt (G x)) (hl : ∀ q,q ∈ ord -> q.1 < N /\ q.2 < N)
  (hs : ∀ q,q ∈ ord -> q.1 = q.2 \/ (Can (G q.1) (G q.2) /\ ∀ d,d ∈ demP (G q.1) (G q.2) -> atP (G q.1) (G q.2) d ∈ ord)) : ∀ q,q ∈ ord -> SubP G q.1 q.2:=by
 have key : SubS G (fun x y=>(x,y) ∈ ord \/ (x = y /\ x < N)):=by
  have self : ∀ x,x < N -> Can (G x) (G x) /\ ∀ q,q ∈ demP (G x) (G x) -> (atP (G x) (G x) q).1 = (atP (G x) (G x) q).2 /\ (atP (G x) (G x) q).1 < N:=fun x hx=>by
   refine ⟨can_refl _,fun q hq=>⟨dem_self (hS x hx) hq,?_⟩⟩
   obtain ⟨q1,q2⟩:=dem_lt (hP x hx) (hP x hx) (can_refl _) hq
   unfold atP
   split
   ·exact hK.lt hx q2
   ·exact hK.lt hx q1
  intro x y h
  rcases h with h | ⟨rfl,hx⟩
  ·rcases hs _ h with e | ⟨c,d⟩
   ·have e' : x = y:=e
    subst e'
    obtain ⟨c,d⟩:=self x (hl _ h).1
    exact ⟨c,fun q hq=>Or.inr (d q hq)⟩
   ·exact ⟨c,fun q hq=>Or.inl (d q hq)⟩
  ·obtain ⟨c,d⟩:=self x hx
   exact ⟨c,fun q hq=>Or.inr (d q hq)⟩
 exact fun q hq=>⟨_,key,Or.inl hq⟩
def Forced (G : Nat -> ND) (a b : Nat) (ord : List (Nat × Nat)) : Prop:=SubP G a b -> ∀ q,q ∈ ord -> SubP G q.1 q.2
theorem forced_start (G : Nat -> ND) (a b : Nat) : Forced G a b [(a,b)]:=fun h q hq=>by
 have : q = (a,b):=by simpa using hq
 subst this;exact h
theorem forced_no {G : Nat -> ND} {a b : Nat} {ord : List (Nat × Nat)} (h : Forced G a b ord) {q : Nat × Nat} (hq : q ∈ ord) (hc : ¬ Can (G q.1) (G q.2)) : ¬ SubP G a b:=fun hs=>hc (h hs q hq).can
end Go.Proofs.YtpbpbppimkeodaaGreatDoor
namespace Go.Proofs.YtpbpbppimkeodaaGreatDoor
open Go.RowKit Go.Maps
structure FieldsPost (x y : ND) (ord : List (Nat × Nat)) (kb mb : Nat) (keep : Nat -> Prop) (w : World) (r : Bool) (w' : World) : Prop where
 kn : ∃ ov' D' ord',Kn w' kb mb ov' D' ord' keep /\ (r = true -> ord' = fieldsTill x y ord y.nn)
 kept : Kept keep w w'
 yes : r = true -> ∀ i,i < y.nn -> posOf x (y.nm i) < x.nn
 no : r = false -> ∃ i,i < y.nn /\ ¬ posOf x (y.nm i) < x.nn
def FieldsEnd (x y : ND) (ord : List (Nat × Nat)) (kb mb : Nat) (keep : Nat -> Prop) (w : World) (e : Ending) (w' : World) : Prop:=∃ r,e = .returned (.bool r) /\ FieldsPost x y ord kb mb keep w r w'
set_option maxHeartbeats 4000000 in
theorem c47 (px py : NP) (x y : ND) (kb mb : Nat) (ov : Value) (D : DataW Unit) (ord : List (Nat × Nat)) (keep : Nat -> Prop) (w : World) (h : Kn w kb mb ov D ord keep) (hS : Srt x) (hT : Srt y) (hxk : x.nk = x.nn) (hyk : y.nk = y.nn)
  (hx : ∀ j,j < x.nk -> 0 <= x.kd j /\ x.kd j < 4611686018427387904) (hy : ∀ j,j < y.nk -> 0 <= y.kd j /\ y.kd j < 4611686018427387904) (hn : ∀ w',Kept keep w w' -> NodeAt w' px x /\ NodeAt w' py y) (ho : ord.length + y.nn <= 100000000) :
  Calls Tryz.prog 95 #[ndv px x,ndv py y,.pointer (some ⟨kb,0,none⟩)] w (FieldsEnd x y ord kb mb keep w):=by
 obtain ⟨xa,xb,xo,xc,xa2,xb2,xo2,xc2⟩:=px
 obtain ⟨ya,yb,yo,yc,ya2,yb2,yo2,yc2⟩:=py
 have HXK : Hid (x.nk = x.nn):=hxk
 have HYK : Hid (y.nk = y.nn):=hyk
 have HX : Hid (∀ j,j < x.nk -> 0 <= x.kd j /\ x.kd j < 4611686018427387904):=hx
 have HY : Hid (∀ j,j < y.nk -> 0 <= y.kd j /\ y.kd j < 4611686018427387904):=hy
 have HS : Hid (Srt x):=hS
 have HT : Hid (Srt y):=hT
 obtain ⟨W0,hW0⟩ : ∃ W0,W0 = (w.alloc (.cells #[.int .i64 x.kind,.slice xa x.nn xc,.slice xa2 x.nk xc2] 48)).alloc (.cells #[.int .i64 y.kind,.slice ya y.nn yc,.slice ya2 y.nk yc2] 48):=⟨_,rfl⟩
 have HK0 : Hid (Kn W0 kb mb ov D ord (fun k=>(keep k \/ k = w.heap.size) \/ k = w.heap.size + 1)):=by
  have z:=(h.box (.cells #[.int .i64 x.kind,.slice xa x.nn xc,.slice xa2 x.nk xc2] 48)).box (.cells #[.int .i64 y.kind,.slice ya y.nn yc,.slice ya2 y.nk yc2] 48)
  rw [World.size_alloc,<- hW0] at z;exact z
 have HKW : Hid (Kept keep w W0):=by
  rw [hW0]
  exact ⟨rfl,rfl,rfl,by simp;omega,fun k hk=>(Below.heap_alloc _ _ _ (by have:=(h.far k hk).1;simp;omega)).trans (Below.heap_alloc _ _ _ (h.far k hk).1)⟩
 have HN : Hid (∀ w',Kept (fun k=>(keep k \/ k = w.heap.size) \/ k = w.heap.size + 1) W0 w' -> NodeAt w' ⟨xa,xb,xo,xc,xa2,xb2,xo2,xc2⟩ x /\ NodeAt w' ⟨ya,yb,yo,yc,ya2,yb2,yo2,yc2⟩ y):=fun w' hk=>hn w' (HKW.out.trans ⟨hk.os,hk.tape,hk.output,hk.size,fun k c=>hk.block k (Or.inl (Or.inl c))⟩)
 have RX:=(row3 w (.int .i64 x.kind) (.slice xa x.nn xc) (.slice xa2 x.nk xc2) 48).alloc (.cells #[.int .i64 y.kind,.slice ya y.nn yc,.slice ya2 y.nk yc2] 48)
 have RY:=row3 (w.alloc (.cells #[.int .i64 x.kind,.slice xa x.nn xc,.slice xa2 x.nk xc2] 48)) (.int .i64 y.kind) (.slice ya y.nn yc) (.slice ya2 y.nk yc2) 48
 rw [World.size_alloc,<- hW0] at RY
 rw [<- hW0] at RX
 have HRX : Hid (∀ w',Kept (fun k=>(keep k \/ k = w.heap.size) \/ k = w.heap.size + 1) W0 w' -> w'.cell? ⟨w.heap.size,1,none⟩ = some (.slice xa x.nn xc) /\ w'.cell? ⟨w.heap.size,2,none⟩ = some (.slice xa2 x.nk xc2) /\ w'.cell? ⟨w.heap.size + 1,2,none⟩ = some (.slice ya2 y.nk yc2)):=fun w' hk=>
  ⟨(RX.of_block (hk.block _ (Or.inl (Or.inr rfl)))).cell (i:=1) (by omega),(RX.of_block (hk.block _ (Or.inl (Or.inr rfl)))).cell (i:=2) (by omega),(RY.of_block (hk.block _ (Or.inr rfl))).cell (i:=2) (by omega)⟩
 have hxl:=(hn W0 HKW.out).1.names.len
 have hyl:=(hn W0 HKW.out).2.names.len
 clear h hn hxk hyk hx hy hS hT RX RY
 show Calls Tryz.prog 95 #[.agg #[.int .i64 x.kind,.slice xa x.nn xc,.slice xa2 x.nk xc2],.agg #[.int .i64 y.kind,.slice ya y.nn yc,.slice ya2 y.nk yc2],.pointer (some ⟨kb,0,none⟩)] w _
 go_enter Tryz.func95,Tryz.ntmps95
 go_wp2
 rw [<- hW0]
 clear hW0
 go_loopw [7,13] (fun s7 s13 wr=>∃ (i j : Nat) (ov' : Value) (D' : DataW Unit),i <= x.nn /\ j <= y.nn /\ s7 = .int .i64 i /\ s13 = .int .i64 j /\ Hid (Kn wr kb mb ov' D' (fieldsTill x y ord j) (fun k=>(keep k \/ k = w.heap.size) \/ k = w.heap.size + 1)) /\ Hid (Kept (fun k=>(keep k \/ k = w.heap.size) \/ k = w.heap.size + 1) W0 wr) /\ Hid (∀ k,k < i -> ∀ j',j <= j' -> j' < y.nn -> lt (x.nm k) (y.nm j') = true) /\ Hid (∀ i',i' < j -> posOf x (y.nm i') < x.nn)) (fun _ s13 _=>y.nn - (intOf s13).toNat)
 case atStart=>exact ⟨0,0,ov,D,Nat.zero_le _,Nat.zero_le _,rfl,rfl,HK0,Kept.refl _ _,fun k hk=>absurd hk (Nat.not_lt_zero _),fun k hk=>absurd hk (Nat.not_lt_zero _)⟩
 case round=>
  obtain ⟨i,j,ov',D',hi,hj,rfl,rfl,HK,HKP,HLE,HPO⟩:=hrel
  by_cases hlt : j < y.nn
  ·have NY:=(HN.out _ HKP.out).2
   have ey : ya = some ⟨yb,yo,none⟩:=NY.names.at_ (by omega)
   have yn : wr.cell? ⟨yb,yo + j,none⟩ = some (.string (y.nm j)):=NY.names.cell j hlt
   subst ey
   obtain ⟨c1,c2,c3⟩:=HRX.out _ HKP.out
   clear NY
   have HKD : Hid (∀ q,Kept (fun k=>(keep k \/ k = w.heap.size) \/ k = w.heap.size + 1) W0 (wr.drewN q) /\ Kn (wr.drewN q) kb mb ov' D' (fieldsTill x y ord j) (fun k=>(keep k \/ k = w.heap.size) \/ k = w.heap.size + 1)):=fun q=>⟨HKP.out.drewN q,⟨HK.out.row,HK.out.mlt,HK.out.map,HK.out.has,HK.out.own,HK.out.far⟩⟩
   have HFL : Hid (∀ q,FieldsPost x y ord kb mb keep w false (wr.drewN q) \/ posOf x (y.nm j) < x.nn):=fun q=>by
    by_cases c : posOf x (y.nm j) < x.nn
    ·exact Or.inr c
    ·refine Or.inl ⟨⟨ov',D',_,⟨HK.out.row,HK.out.mlt,HK.out.map,HK.out.has,HK.out.own,fun k hk=>HK.out.far k (Or.inl (Or.inl hk))⟩,fun e=>(by cases e)⟩,HKW.out.trans ⟨HKP.out.os,HKP.out.tape,HKP.out.output,HKP.out.size,fun k hk=>HKP.out.block k (Or.inl (Or.inl hk))⟩,fun e=>(by cases e),fun _=>⟨j,hlt,c⟩⟩
   go_wp2
   go_loopw [7] (fun s7 wx=>∃ (i2 m : Nat),i2 <= x.nn /\ s7 = .int .i64 i2 /\ wx = wr.drewN m /\ Hid (∀ k,k < i2 -> ∀ j',j <= j' -> j' < y.nn -> lt (x.nm k) (y.nm j') = true)) (fun s7 _=>x.nn - (intOf s7).toNat)
   case atStart=>exact ⟨i,0,hi,rfl,rfl,HLE⟩
   case round=>
    obtain ⟨i2,m,hi2,rfl,hwx,HL2⟩:=hrel
    subst hwx
    have d1 : (wr.drewN m).drew.cell? ⟨w.heap.size,1,none⟩ = some (.slice xa x.nn xc):=c1
    have d1' : (wr.drewN (m + 1)).drew.cell? ⟨w.heap.size,1,none⟩ = some (.slice xa x.nn xc):=c1
    by_cases h2 : i2 < x.nn
    ·have NX:=(HN.out _ HKP.out).1
     have ex : xa = some ⟨xb,xo,none⟩:=NX.names.at_ (by omega)
     have xn : wr.cell? ⟨xb,xo + i2,none⟩ = some (.string (x.nm i2)):=NX.names.cell i2 h2
     subst ex
     have xd : (wr.drewN m).drew.cell? ⟨xb,xo + i2,none⟩ = some (.string (x.nm i2)):=xn
     have xd' : (wr.drewN (m + 1)).drew.cell? ⟨xb,xo + i2,none⟩ = some (.string (x.nm i2)):=xn
     have h2i : (i2 : Int) < (x.nn : Int):=by omega
     clear NX
     cases hl : lt (x.nm i2) (y.nm j) with
     | true=>
       have hl' : Op.bytesLess (x.nm i2).toList (y.nm j).toList = true:=hl
       have HL3 : Hid (∀ k,k < i2 + 1 -> ∀ j',j <= j' -> j' < y.nn -> lt (x.nm k) (y.nm j') = true):=fun k hk j' h3 h4=>by
        by_cases e : k = i2
        ·subst e
         by_cases e2 : j' = j
         ·subst e2;exact hl
         ·exact lt_trans' hl (HT.out j j' (by omega) h4)
        ·exact HL2.out k (by omega) j' h3 h4
       clear hl
       go_wp2
       go_roundw
       case rel=>exact ⟨i2 + 1,_,by omega,by go_num,rfl,HL3⟩
       case measure=>simp [intOf];omega
     | false=>
       have hl' : Op.bytesLess (x.nm i2).toList (y.nm j).toList = false:=hl
       by_cases he : x.nm i2 = y.nm j
       ·have HPS : Hid (posOf x (y.nm j) = i2):=pos_here (fun k hk=>HL2.out k hk j (Nat.le_refl _) hlt) h2 he
        have be : ((x.nm i2).toList == (y.nm j).toList) = true:=by rw [he];simp
        have h2e : ((i2 : Int) == (x.nn : Int)) = false:=beq_eq_false_iff_ne.2 (by omega)
        clear hl he
        obtain ⟨NX2,NY2⟩:=HN.out _ (HKD.out (m + 1)).1
        have hi2k : i2 < x.nk:=by rw [HXK.out];exact h2
        have hjk : j < y.nk:=by rw [HYK.out];exact hlt
        have e2 : xa2 = some ⟨xb2,xo2,none⟩:=NX2.kids.at_ (by omega)
        have e3 : ya2 = some ⟨yb2,yo2,none⟩:=NY2.kids.at_ (by omega)
        have xk : (wr.drewN (m + 1)).cell? ⟨xb2,xo2 + i2,none⟩ = some (.int .i64 (x.kd i2)):=NX2.kids.cell i2 hi2k
        have yk : (wr.drewN (m + 1)).cell? ⟨yb2,yo2 + j,none⟩ = some (.int .i64 (y.kd j)):=NY2.kids.cell j hjk
        subst e2
        subst e3
        have exk : x.kd i2 = (kid x i2 : Int):=by have:=HX.out i2 hi2k;unfold kid;omega
        have eyk : y.kd j = (kid y j : Int):=by have:=HY.out j hjk;unfold kid;omega
        rw [exk] at xk
        rw [eyk] at yk
        have hkx : kid x i2 < 4611686018427387904:=by have:=HX.out i2 hi2k;omega
        have hky : kid y j < 4611686018427387904:=by have:=HY.out j hjk;omega
        have k2 : (wr.drewN (m + 1)).cell? ⟨w.heap.size,2,none⟩ = some (.slice (some ⟨xb2,xo2,none⟩) x.nk xc2):=c2
        have k3 : (wr.drewN (m + 1)).cell? ⟨w.heap.size + 1,2,none⟩ = some (.slice (some ⟨yb2,yo2,none⟩) y.nk yc2):=c3
        have hi2i : (i2 : Int) < (x.nk : Int):=by omega
        have hji : (j : Int) < (y.nk : Int):=by omega
        have C46:=c46 kb mb ov' D' (fieldsTill x y ord j) (fun k=>(keep k \/ k = w.heap.size) \/ k = w.heap.size + 1) (kid x i2) (kid y j) (wr.drewN (m + 1)) (HKD.out (m + 1)).2 hkx hky (by have:=fields_len x y ord j;omega)
        have HEN : Hid (∀ w5,Kept (fun k=>(keep k \/ k = w.heap.size) \/ k = w.heap.size + 1) (wr.drewN (m + 1)) w5 -> w5.cell? ⟨w.heap.size,2,none⟩ = some (.slice (some ⟨xb2,xo2,none⟩) x.nk xc2) /\ w5.cell? ⟨w.heap.size + 1,2,none⟩ = some (.slice (some ⟨yb2,yo2,none⟩) y.nk yc2) /\ w5.cell? ⟨xb2,xo2 + i2,none⟩ = some (.int .i64 (kid x i2 : Int)) /\ w5.cell? ⟨yb2,yo2 + j,none⟩ = some (.int .i64 (kid y j : Int))):=fun w5 hp5=>by
         have KQ:=(HKD.out (m + 1)).1.trans hp5
         obtain ⟨NX5,NY5⟩:=HN.out _ KQ
         obtain ⟨_,r2,r3⟩:=HRX.out _ KQ
         have z1 : w5.cell? ⟨xb2,xo2 + i2,none⟩ = some (.int .i64 (x.kd i2)):=NX5.kids.cell i2 hi2k
         have z2 : w5.cell? ⟨yb2,yo2 + j,none⟩ = some (.int .i64 (y.kd j)):=NY5.kids.cell j hjk
         rw [exk] at z1
         rw [eyk] at z2
         exact ⟨r2,r3,z1,z2⟩
        clear NX2 NY2 exk eyk
        go_wp2
        go_region_held3 (fun w'=>w'.cell? ⟨w.heap.size,2,none⟩ = some (.slice (some ⟨xb2,xo2,none⟩) x.nk xc2) /\ w'.cell? ⟨w.heap.size + 1,2,none⟩ = some (.slice (some ⟨yb2,yo2,none⟩) y.nk yc2) /\ w'.cell? ⟨xb2,xo2 + i2,none⟩ = some (.int .i64 (kid x i2 : Int)) /\ w'.cell? ⟨yb2,yo2 + j,none⟩ = some (.int .i64 (kid y j : Int))) (go_keep)
         (first | (go_at_call 71;refine C46.mono ?_;rintro e w5 ⟨v5,ov5,D5,rfl,hk5,hp5⟩;obtain ⟨z1,z2,z3,z4⟩:=HEN.out w5 hp5))
        all_goals
         have HK5 : Hid (Kn w5 kb mb ov5 D5 (fieldsTill x y ord (j + 1)) (fun k=>(keep k \/ k = w.heap.size) \/ k = w.heap.size + 1)):=by
          show Kn w5 kb mb ov5 D5 (addP (fieldsTill x y ord j) (kid x (posOf x (y.nm j)),kid y j)) _
          rw [HPS.out];exact hk5
         have HKP5 : Hid (Kept (fun k=>(keep k \/ k = w.heap.size) \/ k = w.heap.size + 1) W0 w5):=(HKD.out (m + 1)).1.trans hp5
         have HPO5 : Hid (∀ i',i' < j + 1 -> posOf x (y.nm i') < x.nn):=fun i' hi'=>by
          by_cases e : i' = j
          ·subst e;rw [HPS.out];exact h2
          ·exact HPO.out i' (by omega)
         have HLE5 : Hid (∀ k,k < i2 -> ∀ j',j + 1 <= j' -> j' < y.nn -> lt (x.nm k) (y.nm j') = true):=fun k hk j' h3 h4=>HL2.out k hk j' (by omega) h4
         clear hk5 hp5 C46 xk yk k2 k3
         go_wp2
         go_roundw
         case rel=>exact ⟨i2,j + 1,ov5,D5,by omega,by omega,rfl,by go_num,HK5,HKP5,HLE5,HPO5⟩
         case measure=>simp [intOf];omega
       ·have HPS : Hid (¬ posOf x (y.nm j) < x.nn):=pos_not HS.out h2 (fun k hk=>HL2.out k hk j (Nat.le_refl _) hlt) hl he
        have be : ((x.nm i2).toList == (y.nm j).toList) = false:=by
         rw [beq_eq_false_iff_ne,ByteArray.toList_eq,ByteArray.toList_eq]
         exact fun e=>he (Go.WideShapes.bytes_inj e)
        have h2e : ((i2 : Int) == (x.nn : Int)) = false:=beq_eq_false_iff_ne.2 (by omega)
        clear hl he
        go_wp2
        go_ret
        exact ⟨false,rfl,(HFL.out _).resolve_right HPS.out⟩
    ·have HPS : Hid (¬ posOf x (y.nm j) < x.nn):=pos_end (fun k hk=>HL2.out k (by omega) j (Nat.le_refl _) hlt)
     have h2i : ¬ (i2 : Int) < (x.nn : Int):=by omega
     have h2e : ((i2 : Int) == (x.nn : Int)) = true:=by rw [beq_iff_eq];omega
     go_wp2
     go_ret
     exact ⟨false,rfl,(HFL.out _).resolve_right HPS.out⟩
  ·have hje : j = y.nn:=by omega
   have FH : Hid (FieldsPost x y ord kb mb keep w true wr):=by
    refine ⟨⟨ov',D',_,⟨HK.out.row,HK.out.mlt,HK.out.map,HK.out.has,HK.out.own,fun k hk=>HK.out.far k (Or.inl (Or.inl hk))⟩,fun _=>by rw [hje]⟩,HKW.out.trans ⟨HKP.out.os,HKP.out.tape,HKP.out.output,HKP.out.size,fun k hk=>HKP.out.block k (Or.inl (Or.inl hk))⟩,fun _=>by rw [<- hje];exact HPO.out,fun e=>by cases e⟩
   clear HK HKP
   go_wp2
   go_ret
   exact ⟨true,rfl,FH.out⟩
end Go.Proofs.YtpbpbppimkeodaaGreatDoor
