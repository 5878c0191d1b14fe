/-
  SubStep
-/
import Derived.Test.YtpbpbppimkeodaaGreatDoorTd
import Derived.Deep.DeepCutAuto
set_option maxRecDepth 100000
namespace Go.Proofs.YtpbpbppimkeodaaGreatDoor
open Go.RowKit Go.Maps
structure StepOut (G : Nat -> ND) (a b : Nat) (ord : List (Nat × Nat)) (kb mb : Nat) (keep : Nat -> Prop) (w : World) (r : Bool) (w' : World) : Prop where
 kn : ∃ ov' D' ord',Kn w' kb mb ov' D' ord' keep /\ (r = true -> (∃ t,ord' = ord ++ t) /\ (a = b \/ (Can (G a) (G b) /\ ∀ d,d ∈ demP (G a) (G b) -> atP (G a) (G b) d ∈ ord')) /\ (∀ q,q ∈ ord' -> q ∈ ord \/ ∃ d,d ∈ demP (G a) (G b) /\ q = atP (G a) (G b) d) /\ (ord.Nodup -> ord'.Nodup))
 kept : Kept keep w w'
 no : r = false -> ¬ Can (G a) (G b)
def StepEnd (G : Nat -> ND) (a b : Nat) (ord : List (Nat × Nat)) (kb mb : Nat) (keep : Nat -> Prop) (w : World) (e : Ending) (w' : World) : Prop:=∃ r,e = .returned (.bool r) /\ StepOut G a b ord kb mb keep w r w'
theorem Kn.below {w w' : World} {kb mb : Nat} {ov : Value} {D : DataW Unit} {ord : List (Nat × Nat)} {keep : Nat -> Prop} (h : Kn w kb mb ov D ord keep) (hb : Below w.heap.size w w') : Kn w' kb mb ov D ord keep:=by
 refine ⟨h.row.of_block (hb.block _ h.row.lt),h.mlt,?_,h.has,own_block h.own (fun k e=>hb.block k (h.own.lt k e.symm).2),fun k hk=>?_⟩
 ·have hlt:=h.map.lt
  obtain ⟨es,c,h1,h2⟩:=h.map
  exact ⟨es,c,(hb.block _ hlt).trans h1,h2⟩
 ·obtain ⟨f1,f2⟩:=h.far k hk
  exact ⟨Nat.lt_of_lt_of_le f1 hb.size,f2⟩
theorem two_rows (w : World) (x0 x1 x2 y0 y1 y2 : Value) (t : TypeId) : ((w.alloc (.cells #[x0,x1,x2] t)).alloc (.cells #[y0,y1,y2] t)).rowIs w.heap.size t 3 (v3 x0 x1 x2) /\ ((w.alloc (.cells #[x0,x1,x2] t)).alloc (.cells #[y0,y1,y2] t)).rowIs (w.heap.size + 1) t 3 (v3 y0 y1 y2):=by
 have R:=row3 (w.alloc (.cells #[x0,x1,x2] t)) y0 y1 y2 t
 rw [World.size_alloc] at R
 exact ⟨(row3 w x0 x1 x2 t).alloc _,R⟩
theorem demP_none {d e : ND} (h : d.kind = 0 \/ e.kind = 0) : demP d e = []:=by unfold demP;rw [if_pos h]
theorem fields_pre (x y : ND) (ord : List (Nat × Nat)) : ∀ j,∃ t,fieldsTill x y ord j = ord ++ t
 | 0=>⟨[],by simp [fieldsTill]⟩
 | j + 1=>by
   obtain ⟨t,e⟩:=fields_pre x y ord j
   unfold fieldsTill addP
   split
   ·exact ⟨t,e⟩
   ·exact ⟨t ++ [_],by rw [e,List.append_assoc]⟩
theorem fields_mem {x y : ND} {ord : List (Nat × Nat)} : ∀ {j : Nat} {q : Nat × Nat},q ∈ fieldsTill x y ord j ↔ q ∈ ord \/ ∃ i,i < j /\ q = (kid x (posOf x (y.nm i)),kid y i)
 | 0,q=>by simp [fieldsTill]
 | j + 1,q=>by
   show q ∈ addP (fieldsTill x y ord j) _ ↔ _
   rw [mem_addP,fields_mem (j:=j)]
   constructor
   ·rintro ((h | ⟨i,hi,e⟩) | h)
    ·exact Or.inl h
    ·exact Or.inr ⟨i,by omega,e⟩
    ·exact Or.inr ⟨j,by omega,h⟩
   ·rintro (h | ⟨i,hi,e⟩)
    ·exact Or.inl (Or.inl h)
    ·by_cases c : i = j
     ·subst c;exact Or.inr e
     ·exact Or.inl (Or.inr ⟨i,by omega,e⟩)
theorem fields_nodup {x y : ND} {ord : List (Nat × Nat)} (h : ord.Nodup) : ∀ j,(fieldsTill x y ord j).Nodup
 | 0=>h
 | j + 1=>addP_nodup (fields_nodup h j)
theorem demP_rec {d e : ND} (hd : d.kind = 3) (he : e.kind = 3) : demP d e = (List.range e.nn).map fun i=>(false,posOf d (e.nm i),i):=by
 unfold demP
 rw [if_neg (by omega),if_neg (by omega)]
theorem fields_step {G : Nat -> ND} {a b : Nat} {ord : List (Nat × Nat)} {kb mb : Nat} {keep : Nat -> Prop} {w wc w5 : World} {r : Bool} (h : FieldsPost (G a) (G b) ord kb mb keep wc r w5) (hk : Kept keep w wc) (h3 : (G a).kind = 3) (h4 : (G b).kind = 3) : StepOut G a b ord kb mb keep w r w5:=by
 obtain ⟨ov',D',ord',K,E⟩:=h.kn
 refine ⟨⟨ov',D',ord',K,fun hr=>?_⟩,hk.trans h.kept,fun hr c=>?_⟩
 ·rw [E hr,demP_rec h3 h4]
  refine ⟨fields_pre _ _ _ _,Or.inr ⟨Or.inr (Or.inr ⟨h3.trans h4.symm,Or.inr (h.yes hr)⟩),fun d hd=>?_⟩,fun q hq=>?_,fun hn=>fields_nodup hn _⟩
  ·obtain ⟨i,hi,rfl⟩:=List.mem_map.1 hd
   exact fields_mem.2 (Or.inr ⟨i,List.mem_range.1 hi,rfl⟩)
  ·rcases fields_mem.1 hq with c | ⟨i,hi,e⟩
   ·exact Or.inl c
   ·exact Or.inr ⟨_,List.mem_map.2 ⟨i,List.mem_range.2 hi,rfl⟩,e⟩
 ·obtain ⟨i,hi,hn⟩:=h.no hr
  rcases c with c | c | ⟨_,c | c⟩
  ·omega
  ·omega
  ·omega
  ·exact hn (c i hi)
theorem demP_fun {d e : ND} (hd : d.kind = 4) (he : e.kind = 4) : demP d e = [(true,0,0),(false,1,1)]:=by
 unfold demP
 rw [if_neg (by omega),if_pos hd]
theorem addP_pre (ord : List (Nat × Nat)) (q : Nat × Nat) : ∃ t,addP ord q = ord ++ t:=by
 unfold addP
 split
 ·exact ⟨[],by simp⟩
 ·exact ⟨[q],rfl⟩
theorem addP_len (ord : List (Nat × Nat)) (q : Nat × Nat) : (addP ord q).length <= ord.length + 1:=by
 unfold addP
 split
 ·omega
 ·simp
set_option maxHeartbeats 4000000 in
theorem w45 {N gb go : Nat} {p : Nat -> NP} {G : Nat -> ND} (ao : Option Addr) (gc : Nat) (kb mb : Nat) (ov : Value) (D : DataW Unit) (ord : List (Nat × Nat)) (keep : Nat -> Prop) (a b : Nat) (w : World) (h : Kn w kb mb ov D ord keep) (hG : ∀ w',Kept keep w w' -> NodesAt w' ao gb go N p G) (ha : a < N) (hb : b < N) (hK : Kids N G) (hP : ∀ x,x < N -> Plain (G x)) (hS : ∀ x,x < N -> Srt (G x)) (hN : N <= 500000) (ho : ord.length + (G b).nn + 2 <= 100000000) :
  Calls Tryz.prog 68 #[.agg #[.slice ao N gc],.agg #[.int .i64 (a : Int),.int .i64 (b : Int)],.pointer (some ⟨kb,0,none⟩)] w (StepEnd G a b ord kb mb keep w):=by
 have HH : Hid (Kn w kb mb ov D ord keep):=h
 have HG : Hid (∀ w',Kept keep w w' -> NodesAt w' ao gb go N p G):=hG
 have HK : Hid (Kids N G):=hK
 have HP : Hid (∀ x,x < N -> Plain (G x)):=hP
 have HS : Hid (∀ x,x < N -> Srt (G x)):=hS
 obtain ⟨W0,hW0⟩ : ∃ W0,W0 = (w.alloc (.cells #[.slice ao N gc] 29)).alloc (.cells #[.int .i64 (a : Int),.int .i64 (b : Int)] 69):=⟨_,rfl⟩
 have BW : Below w.heap.size w W0:=by rw [hW0];exact bel2 _ _ _
 have hz0 : Hid (W0.heap.size = w.heap.size + 1 + 1):=by show _ = _;rw [hW0];simp
 have HFR : Hid (∀ k,keep k -> k < w.heap.size):=fun k hk=>(h.far k hk).1
 have HKB : Hid (∀ w',Below w.heap.size w w' -> Kept keep w w'):=fun w' hb'=>⟨hb'.os,hb'.tape,hb'.output,hb'.size,fun k hk=>hb'.block k ((h.far k hk).1)⟩
 have NG:=hG W0 (HKB.out _ BW)
 have RG : W0.rowIs w.heap.size 29 1 (fun _=>.slice ao N gc):=by rw [hW0];exact (row1 w (.slice ao N gc) 29).alloc _
 have RP : W0.rowIs (w.heap.size + 1) 69 2 (v2 (.int .i64 (a : Int)) (.int .i64 (b : Int))):=by
  have z:=row2 (w.alloc (.cells #[.slice ao N gc] 29)) (.int .i64 (a : Int)) (.int .i64 (b : Int)) 69
  rw [World.size_alloc] at z
  rw [hW0];exact z
 have at1:=NG.at_ (by omega)
 subst at1
 have s0 : W0.cell? ⟨w.heap.size,0,none⟩ = some (.slice (some ⟨gb,go,none⟩) N gc):=RG.cell (i:=0) (by omega)
 have s1 : W0.cell? ⟨w.heap.size + 1,0,none⟩ = some (.int .i64 (a : Int)):=RP.cell (i:=0) (by omega)
 have s2 : W0.cell? ⟨w.heap.size + 1,1,none⟩ = some (.int .i64 (b : Int)):=RP.cell (i:=1) (by omega)
 have a0:=NG.c0 a ha
 have a1:=NG.c1 a ha
 have a2:=NG.c2 a ha
 have b0:=NG.c0 b hb
 have b1:=NG.c1 b hb
 have b2:=NG.c2 b hb
 have lx : (a : Int) < (N : Int):=by omega
 have ly : (b : Int) < (N : Int):=by omega
 have HBW : Hid (Below w.heap.size w W0):=BW
 clear h hG hK hP hS NG RG RP BW
 go_enter Tryz.func68,Tryz.ntmps68
 go_wp2_with fail
 rw [<- hW0]
 clear hW0
 go_cut [7,8] (fun s7 s8 wc=>∃ bx cy : Nat,s7 = .pointer (some ⟨bx,0,none⟩) /\ s8 = .pointer (some ⟨cy,0,none⟩) /\ bx ≠ cy /\ W0.heap.size <= bx /\ bx < wc.heap.size /\ W0.heap.size <= cy /\ cy < wc.heap.size /\ Hid (Below W0.heap.size W0 wc) /\ Hid (wc.rowIs bx 48 3 (v3 (.int .i64 (G a).kind) (.slice (p a).a1 (G a).nn (p a).c1) (.slice (p a).a2 (G a).nk (p a).c2))) /\
  Hid (wc.rowIs cy 48 3 (v3 (.int .i64 (G b).kind) (.slice (p b).a1 (G b).nn (p b).c1) (.slice (p b).a2 (G b).nk (p b).c2))))
 case first=>
  go_region_held3 (fun w'=>w'.cell? ⟨w.heap.size,0,none⟩ = some (.slice (some ⟨gb,go,none⟩) N gc) /\ w'.cell? ⟨w.heap.size + 1,0,none⟩ = some (.int .i64 (a : Int)) /\ w'.cell? ⟨w.heap.size + 1,1,none⟩ = some (.int .i64 (b : Int)) /\
   w'.cell? ⟨gb,go + a * 3,none⟩ = some (.int .i64 (G a).kind) /\ w'.cell? ⟨gb,go + a * 3 + 1,none⟩ = some (.slice (p a).a1 (G a).nn (p a).c1) /\ w'.cell? ⟨gb,go + a * 3 + 2,none⟩ = some (.slice (p a).a2 (G a).nk (p a).c2) /\
   w'.cell? ⟨gb,go + b * 3,none⟩ = some (.int .i64 (G b).kind) /\ w'.cell? ⟨gb,go + b * 3 + 1,none⟩ = some (.slice (p b).a1 (G b).nn (p b).c1) /\ w'.cell? ⟨gb,go + b * 3 + 2,none⟩ = some (.slice (p b).a2 (G b).nk (p b).c2)) (go_keep) (fail)
  all_goals
   go_wp2
   go_meet
   case rel=>
    have R1:=two_rows W0 (.int .i64 (G a).kind) (.slice (p a).a1 (G a).nn (p a).c1) (.slice (p a).a2 (G a).nk (p a).c2) (.int .i64 (G b).kind) (.slice (p b).a1 (G b).nn (p b).c1) (.slice (p b).a2 (G b).nk (p b).c2) 48
    have R2:=two_rows W0 (.int .i64 (G b).kind) (.slice (p b).a1 (G b).nn (p b).c1) (.slice (p b).a2 (G b).nk (p b).c2) (.int .i64 (G a).kind) (.slice (p a).a1 (G a).nn (p a).c1) (.slice (p a).a2 (G a).nk (p a).c2) 48
    first
     | exact ⟨W0.heap.size,W0.heap.size + 1,rfl,rfl,by omega,by omega,by simp;omega,by omega,by simp,(bel2 _ _ _).drew,R1.1.drew,R1.2.drew⟩
     | exact ⟨W0.heap.size + 1,W0.heap.size,rfl,rfl,by omega,by omega,by simp,by omega,by simp;omega,(bel2 _ _ _).drew,R2.2.drew,R2.1.drew⟩
 case rest=>
  obtain ⟨bx,cy,rfl,rfl,hxy,hbx,hbx',hcy,hcy',HBC,HRX,HRY⟩:=hcut
  have hzz:=hz0.out
  have BWC : Below w.heap.size w wc:=HBW.out.trans (HBC.out.mono HBW.out.size)
  have HWC : Hid (Below w.heap.size w wc):=BWC
  have k0 : wc.cell? ⟨bx,0,none⟩ = some (.int .i64 (G a).kind):=HRX.out.cell (i:=0) (by omega)
  have k1 : wc.cell? ⟨bx,1,none⟩ = some (.slice (p a).a1 (G a).nn (p a).c1):=HRX.out.cell (i:=1) (by omega)
  have k2 : wc.cell? ⟨bx,2,none⟩ = some (.slice (p a).a2 (G a).nk (p a).c2):=HRX.out.cell (i:=2) (by omega)
  have m0 : wc.cell? ⟨cy,0,none⟩ = some (.int .i64 (G b).kind):=HRY.out.cell (i:=0) (by omega)
  have m1 : wc.cell? ⟨cy,1,none⟩ = some (.slice (p b).a1 (G b).nn (p b).c1):=HRY.out.cell (i:=1) (by omega)
  have m2 : wc.cell? ⟨cy,2,none⟩ = some (.slice (p b).a2 (G b).nk (p b).c2):=HRY.out.cell (i:=2) (by omega)
  have q1 : wc.cell? ⟨w.heap.size + 1,0,none⟩ = some (.int .i64 (a : Int)):=(HBC.out.cell (p:=⟨w.heap.size + 1,0,none⟩) (by show w.heap.size + 1 < _;omega)).trans s1
  have q2 : wc.cell? ⟨w.heap.size + 1,1,none⟩ = some (.int .i64 (b : Int)):=(HBC.out.cell (p:=⟨w.heap.size + 1,1,none⟩) (by show w.heap.size + 1 < _;omega)).trans s2
  have HKC : Hid (Kn wc kb mb ov D ord keep):=HH.out.below BWC
  have HYES : Hid ((a = b \/ (Can (G a) (G b) /\ demP (G a) (G b) = [])) -> ∀ W,Below wc.heap.size wc W -> StepEnd G a b ord kb mb keep w (.returned (.bool true)) W):=fun hc W hW=>by
   refine ⟨true,rfl,⟨ov,D,ord,HKC.out.below hW,fun _=>⟨⟨[],by simp⟩,hc.imp id (fun z=>⟨z.1,fun d hd=>by rw [z.2] at hd;cases hd⟩),fun q hq=>Or.inl hq,id⟩⟩,HKB.out _ (HWC.out.trans (hW.mono HWC.out.size)),fun e=>by cases e⟩
  have HNO : Hid (¬ Can (G a) (G b) -> ∀ W,Below wc.heap.size wc W -> StepEnd G a b ord kb mb keep w (.returned (.bool false)) W):=fun hc W hW=>by
   refine ⟨false,rfl,⟨ov,D,ord,HKC.out.below hW,fun e=>by cases e⟩,HKB.out _ (HWC.out.trans (hW.mono HWC.out.size)),fun _=>hc⟩
  have ea:=(HP.out a ha).kind
  have eb:=(HP.out b hb).kind
  clear s0 s1 s2 a0 a1 a2 b0 b1 b2 BWC hzz
  by_cases hab : a = b
  ·have bab : ((a : Int) == (b : Int)) = true:=by rw [beq_iff_eq];omega
   have FH : Hid (∀ W,Below wc.heap.size wc W -> StepEnd G a b ord kb mb keep w (.returned (.bool true)) W):=HYES.out (Or.inl hab)
   clear hab
   go_wp2
   go_ret
   exact FH.out wc (Below.refl _ _)
  have bab : ((a : Int) == (b : Int)) = false:=beq_eq_false_iff_ne.2 (by omega)
  clear hab
  by_cases ka : (G a).kind = 0
  ·have FH : Hid (∀ W,Below wc.heap.size wc W -> StepEnd G a b ord kb mb keep w (.returned (.bool true)) W):=HYES.out (Or.inr ⟨Or.inl ka,demP_none (Or.inl ka)⟩)
   have bka : ((G a).kind == 0) = true:=by rw [beq_iff_eq];exact ka
   clear ka
   go_wp2
   go_ret
   exact FH.out wc (Below.refl _ _)
  have bka : ((G a).kind == 0) = false:=beq_eq_false_iff_ne.2 ka
  by_cases kb0 : (G b).kind = 0
  ·have FH : Hid (∀ W,Below wc.heap.size wc W -> StepEnd G a b ord kb mb keep w (.returned (.bool true)) W):=HYES.out (Or.inr ⟨Or.inr (Or.inl kb0),demP_none (Or.inr kb0)⟩)
   have bkb : ((G b).kind == 0) = true:=by rw [beq_iff_eq];exact kb0
   clear ka kb0
   go_wp2
   go_ret
   exact FH.out wc (Below.refl _ _)
  have bkb : ((G b).kind == 0) = false:=beq_eq_false_iff_ne.2 kb0
  by_cases kd : (G a).kind = (G b).kind
  case neg=>
   have FH : Hid (∀ W,Below wc.heap.size wc W -> StepEnd G a b ord kb mb keep w (.returned (.bool false)) W):=HNO.out (by
    rintro (c | c | ⟨c,_⟩)
    ·exact ka c
    ·exact kb0 c
    ·exact kd c)
   have bkd : ((G a).kind != (G b).kind) = true:=by rw [bne_iff_ne];exact kd
   clear ka kb0 kd
   go_wp2
   go_ret
   exact FH.out wc (Below.refl _ _)
  have bkd : ((G a).kind != (G b).kind) = false:=by rw [bne_eq_false_iff_eq];exact kd
  have HKD : Hid ((G a).kind = (G b).kind):=kd
  have HGW : Hid (∀ w',Kept keep wc w' -> NodeAt w' (p a) (G a) /\ NodeAt w' (p b) (G b)):=fun w' hk=>by
   have z:=HG.out w' ((HKB.out _ HWC.out).trans hk)
   exact ⟨z.node a ha,z.node b hb⟩
  by_cases k3 : (G a).kind = 3
  ·have H3 : Hid ((G a).kind = 3 /\ (G b).kind = 3):=⟨k3,by omega⟩
   have b3 : ((G a).kind == 3) = true:=by rw [beq_iff_eq];exact k3
   have FC : Hid (∀ W,Below wc.heap.size wc W -> Calls Tryz.prog 95 #[ndv (p a) (G a),ndv (p b) (G b),.pointer (some ⟨kb,0,none⟩)] W (StepEnd G a b ord kb mb keep w)):=fun W hW=>by
    have hkW : Kept keep w W:=HKB.out _ (HWC.out.trans (hW.mono HWC.out.size))
    refine (c47 (p a) (p b) (G a) (G b) kb mb ov D ord keep W (HKC.out.below hW) (HS.out a ha) (HS.out b hb) (by rw [(HP.out a ha).kids,if_pos H3.out.1]) (by rw [(HP.out b hb).kids,if_pos H3.out.2]) (fun j hj=>by have:=HK.out a ha j hj;omega) (fun j hj=>by have:=HK.out b hb j hj;omega) (fun w' hk=>?_) (by omega)).mono ?_
    ·have z:=HG.out w' (hkW.trans hk)
     exact ⟨z.node a ha,z.node b hb⟩
    ·rintro e w5 ⟨r,rfl,FP⟩
     exact ⟨r,rfl,fields_step FP hkW H3.out.1 H3.out.2⟩
   clear k3 ka kb0 kd
   unfold ndv at FC
   go_wp2_with (first | (go_at_call 95;first | (with_reducible refine (FC.out _ (Below.refl _ _)).mono ?_) | (with_reducible refine (FC.out _ (Below.refl _ _).drew).mono ?_)))
   rintro e w5 hE
   obtain ⟨r,rfl,hO⟩:=hE
   have FH : Hid (StepEnd G a b ord kb mb keep w (.returned (.bool r)) w5):=⟨r,rfl,hO⟩
   clear hO FC
   go_wp2
   go_ret
   exact FH.out
  have b3 : ((G a).kind == 3) = false:=beq_eq_false_iff_ne.2 k3
  by_cases k4 : (G a).kind = 4
  ·have H4 : Hid ((G a).kind = 4 /\ (G b).kind = 4):=⟨k4,by omega⟩
   have b4 : ((G a).kind == 4) = true:=by rw [beq_iff_eq];exact k4
   have na : (G a).nk = 2:=by rw [(HP.out a ha).kids,if_neg k3,if_pos k4]
   have nb : (G b).nk = 2:=by rw [(HP.out b hb).kids,if_neg (by omega),if_pos (by omega)]
   have HCE : Hid (∀ w',Kept (fun k=>keep k \/ k = bx \/ k = cy) wc w' -> w'.cell? ⟨bx,2,none⟩ = some (.slice (some ⟨(p a).b2,(p a).o2,none⟩) 2 (p a).c2) /\ w'.cell? ⟨cy,2,none⟩ = some (.slice (some ⟨(p b).b2,(p b).o2,none⟩) 2 (p b).c2) /\ w'.cell? ⟨(p a).b2,(p a).o2,none⟩ = some (.int .i64 (kid (G a) 0 : Int)) /\ w'.cell? ⟨(p a).b2,(p a).o2 + 1,none⟩ = some (.int .i64 (kid (G a) 1 : Int)) /\ w'.cell? ⟨(p b).b2,(p b).o2,none⟩ = some (.int .i64 (kid (G b) 0 : Int)) /\ w'.cell? ⟨(p b).b2,(p b).o2 + 1,none⟩ = some (.int .i64 (kid (G b) 1 : Int))):=fun w' hk=>by
    obtain ⟨NX,NY⟩:=HGW.out w' ⟨hk.os,hk.tape,hk.output,hk.size,fun k c=>hk.block k (Or.inl c)⟩
    have e1:=NX.kids.at_ (by omega)
    have e2:=NY.kids.at_ (by omega)
    have r1 : w'.cell? ⟨bx,2,none⟩ = some (.slice (p a).a2 (G a).nk (p a).c2):=(HRX.out.of_block (hk.block bx (Or.inr (Or.inl rfl)))).cell (i:=2) (by omega)
    have r2 : w'.cell? ⟨cy,2,none⟩ = some (.slice (p b).a2 (G b).nk (p b).c2):=(HRY.out.of_block (hk.block cy (Or.inr (Or.inr rfl)))).cell (i:=2) (by omega)
    rw [e1,na] at r1
    rw [e2,nb] at r2
    have x0:=NX.kids.cell 0 (by omega)
    have x1:=NX.kids.cell 1 (by omega)
    have y0:=NY.kids.cell 0 (by omega)
    have y1:=NY.kids.cell 1 (by omega)
    have cv : ∀ x,x < N -> ∀ j,j < (G x).nk -> (G x).kd j = (kid (G x) j : Int):=fun x hx j hj=>by have:=HK.out x hx j hj;unfold kid;omega
    rw [cv a ha 0 (by omega)] at x0
    rw [cv a ha 1 (by omega)] at x1
    rw [cv b hb 0 (by omega)] at y0
    rw [cv b hb 1 (by omega)] at y1
    exact ⟨r1,r2,x0,x1,y0,y1⟩
   have la0 : kid (G a) 0 < N:=HK.out.lt ha (by omega)
   have la1 : kid (G a) 1 < N:=HK.out.lt ha (by omega)
   have lb0 : kid (G b) 0 < N:=HK.out.lt hb (by omega)
   have lb1 : kid (G b) 1 < N:=HK.out.lt hb (by omega)
   have HK2 : Hid (Kn wc kb mb ov D ord (fun k=>keep k \/ k = bx \/ k = cy)):=by
    have z:=HKC.out
    have zk:=HH.out.row.lt
    have zm:=HH.out.mlt
    have zz:=hz0.out
    refine ⟨z.row,z.mlt,z.map,z.has,z.own,fun k c=>?_⟩
    rcases c with c | c | c
    ·exact z.far k c
    ·subst c;exact ⟨hbx',by omega,by omega,fun e=>by have:=(HH.out.own.lt _ e.symm).2;omega⟩
    ·subst c;exact ⟨hcy',by omega,by omega,fun e=>by have:=(HH.out.own.lt _ e.symm).2;omega⟩
   obtain ⟨z1,z2,z3,z4,z5,z6⟩:=HCE.out wc (Kept.refl _ _)
   have C1 : Hid (∀ W,Below wc.heap.size wc W -> Calls Tryz.prog 71 #[.pointer (some ⟨kb,0,none⟩),.agg #[.int .i64 (kid (G b) 0 : Int),.int .i64 (kid (G a) 0 : Int)]] W fun e w'=>∃ (v : Int) (nw : Bool) (ov1 : Value) (D1 : DataW Unit),e = .returned (.tuple #[.int .i64 v,.bool nw]) /\ Hid (Kn w' kb mb ov1 D1 (addP ord (kid (G b) 0,kid (G a) 0)) (fun k=>keep k \/ k = bx \/ k = cy)) /\ Hid (Kept (fun k=>keep k \/ k = bx \/ k = cy) wc w')):=fun W hW=>
    (c46 kb mb ov D ord _ (kid (G b) 0) (kid (G a) 0) W (HK2.out.below hW) (by omega) (by omega) (by omega)).mono fun e w' ⟨v,ov1,D1,h1,h2,h3⟩=>⟨v,_,ov1,D1,h1,h2,Kept.trans ⟨hW.os,hW.tape,hW.output,hW.size,fun k hk=>hW.block k (HK2.out.far k hk).1⟩ h3⟩
   clear k1 k2 m1 m2 ka kb0 kd k3 k4 na nb
   go_wp2
   go_region_held3 (fun w'=>w'.cell? ⟨bx,2,none⟩ = some (.slice (some ⟨(p a).b2,(p a).o2,none⟩) 2 (p a).c2) /\ w'.cell? ⟨cy,2,none⟩ = some (.slice (some ⟨(p b).b2,(p b).o2,none⟩) 2 (p b).c2) /\ w'.cell? ⟨(p a).b2,(p a).o2,none⟩ = some (.int .i64 (kid (G a) 0 : Int)) /\ w'.cell? ⟨(p a).b2,(p a).o2 + 1,none⟩ = some (.int .i64 (kid (G a) 1 : Int)) /\ w'.cell? ⟨(p b).b2,(p b).o2,none⟩ = some (.int .i64 (kid (G b) 0 : Int)) /\ w'.cell? ⟨(p b).b2,(p b).o2 + 1,none⟩ = some (.int .i64 (kid (G b) 1 : Int))) (go_keep)
    (first | (go_at_call 71;(first | (with_reducible refine (C1.out _ (Below.refl _ _)).mono ?_) | (with_reducible refine (C1.out _ (Below.refl _ _).drew).mono ?_) | (with_reducible refine (C1.out _ (Below.refl _ _).drew.drew).mono ?_));rintro e w5 ⟨v5,nw5,ov5,D5,rfl,hk5,hp5⟩;obtain ⟨z1,z2,z3,z4,z5,z6⟩:=HCE.out w5 hp5.out))
   all_goals
    have C2 : Hid (∀ W,Below w5.heap.size w5 W -> Calls Tryz.prog 71 #[.pointer (some ⟨kb,0,none⟩),.agg #[.int .i64 (kid (G a) 1 : Int),.int .i64 (kid (G b) 1 : Int)]] W fun e w'=>∃ (v : Int) (nw : Bool) (ov1 : Value) (D1 : DataW Unit),e = .returned (.tuple #[.int .i64 v,.bool nw]) /\ Hid (Kn w' kb mb ov1 D1 (addP (addP ord (kid (G b) 0,kid (G a) 0)) (kid (G a) 1,kid (G b) 1)) (fun k=>keep k \/ k = bx \/ k = cy)) /\ Hid (Kept (fun k=>keep k \/ k = bx \/ k = cy) wc w')):=fun W hW=>
     (c46 kb mb ov5 D5 _ _ (kid (G a) 1) (kid (G b) 1) W (hk5.out.below hW) (by omega) (by omega) (by have:=addP_len ord (kid (G b) 0,kid (G a) 0);omega)).mono fun e w' ⟨v,ov1,D1,h1,h2,h3⟩=>⟨v,_,ov1,D1,h1,h2,hp5.out.trans (Kept.trans ⟨hW.os,hW.tape,hW.output,hW.size,fun k hk=>hW.block k (hk5.out.far k hk).1⟩ h3)⟩
    clear C1
    go_wp2
    go_region_held3 (fun w'=>w'.cell? ⟨bx,2,none⟩ = some (.slice (some ⟨(p a).b2,(p a).o2,none⟩) 2 (p a).c2) /\ w'.cell? ⟨cy,2,none⟩ = some (.slice (some ⟨(p b).b2,(p b).o2,none⟩) 2 (p b).c2) /\ w'.cell? ⟨(p a).b2,(p a).o2,none⟩ = some (.int .i64 (kid (G a) 0 : Int)) /\ w'.cell? ⟨(p a).b2,(p a).o2 + 1,none⟩ = some (.int .i64 (kid (G a) 1 : Int)) /\ w'.cell? ⟨(p b).b2,(p b).o2,none⟩ = some (.int .i64 (kid (G b) 0 : Int)) /\ w'.cell? ⟨(p b).b2,(p b).o2 + 1,none⟩ = some (.int .i64 (kid (G b) 1 : Int))) (go_keep)
     (first | (go_at_call 71;(first | (with_reducible refine (C2.out _ (Below.refl _ _)).mono ?_) | (with_reducible refine (C2.out _ (Below.refl _ _).drew).mono ?_) | (with_reducible refine (C2.out _ (Below.refl _ _).drew.drew).mono ?_));rintro e w6 ⟨v6,nw6,ov6,D6,rfl,hk6,hp6⟩;obtain ⟨z1,z2,z3,z4,z5,z6⟩:=HCE.out w6 hp6.out))
    all_goals
     have FH : Hid (∀ W,Below w6.heap.size w6 W -> StepEnd G a b ord kb mb keep w (.returned (.bool true)) W):=fun W hW=>by
      have KW : Kept keep w W:=(HKB.out _ HWC.out).trans (Kept.trans ⟨hp6.out.os,hp6.out.tape,hp6.out.output,hp6.out.size,fun k c=>hp6.out.block k (Or.inl c)⟩ ⟨hW.os,hW.tape,hW.output,hW.size,fun k c=>hW.block k (hk6.out.far k (Or.inl c)).1⟩)
      have KN:=hk6.out.below hW
      obtain ⟨t1,e1⟩:=addP_pre ord (kid (G b) 0,kid (G a) 0)
      obtain ⟨t2,e2⟩:=addP_pre (addP ord (kid (G b) 0,kid (G a) 0)) (kid (G a) 1,kid (G b) 1)
      refine ⟨true,rfl,⟨ov6,D6,_,⟨KN.row,KN.mlt,KN.map,KN.has,KN.own,fun k c=>KN.far k (Or.inl c)⟩,fun _=>⟨⟨t1 ++ t2,by rw [e2,e1,List.append_assoc]⟩,Or.inr ⟨Or.inr (Or.inr ⟨HKD.out,Or.inl H4.out.1⟩),fun d hd=>?_⟩,fun q hq=>?_,fun hn=>addP_nodup (addP_nodup hn)⟩⟩,KW,fun e=>by cases e⟩
      ·rw [demP_fun H4.out.1 H4.out.2] at hd
       simp only [List.mem_cons,List.not_mem_nil,or_false] at hd
       rcases hd with rfl | rfl
       ·exact mem_addP.2 (Or.inl (mem_addP.2 (Or.inr rfl)))
       ·exact mem_addP.2 (Or.inr rfl)
      ·rw [demP_fun H4.out.1 H4.out.2]
       rcases mem_addP.1 hq with c | c
       ·rcases mem_addP.1 c with c | c
        ·exact Or.inl c
        ·exact Or.inr ⟨(true,0,0),by simp,c⟩
       ·exact Or.inr ⟨(false,1,1),by simp,c⟩
     clear C2 hk5 hk6 hp5 hp6
     go_wp2
     go_ret
     first | exact FH.out _ (Below.refl _ _) | exact FH.out _ (Below.refl _ _).drew
  ·have FH : Hid (∀ W,Below wc.heap.size wc W -> StepEnd G a b ord kb mb keep w (.returned (.bool true)) W):=HYES.out (Or.inr (by
    have z:=(HP.out b hb).bare (by omega)
    refine ⟨Or.inr (Or.inr ⟨kd,Or.inr fun i hi=>by omega⟩),?_⟩
    unfold demP
    rw [if_neg (by omega),if_neg k4,z];rfl))
   have b4 : ((G a).kind == 4) = false:=beq_eq_false_iff_ne.2 k4
   clear ka kb0 kd k3 k4
   go_wp2
   go_ret
   exact FH.out wc (Below.refl _ _)
end Go.Proofs.YtpbpbppimkeodaaGreatDoor
