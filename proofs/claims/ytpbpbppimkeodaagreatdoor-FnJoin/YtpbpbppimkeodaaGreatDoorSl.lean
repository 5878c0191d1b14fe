/-
  Start2 Pop
-/
import Derived.Test.YtpbpbppimkeodaaGreatDoorSk
import Derived.Deep.DeepCutAuto
set_option maxRecDepth 100000
namespace Go.Proofs.YtpbpbppimkeodaaGreatDoor
open Go.RowKit Go.Maps
def s00 : PS:=⟨0,fun _=>[],fun _=>0,fun _=>0,fun _=>false,[]⟩
theorem row5 (w : World) (a b c d e : Value) (t : TypeId) : (w.alloc (.cells #[a,b,c,d,e] t)).rowIs w.heap.size t 5 (v5 a b c d e):=
 World.rowIs_alloc w #[a,b,c,d,e] t _ (fun i hi=>by
  match i,hi with
  | 0,_=>rfl
  | 1,_=>rfl
  | 2,_=>rfl
  | 3,_=>rfl
  | 4,_=>rfl)
theorem pt_made (A : World) (N base bo ba : Nat) (hb : base <= A.heap.size) (h : (bo = A.heap.size /\ ba = A.heap.size + 1) \/ (ba = A.heap.size /\ bo = A.heap.size + 1)) :
  Pt (((A.alloc (.cells (madeCells #[.int .i64 0] N) 3)).alloc (.cells (madeCells #[.int .i64 0] N) 3)).alloc (.cells #[.slice (some ⟨bo,0,none⟩) N N,.slice none 0 0,.slice (some ⟨ba,0,none⟩) N N,.slice none 0 0,.slice none 0 0] 115)) base (A.heap.size + 1 + 1) bo ba N (.slice none 0 0) (.slice none 0 0) (.slice none 0 0) (fun _=>.slice none 0 0) s00:=by
 have R:=row5 ((A.alloc (.cells (madeCells #[.int .i64 0] N) 3)).alloc (.cells (madeCells #[.int .i64 0] N) 3)) (.slice (some ⟨bo,0,none⟩) N N) (.slice none 0 0) (.slice (some ⟨ba,0,none⟩) N N) (.slice none 0 0) (.slice none 0 0) 115
 have R1:=((World.rowIs_made A (.int .i64 0) N 3).alloc (.cells (madeCells #[.int .i64 0] N) 3)).alloc (.cells #[.slice (some ⟨bo,0,none⟩) N N,.slice none 0 0,.slice (some ⟨ba,0,none⟩) N N,.slice none 0 0,.slice none 0 0] 115)
 have R2:=(World.rowIs_made (A.alloc (.cells (madeCells #[.int .i64 0] N) 3)) (.int .i64 0) N 3).alloc (.cells #[.slice (some ⟨bo,0,none⟩) N N,.slice none 0 0,.slice (some ⟨ba,0,none⟩) N N,.slice none 0 0,.slice none 0 0] 115)
 simp only [World.size_alloc] at R R2
 have RB : (((A.alloc (.cells (madeCells #[.int .i64 0] N) 3)).alloc (.cells (madeCells #[.int .i64 0] N) 3)).alloc (.cells #[.slice (some ⟨bo,0,none⟩) N N,.slice none 0 0,.slice (some ⟨ba,0,none⟩) N N,.slice none 0 0,.slice none 0 0] 115)).rowIs bo 3 N (fun _=>.int .i64 0) /\ (((A.alloc (.cells (madeCells #[.int .i64 0] N) 3)).alloc (.cells (madeCells #[.int .i64 0] N) 3)).alloc (.cells #[.slice (some ⟨bo,0,none⟩) N N,.slice none 0 0,.slice (some ⟨ba,0,none⟩) N N,.slice none 0 0,.slice none 0 0] 115)).rowIs ba 3 N (fun _=>.int .i64 0):=by
  rcases h with ⟨rfl,rfl⟩ | ⟨rfl,rfl⟩
  ·exact ⟨R1,R2⟩
  ·exact ⟨R2,R1⟩
 refine ⟨R,RB.1,RB.2,World.ownsRow_nil _ _ _ _,fun i hi=>absurd hi (Nat.not_lt_zero _),World.ownsRow_nil _ _ _ _,World.ownsRow_nil _ _ _ _,?_,⟨by omega,by omega,by omega,by simp;omega⟩⟩
 have none_ : ∀ i x,pblk (A.heap.size + 1 + 1) bo ba (.slice none 0 0) (.slice none 0 0) (.slice none 0 0) (fun _=>.slice none 0 0) 0 (i + 3) = some x -> False:=by
  intro i x e
  match i with
  | 0=>simp [pblk,Value.ownBlock] at e
  | 1=>simp [pblk,Value.ownBlock] at e
  | 2=>simp [pblk,Value.ownBlock] at e
  | i + 3=>simp [pblk] at e
 have small : ∀ i x,pblk (A.heap.size + 1 + 1) bo ba (.slice none 0 0) (.slice none 0 0) (.slice none 0 0) (fun _=>.slice none 0 0) 0 i = some x -> (i = 0 /\ x = A.heap.size + 1 + 1) \/ (i = 1 /\ x = bo) \/ (i = 2 /\ x = ba):=by
  intro i x e
  match i with
  | 0=>simp [pblk] at e;omega
  | 1=>simp [pblk] at e;omega
  | 2=>simp [pblk] at e;omega
  | i + 3=>exact (none_ i x e).elim
 intro i j x hi hj
 have h1:=small i x hi
 have h2:=small j x hj
 omega
theorem pt_made2 (w : World) (N bo ba : Nat) (v : Value) (h : (bo = w.heap.size + 1 /\ ba = w.heap.size + 1 + 1) \/ (ba = w.heap.size + 1 /\ bo = w.heap.size + 1 + 1)) (d : Bool) :
  ∀ W,W = (if d then ((((w.alloc (.cells #[v] 29)).alloc (.cells (madeCells #[.int .i64 0] N) 3)).alloc (.cells (madeCells #[.int .i64 0] N) 3)).alloc (.cells #[.slice (some ⟨bo,0,none⟩) N N,.slice none 0 0,.slice (some ⟨ba,0,none⟩) N N,.slice none 0 0,.slice none 0 0] 115)).drew else
    ((((w.alloc (.cells #[v] 29)).alloc (.cells (madeCells #[.int .i64 0] N) 3)).alloc (.cells (madeCells #[.int .i64 0] N) 3)).alloc (.cells #[.slice (some ⟨bo,0,none⟩) N N,.slice none 0 0,.slice (some ⟨ba,0,none⟩) N N,.slice none 0 0,.slice none 0 0] 115))) ->
  Hid (Pt W w.heap.size (w.heap.size + 1 + 1 + 1) bo ba N (.slice none 0 0) (.slice none 0 0) (.slice none 0 0) (fun _=>.slice none 0 0) s00 /\ Below w.heap.size w W) /\ W.cell? ⟨w.heap.size,0,none⟩ = some v:=by
 intro W hW
 have P0:=pt_made (w.alloc (.cells #[v] 29)) N w.heap.size bo ba (by simp) (by simpa using h)
 have B0:=(((bel1 w (.cells #[v] 29)).alloc (by simp) (.cells (madeCells #[.int .i64 0] N) 3)).alloc (by simp;omega) (.cells (madeCells #[.int .i64 0] N) 3)).alloc (by simp;omega) (.cells #[.slice (some ⟨bo,0,none⟩) N N,.slice none 0 0,.slice (some ⟨ba,0,none⟩) N N,.slice none 0 0,.slice none 0 0] 115)
 have C0:=((((row1 w v 29).alloc (.cells (madeCells #[.int .i64 0] N) 3)).alloc (.cells (madeCells #[.int .i64 0] N) 3)).alloc (.cells #[.slice (some ⟨bo,0,none⟩) N N,.slice none 0 0,.slice (some ⟨ba,0,none⟩) N N,.slice none 0 0,.slice none 0 0] 115)).cell (i:=0) (by omega)
 simp only [World.size_alloc] at P0
 cases d
 ·simp only [Bool.false_eq_true,if_false] at hW
  subst hW
  exact ⟨⟨P0,B0⟩,C0⟩
 ·simp only [if_true] at hW
  subst hW
  exact ⟨⟨P0.below (Below.refl _ _).drew,B0.drew⟩,C0⟩
theorem inter_len (sep : List UInt8) : ∀ (l : List (List UInt8)) (m : Nat),(∀ a,a ∈ l -> a.length <= m) -> (sep.intercalate l).length <= l.length * (m + sep.length)
 | [],m,_=>by rw [inter0];simp
 | [a],m,h=>by
   rw [inter1]
   have:=h a (by simp)
   simp;omega
 | a :: b :: t,m,h=>by
   have ih:=inter_len sep (b :: t) m (fun x hx=>h x (List.mem_cons_of_mem _ hx))
   have:=h a (by simp)
   rw [inter2,List.length_append,List.length_append]
   have e : (a :: b :: t).length * (m + sep.length) = (b :: t).length * (m + sep.length) + (m + sep.length):=by
    rw [List.length_cons,Nat.add_mul,Nat.one_mul]
   omega
theorem joined {w : World} {a1 : Option Addr} {b1 o1 c1 : Nat} {d : ND} (h : StrsAt w a1 b1 o1 d.nn d.nm) (hn : d.nn <= 1048576) (hs : ∀ i,i < d.nn -> (d.nm i).size <= 12) (hc : 0 < d.nn -> d.nn <= c1) :
  Calls Tryz.prog 101 #[.slice a1 d.nn c1,.string ⟨#[32]⟩] w fun e w'=>e = .returned (.string ⟨(Lib.join (nmsOf d) [32]).toArray⟩) /\ Below w.heap.size w w':=by
 rcases Nat.eq_zero_or_pos d.nn with h0 | h0
 ·rw [h0]
  have e : Lib.join (nmsOf d) [32] = []:=by unfold nmsOf;rw [h0];exact inter0 _
  rw [e]
  exact (Tryz.strings_Join_none a1 c1 ⟨#[32]⟩ w).mono fun e w' ⟨h1,h2⟩=>⟨h1,by rw [h2];exact Below.refl _ _⟩
 ·have e1:=h.at_ h0
  subst e1
  have hl : ((List.range d.nn).map d.nm).length = d.nn:=by simp
  have hm : ((List.range d.nn).map d.nm).map (·.data.toList) = nmsOf d:=by unfold nmsOf;rw [List.map_map];rfl
  have hlen:=inter_len [32] (nmsOf d) 12 (fun a ha=>by
   obtain ⟨i,hi,rfl⟩:=List.mem_map.1 ha
   exact hs i (List.mem_range.1 hi))
  have hnl : (nmsOf d).length = d.nn:=by simp [nmsOf]
  have C:=Tryz.strings_Join b1 o1 c1 ((List.range d.nn).map d.nm) ⟨#[32]⟩ w (fun j x hx=>by
    rw [List.getElem?_map,Option.map_eq_some_iff] at hx
    obtain ⟨i,hi,rfl⟩:=hx
    have hj:=(List.getElem?_eq_some_iff.1 hi).1
    rw [List.length_range] at hj
    rw [List.getElem?_range hj] at hi
    cases hi
    exact h.cell j hj) (blt (h.cell 0 h0)) (by rw [hl];omega) (by rw [hl];exact hc h0) (by
    rw [hm]
    show (([32] : List UInt8).intercalate (nmsOf d)).length <= _
    rw [hnl] at hlen
    simp at hlen
    omega)
  rw [hl,hm] at C
  exact C
def keepOf (base : Nat) (blk : Nat -> Option Nat) : Nat -> Prop:=fun k=>k < base \/ ∃ i,blk i = some k
structure Sp (w wr : World) (pb bo ba N : Nat) (G : Nat -> ND) (i : Nat) (kb mb : Nat) (rv wv qv : Value) (rvs : Nat -> Value) (s : PS) (ov : Value) (D : DataW Unit) : Prop where
 pt : Pt wr w.heap.size pb bo ba N rv wv qv rvs s
 st : St G i s
 kn : KnS wr kb mb ov D (ords G i) (keepOf w.heap.size (pblk pb bo ba rv wv qv rvs s.nr))
 below : Below w.heap.size w wr
theorem map_block {w w' : World} {b n : Nat} {D : DataW Unit} (h : w.ownsMap Tryz.prog 9 (plainElem Tryz.prog 3) b n D) (hb : w'.heap[b]? = w.heap[b]?) : w'.ownsMap Tryz.prog 9 (plainElem Tryz.prog 3) b n D:=by
 obtain ⟨es,c,h1,h2⟩:=h
 exact ⟨es,c,hb.trans h1,h2⟩
theorem KnS.below {w w' : World} {kb mb : Nat} {ov : Value} {D : DataW Unit} {ord : List (List UInt8)} {keep : Nat -> Prop} (h : KnS w kb mb ov D ord keep) (hb : Below w.heap.size w w') : KnS w' kb mb ov D ord keep:=
 ⟨h.row.of_block (hb.block _ h.row.lt),h.mlt,map_block h.map (hb.block _ h.map.lt),h.has,h.val,own_block h.own (fun k e=>hb.block k (h.own.lt k e.symm).2),fun k hk=>by
  obtain ⟨f1,f2⟩:=h.far k hk
  exact ⟨Nat.lt_of_lt_of_le f1 hb.size,f2⟩⟩
theorem KnS.frame {w w' : World} {kb mb base : Nat} {ov : Value} {D : DataW Unit} {ord : List (List UInt8)} {blk blk' : Nat -> Option Nat} (h : KnS w kb mb ov D ord (keepOf base blk)) (hf : Fr base w w' blk blk') (hl : ∀ i x,blk' i = some x -> x < w'.heap.size) :
  KnS w' kb mb ov D ord (keepOf base blk'):=by
 have hk:=h.row.lt
 have hm:=h.map.lt
 have o : ∀ k,(k = kb \/ k = mb \/ some k = ov.ownBlock) -> ∀ i,blk i ≠ some k:=fun k hk i e=>by
  obtain ⟨_,f2,f3,f4⟩:=h.far k (Or.inr ⟨i,e⟩)
  rcases hk with c | c | c
  ·exact f2 c
  ·exact f3 c
  ·exact f4 c
 refine ⟨h.row.of_block (hf.frame kb hk (o kb (Or.inl rfl))),h.mlt,map_block h.map (hf.frame mb hm (o mb (Or.inr (Or.inl rfl)))),h.has,h.val,own_block h.own (fun k e=>hf.frame k (h.own.lt k e.symm).2 (o k (Or.inr (Or.inr e)))),fun k hk'=>?_⟩
 have hsz:=hf.below.size
 rcases hk' with c | ⟨i,c⟩
 ·obtain ⟨f1,f2⟩:=h.far k (Or.inl c)
  exact ⟨by omega,f2⟩
 ·refine ⟨hl i k c,?_⟩
  rcases hf.fresh i k c with ⟨j,q⟩ | q
  ·exact (h.far k (Or.inr ⟨j,q⟩)).2
  ·exact ⟨by omega,by omega,fun e=>by have:=(h.own.lt k e.symm).2;omega⟩
theorem sp_number {w wr w4 w5 : World} {pb bo ba N : Nat} {G : Nat -> ND} {x kb mb : Nat} {rv wv qv : Value} {rvs : Nat -> Value} {s : PS} {ov ov' : Value} {D D' : DataW Unit} {ord : List (List UInt8)} (h : Sp w wr pb bo ba N G x kb mb rv wv qv rvs s ov D) (hb : Below wr.heap.size wr w4)
  (hk : KnS w5 kb mb ov' D' ord (fun k=>keepOf w.heap.size (pblk pb bo ba rv wv qv rvs s.nr) k \/ k = wr.heap.size)) (hp : Kept (fun k=>keepOf w.heap.size (pblk pb bo ba rv wv qv rvs s.nr) k \/ k = wr.heap.size) w4 w5) :
  Pt w5 w.heap.size pb bo ba N rv wv qv rvs s /\ Below w.heap.size w w5 /\ KnS w5 kb mb ov' D' ord (keepOf w.heap.size (pblk pb bo ba rv wv qv rvs s.nr)):=by
 have P4:=h.pt.below hb
 have B4:=h.below.trans (hb.mono h.below.size)
 refine ⟨P4.later hp.size (fun i y e=>hp.block y (Or.inl (Or.inr ⟨i,e⟩))),⟨hp.os.trans B4.os,hp.tape.trans B4.tape,hp.output.trans B4.output,Nat.le_trans B4.size hp.size,fun k c=>(hp.block k (Or.inl (Or.inl c))).trans (B4.block k c)⟩,⟨hk.row,hk.mlt,hk.map,hk.has,hk.val,hk.own,fun k c=>hk.far k (Or.inl c)⟩⟩
set_option maxHeartbeats 4000000 in
theorem c71 {N b o : Nat} {p : Nat -> NP} {G : Nat -> ND} (ao : Option Addr) (gc : Nat) (w : World) (hN : N <= 500000) (hP : ∀ x,x < N -> Plain (G x)) (hM : ∀ x,x < N -> (G x).nn <= 1048576 /\ ∀ i,i < (G x).nn -> ((G x).nm i).size <= 12) (hcap : ∀ x,x < N -> 0 < (G x).nn -> (G x).nn <= (p x).c1) (hG : NodesAt w ao b o N p G) :
  Calls Tryz.prog 81 #[.agg #[.slice ao N gc]] w fun e w'=>∃ pb bo ba rv wv qv rvs s,e = .returned (.pointer (some ⟨pb,0,none⟩)) /\ Pt w' w.heap.size pb bo ba N rv wv qv rvs s /\ St G N s /\ Below w.heap.size w w':=by
 have HG : Hid (NodesAt w ao b o N p G):=hG
 have HP : Hid (∀ x,x < N -> Plain (G x)):=hP
 have HM : Hid (∀ x,x < N -> (G x).nn <= 1048576 /\ ∀ i,i < (G x).nn -> ((G x).nm i).size <= 12):=hM
 have HCP : Hid (∀ x,x < N -> 0 < (G x).nn -> (G x).nn <= (p x).c1):=hcap
 have A1:=hG.at_
 have hmk:=run_make_row' (P:=Tryz.prog) 25 3 (.int .i64 0) 8 Tryz.underlying25 Tryz.info3 rfl .i64 .i64 N (by omega) (by omega)
 clear hG hP hM hcap
 go_enter Tryz.func81,Tryz.ntmps81
 go_wp2_with fail
 have g0 : (w.alloc (.cells #[.slice ao N gc] 29)).drew.cell? ⟨w.heap.size,0,none⟩ = some (.slice ao N gc):=(row1 w (.slice ao N gc) 29).cell (i:=0) (by omega)
 go_cut [3] (fun s3 wc=>∃ pb bo ba : Nat,s3 = .pointer (some ⟨pb,0,none⟩) /\ Hid (Pt wc w.heap.size pb bo ba N (.slice none 0 0) (.slice none 0 0) (.slice none 0 0) (fun _=>.slice none 0 0) s00 /\ Below w.heap.size w wc) /\ wc.cell? ⟨w.heap.size,0,none⟩ = some (.slice ao N gc))
 case first=>
  go_region
  all_goals
   go_wp2
   go_meet
   case rel=>
    first
     | exact ⟨_,_,_,rfl,pt_made2 w N _ _ _ (Or.inl ⟨rfl,rfl⟩) false _ rfl⟩
     | exact ⟨_,_,_,rfl,pt_made2 w N _ _ _ (Or.inr ⟨rfl,rfl⟩) false _ rfl⟩
     | exact ⟨_,_,_,rfl,pt_made2 w N _ _ _ (Or.inl ⟨rfl,rfl⟩) true _ rfl⟩
     | exact ⟨_,_,_,rfl,pt_made2 w N _ _ _ (Or.inr ⟨rfl,rfl⟩) true _ rfl⟩
 case rest=>
  obtain ⟨pb,bo,ba,rfl,HT,gN⟩:=hcut
  clear g0 hmk
  go_wp2_with fail
  refine (c91 wc (fun k=>k < wc.heap.size) (fun _ h=>h)).mono ?_
  rintro e w1 ⟨rfl,hK,hKe⟩
  have B1 : Below wc.heap.size wc w1:=⟨hKe.os,hKe.tape,hKe.output,hKe.size,fun k x=>hKe.block k x⟩
  have hsz:=HT.out.2.size
  have gN1 : w1.cell? ⟨w.heap.size,0,none⟩ = some (.slice ao N gc):=by rw [B1.cell (p:=⟨w.heap.size,0,none⟩) (blt gN)];exact gN
  have HS : Hid (Sp w w1 pb bo ba N G 0 (wc.heap.size + 1) wc.heap.size (.slice none 0 0) (.slice none 0 0) (.slice none 0 0) (fun _=>.slice none 0 0) s00 (.slice none 0 0) (.map [])):=
   ⟨HT.out.1.below B1,st_start G s00 rfl rfl,⟨hK.row,hK.mlt,hK.map,hK.has,hK.val,hK.own,fun k hk=>hK.far k (by
    rcases hk with c | ⟨i,c⟩
    ·exact Nat.lt_of_lt_of_le c hsz
    ·exact (HT.out.1.blk_lt i k c).2)⟩,HT.out.2.trans (B1.mono hsz)⟩
  clear hK hKe B1 HT gN
  go_wp2
  go_loopw [23] (fun i wr=>∃ (x : Nat) (rv wv qv : Value) (rvs : Nat -> Value) (s : PS) (ov : Value) (D : DataW Unit),x <= N /\ i = .int .i64 x /\ Hid (Sp w wr pb bo ba N G x (wc.heap.size + 1) wc.heap.size rv wv qv rvs s ov D)) (fun i _=>N - (intOf i).toNat)
  case atStart=>exact ⟨0,_,_,_,_,_,_,_,Nat.zero_le _,rfl,HS⟩
  case round=>
   clear HS
   obtain ⟨x,rv,wv,qv,rvs,s,ov,D,hx,rfl,HS⟩:=hrel
   by_cases hlt : x < N
   ·have e1:=A1 (by omega)
    subst e1
    have NW:=HG.out.below HS.out.below
    have g0:=NW.c0 x hlt
    have g1:=NW.c1 x hlt
    have g2:=NW.c2 x hlt
    have HNM : Hid (StrsAt wr (p x).a1 (p x).b1 (p x).o1 (G x).nn (G x).nm):=(NW.node x hlt).names
    obtain ⟨kk,hkk⟩ : ∃ kk : Nat,(G x).kind = (kk : Int):=⟨(G x).kind.toNat,by have:=(HP.out x hlt).kind;omega⟩
    have hk10 : kk < 10:=by have:=(HP.out x hlt).kind;omega
    have HKK : Hid ((G x).kind = (kk : Int)):=hkk
    rw [hkk] at g0
    clear NW hkk
    obtain ⟨J,hJ⟩ : ∃ J : ByteArray,J = ⟨(Lib.join (nmsOf (G x)) [32]).toArray⟩:=⟨_,rfl⟩
    obtain ⟨I,hI⟩ : ∃ I : ByteArray,I = ⟨(Lib.decDigits kk).toArray⟩:=⟨_,rfl⟩
    obtain ⟨K1,hK1⟩ : ∃ K1 : ByteArray,K1 = I ++ ⟨#[32]⟩:=⟨_,rfl⟩
    obtain ⟨K2,hK2⟩ : ∃ K2 : ByteArray,K2 = K1 ++ J:=⟨_,rfl⟩
    have HLK : Hid (K2 = ⟨(lookOf (G x)).toArray⟩):=by
     show K2 = _
     rw [hK2,hK1,hI,hJ]
     have e : (⟨#[32]⟩ : ByteArray) = ⟨([32] : List UInt8).toArray⟩:=rfl
     rw [e,ByteArray.mk_append_mk,ByteArray.mk_append_mk]
     unfold lookOf
     rw [HKK.out];rfl
    have hJs : J.size <= 13631488:=by
     have hl:=inter_len [32] (nmsOf (G x)) 12 (fun a ha=>by
      obtain ⟨i,hi,rfl⟩:=List.mem_map.1 ha
      exact (HM.out x hlt).2 i (List.mem_range.1 hi))
     have hnl : (nmsOf (G x)).length = (G x).nn:=by simp [nmsOf]
     have hn:=(HM.out x hlt).1
     rw [hnl] at hl
     have e : J.size = (([32] : List UInt8).intercalate (nmsOf (G x))).length:=by rw [hJ];rfl
     rw [e]
     simp at hl
     simp
     omega
    have hIs : I.size = 1:=by rw [hI,dig_one hk10];rfl
    have hK1s : K1.size = 2:=by rw [hK1,ByteArray.size_append,hIs];rfl
    have hK2s : K2.size <= 13631490:=by rw [hK2,ByteArray.size_append];omega
    have HLL : Hid ((lookOf (G x)).length <= 13631490):=by
     have : K2.size = (lookOf (G x)).length:=by rw [HLK.out];rfl
     show _ <= _
     omega
    have ad1 : ∀ W,(Op.stringOp .add I ⟨#[32]⟩).run Tryz.prog W = .ok (.string K1) W:=fun W=>by rw [hK1];exact run_string_add_sum W _ _ (by rw [hIs];decide)
    have ad2 : ∀ W,(Op.stringOp .add K1 J).run Tryz.prog W = .ok (.string K2) W:=fun W=>by rw [hK2];exact run_string_add_sum W _ _ (by omega)
    have JC : Hid (∀ W,Below wr.heap.size wr W -> Calls Tryz.prog 101 #[.slice (p x).a1 (G x).nn (p x).c1,.string ⟨#[32]⟩] W fun e w'=>e = .returned (.string J) /\ Below W.heap.size W w'):=fun W hW=>by
     rw [hJ];exact joined (HNM.out.below hW) (HM.out x hlt).1 (HM.out x hlt).2 (HCP.out x hlt)
    have IC : Hid (∀ W,Calls Tryz.prog 100 #[.int .i64 (kk : Int)] W fun e w'=>e = .returned (.string I) /\ w' = W):=fun W=>by
     rw [hI];exact Tryz.strconv_Itoa_small kk (by omega) W
    clear hJ hI hK1 hK2 hIs hK1s hK2s hJs
    obtain ⟨t,ht⟩ : ∃ t,t = (ords G (x + 1)).idxOf (lookOf (G x)):=⟨_,rfl⟩
    obtain ⟨nw,hnw⟩ : ∃ nw,nw = !(ords G x).contains (lookOf (G x)):=⟨_,rfl⟩
    have HTT : Hid (t = (ords G (x + 1)).idxOf (lookOf (G x))):=ht
    have HNW : Hid (nw = !(ords G x).contains (lookOf (G x))):=hnw
    have NC : Hid (∀ W,Below wr.heap.size wr W -> wr.heap.size < W.heap.size -> Calls Tryz.prog 99 #[.pointer (some ⟨wc.heap.size + 1,0,none⟩),.string K2] W fun e w'=>∃ ov' D',e = .returned (.tuple #[.int .i64 (t : Int),.bool nw]) /\ KnS w' (wc.heap.size + 1) wc.heap.size ov' D' (ords G (x + 1)) (fun k=>keepOf w.heap.size (pblk pb bo ba rv wv qv rvs s.nr) k \/ k = wr.heap.size) /\ Kept (fun k=>keepOf w.heap.size (pblk pb bo ba rv wv qv rvs s.nr) k \/ k = wr.heap.size) W w'):=fun W hW hs=>by
     have k0:=HS.out.kn.below hW
     have hkl:=HS.out.kn.row.lt
     have hml:=HS.out.kn.mlt
     have k1 : KnS W (wc.heap.size + 1) wc.heap.size ov D (ords G x) (fun k=>keepOf w.heap.size (pblk pb bo ba rv wv qv rvs s.nr) k \/ k = wr.heap.size):=⟨k0.row,k0.mlt,k0.map,k0.has,k0.val,k0.own,fun k c=>by
      rcases c with c | c
      ·exact k0.far k c
      ·subst c
       exact ⟨hs,by omega,by omega,fun e=>by have:=(HS.out.kn.own.lt _ e.symm).2;omega⟩⟩
     have C:=c92 (wc.heap.size + 1) wc.heap.size ov D (ords G x) _ (lookOf (G x)) W k1 (by have:=HLL.out;unfold maxLen;omega) (by have:=ords_len (G:=G) x;omega)
     rw [ht,hnw,HLK.out]
     exact C
    clear ht hnw
    have t0 : (wr.alloc (.cells #[.int .i64 (kk : Int),.slice (p x).a1 (G x).nn (p x).c1,.slice (p x).a2 (G x).nk (p x).c2] 48)).cell? ⟨wr.heap.size,0,none⟩ = some (.int .i64 (kk : Int)):=(row3 wr (.int .i64 (kk : Int)) (.slice (p x).a1 (G x).nn (p x).c1) (.slice (p x).a2 (G x).nk (p x).c2) 48).cell (i:=0) (by omega)
    have t1 : (wr.alloc (.cells #[.int .i64 (kk : Int),.slice (p x).a1 (G x).nn (p x).c1,.slice (p x).a2 (G x).nk (p x).c2] 48)).cell? ⟨wr.heap.size,1,none⟩ = some (.slice (p x).a1 (G x).nn (p x).c1):=(row3 wr (.int .i64 (kk : Int)) (.slice (p x).a1 (G x).nn (p x).c1) (.slice (p x).a2 (G x).nk (p x).c2) 48).cell (i:=1) (by omega)
    have BA : Below wr.heap.size wr (wr.alloc (.cells #[.int .i64 (kk : Int),.slice (p x).a1 (G x).nn (p x).c1,.slice (p x).a2 (G x).nk (p x).c2] 48)):=bel1 _ _
    obtain ⟨od,hod⟩ : ∃ od,od = Obj.cells #[.int .i64 (kk : Int),.slice (p x).a1 (G x).nn (p x).c1,.slice (p x).a2 (G x).nk (p x).c2] 48:=⟨_,rfl⟩
    rw [<- hod] at t0 t1 BA
    go_wp2_with fail
    rw [<- hod]
    clear hod g0 g1 g2
    go_region_held3 (fun w'=>w'.cell? ⟨wr.heap.size,0,none⟩ = some (.int .i64 (kk : Int)) /\ w'.cell? ⟨wr.heap.size,1,none⟩ = some (.slice (p x).a1 (G x).nn (p x).c1)) (go_keep)
     (first
      | (go_at_call 100;refine (IC.out _).mono ?_;rintro e w3 ⟨rfl,rfl⟩)
      | (go_at_call 101;refine (JC.out _ (by first | exact BA.drew | exact BA)).mono ?_;rintro e w4 ⟨rfl,hb4⟩;have z0:=(hb4.cell (p:=⟨wr.heap.size,0,none⟩) (by simp)).trans t0;have z1:=(hb4.cell (p:=⟨wr.heap.size,1,none⟩) (by simp)).trans t1;have B4 : Below wr.heap.size wr w4:=(by first | exact BA.drew.trans (hb4.mono (by simp)) | exact BA.trans (hb4.mono (by simp)));have hs4 : wr.heap.size < w4.heap.size:=Nat.lt_of_lt_of_le (by simp) hb4.size)
      | (go_at_call 99;refine (NC.out _ (by first | exact B4 | exact B4.drew) (by first | exact hs4 | (simp;exact hs4))).mono ?_;rintro e w5 ⟨ov5,D5,rfl,hk5,hp5⟩;have y0:=(hp5.cell (a:=⟨wr.heap.size,0,none⟩) (Or.inr rfl)).trans z0;have y1:=(hp5.cell (a:=⟨wr.heap.size,1,none⟩) (Or.inr rfl)).trans z1))
    obtain ⟨P5,B5,K5⟩:=sp_number HS.out B4 hk5 hp5
    have HP5 : Hid (Pt w5 w.heap.size pb bo ba N rv wv qv rvs s /\ Below w.heap.size w w5 /\ KnS w5 (wc.heap.size + 1) wc.heap.size ov5 D5 (ords G (x + 1)) (keepOf w.heap.size (pblk pb bo ba rv wv qv rvs s.nr))):=⟨P5,B5,K5⟩
    have hnr : s.nr <= x:=by rw [HS.out.st.nr];exact ords_len x
    clear hk5 hp5 B4 hb4 z0 z1 y0 y1 t0 t1 BA K5 B5 P5 NC JC IC ad1 ad2 hs4
    cases hc : (ords G x).contains (lookOf (G x)) with
    | true=>
      have hnw : nw = false:=by rw [HNW.out,hc];rfl
      subst hnw
      obtain ⟨ST1,htn⟩:=st_old HS.out.st hc
      rw [<- HTT.out] at ST1 htn
      have C97:=c97 w.heap.size pb bo ba N rv wv qv rvs s x t w5 HP5.out.1 hlt htn (by omega) (by omega) (by have:=HS.out.st.rows t htn;omega)
      clear hc
      go_wp2_with (first | (go_at_call 104;refine C97.mono ?_;rintro e w6 ⟨rfl,v6,P6,F6⟩))
      have FH : Hid (Sp w w6 pb bo ba N G (x + 1) (wc.heap.size + 1) wc.heap.size rv wv qv (upd rvs t v6) (putS s x t) ov5 D5):=
       ⟨P6,ST1,HP5.out.2.2.frame F6 (fun i y e=>(P6.blk_lt i y e).2),HP5.out.2.1.trans F6.below⟩
      clear C97 P6 F6
      go_wp2
      exact ⟨⟨x + 1,_,_,_,_,_,_,_,by omega,by simp,FH⟩,by simp [intOf];omega⟩
    | false=>
      have hnw : nw = true:=by rw [HNW.out,hc];rfl
      subst hnw
      obtain ⟨htn,ST1⟩:=st_new HS.out.st hc
      rw [<- HTT.out] at htn
      subst htn
      have C95:=c95 w.heap.size pb bo ba N rv wv qv rvs s w5 HP5.out.1 (by omega)
      clear hc
      go_wp2_with (first
       | (go_at_call 102;refine C95.mono ?_;rintro e w6 ⟨rfl,rv6,wv6,P6,F6⟩;have K6:=HP5.out.2.2.frame F6 (fun i y e=>(P6.blk_lt i y e).2);have C96:=c96 w.heap.size pb bo ba N rv6 wv6 qv _ (addS' s) s.nr w6 P6 (Nat.lt_succ_self _) (by show s.nr + 1 <= _;omega) (by have:=wq_len HS.out.st.wq;show s.waiting.length <= _;omega))
       | (go_at_call 103;refine C96.mono ?_;rintro e w7 ⟨rfl,qv7,P7,F7⟩;have K7:=K6.frame F7 (fun i y e=>(P7.blk_lt i y e).2);have C97:=c97 w.heap.size pb bo ba N rv6 wv6 qv7 _ (waitS (addS' s) s.nr) x s.nr w7 P7 hlt (by rw [(waitS_same (addS' s) s.nr).2.2.1];exact Nat.lt_succ_self _) (by omega) (by rw [(waitS_same (addS' s) s.nr).2.2.1];show s.nr + 1 <= _;omega) (by rw [(waitS_same (addS' s) s.nr).2.1];show (upd s.rows s.nr [] s.nr).length <= _;rw [upd_same];exact Nat.zero_le _))
       | (go_at_call 104;refine C97.mono ?_;rintro e w8 ⟨rfl,v8,P8,F8⟩))
      have FH : Hid (Sp w w8 pb bo ba N G (x + 1) (wc.heap.size + 1) wc.heap.size rv6 wv6 qv7 _ (putS (waitS (addS' s) s.nr) x s.nr) ov5 D5):=
       ⟨P8,ST1,K7.frame F8 (fun i y e=>(P8.blk_lt i y e).2),((HP5.out.2.1.trans F6.below).trans F7.below).trans F8.below⟩
      clear C95 C96 C97 P6 P7 P8 F6 F7 F8 K6 K7
      go_wp2
      exact ⟨⟨x + 1,_,_,_,_,_,_,_,by omega,by simp,FH⟩,by simp [intOf];omega⟩
   ·have hxe : x = N:=by omega
    have FH : Hid (Pt wr w.heap.size pb bo ba N rv wv qv rvs s /\ St G N s /\ Below w.heap.size w wr):=by
     have z:=HS.out
     rw [hxe] at z
     exact ⟨z.pt,z.st,z.below⟩
    clear HS hxe
    go_wp2
    go_ret
    exact ⟨pb,bo,ba,rv,wv,qv,rvs,s,rfl,FH.out⟩
theorem pblk_qq {pb bo ba nr : Nat} {rv wv qv qv' : Value} {rvs : Nat -> Value} (h : qv'.ownBlock = qv.ownBlock) : pblk pb bo ba rv wv qv' rvs nr = pblk pb bo ba rv wv qv rvs nr:=by
 funext i
 rw [pblk_q (qv:=qv)]
 by_cases e : i = 5
 ·rw [if_pos e,h,e];rfl
 ·rw [if_neg e]
theorem Pt.pop {w : World} {base pb bo ba N wbk capW qb cap n P : Nat} {rv : Value} {rvs : Nat -> Value} {s : PS} {ys : List Nat} (hw : s.waiting = ys ++ [P]) (hn : ys.length = n)
  (h : Pt w base pb bo ba N rv (.slice (some ⟨wbk,0,none⟩) s.nr capW) (.slice (some ⟨qb,0,none⟩) (n + 1) cap) rvs s) :
  Pt ((w.setCell ⟨pb,4,none⟩ (.slice (some ⟨qb,0,none⟩) n cap)).setCell ⟨wbk,P,none⟩ (.bool false)) base pb bo ba N rv (.slice (some ⟨wbk,0,none⟩) s.nr capW) (.slice (some ⟨qb,0,none⟩) n cap) rvs (popS s P) /\
  Fr base w ((w.setCell ⟨pb,4,none⟩ (.slice (some ⟨qb,0,none⟩) n cap)).setCell ⟨wbk,P,none⟩ (.bool false)) (pblk pb bo ba rv (.slice (some ⟨wbk,0,none⟩) s.nr capW) (.slice (some ⟨qb,0,none⟩) (n + 1) cap) rvs s.nr) (pblk pb bo ba rv (.slice (some ⟨wbk,0,none⟩) s.nr capW) (.slice (some ⟨qb,0,none⟩) n cap) rvs s.nr):=by
 have eq : pblk pb bo ba rv (.slice (some ⟨wbk,0,none⟩) s.nr capW) (.slice (some ⟨qb,0,none⟩) n cap) rvs s.nr = pblk pb bo ba rv (.slice (some ⟨wbk,0,none⟩) s.nr capW) (.slice (some ⟨qb,0,none⟩) (n + 1) cap) rvs s.nr:=pblk_qq rfl
 have P0 : pblk pb bo ba rv (.slice (some ⟨wbk,0,none⟩) s.nr capW) (.slice (some ⟨qb,0,none⟩) (n + 1) cap) rvs s.nr 0 = some pb:=rfl
 have P4 : pblk pb bo ba rv (.slice (some ⟨wbk,0,none⟩) s.nr capW) (.slice (some ⟨qb,0,none⟩) (n + 1) cap) rvs s.nr 4 = some wbk:=rfl
 have P5 : pblk pb bo ba rv (.slice (some ⟨wbk,0,none⟩) s.nr capW) (.slice (some ⟨qb,0,none⟩) (n + 1) cap) rvs s.nr 5 = some qb:=rfl
 have lt:=h.blk_lt
 have bl : ∀ x,x ≠ pb -> x ≠ wbk -> ((w.setCell ⟨pb,4,none⟩ (.slice (some ⟨qb,0,none⟩) n cap)).setCell ⟨wbk,P,none⟩ (.bool false)).heap[x]? = w.heap[x]?:=fun x h1 h2=>by
  rw [Below.heap_setCell _ _ _ _ (by show x ≠ wbk;exact h2),Below.heap_setCell _ _ _ _ (by show x ≠ pb;exact h1)]
 have ob : ∀ i x,i ≠ 0 -> i ≠ 4 -> pblk pb bo ba rv (.slice (some ⟨wbk,0,none⟩) s.nr capW) (.slice (some ⟨qb,0,none⟩) (n + 1) cap) rvs s.nr i = some x -> ((w.setCell ⟨pb,4,none⟩ (.slice (some ⟨qb,0,none⟩) n cap)).setCell ⟨wbk,P,none⟩ (.bool false)).heap[x]? = w.heap[x]?:=fun i x h0 h4 hx=>
  bl x (fun e=>h0 (h.dis _ _ x hx (by rw [P0,e]))) (fun e=>h4 (h.dis _ _ x hx (by rw [P4,e])))
 have nwp : wbk ≠ pb:=fun e=>by have:=h.dis 4 0 wbk P4 (by rw [P0,e]);omega
 have sz : ((w.setCell ⟨pb,4,none⟩ (.slice (some ⟨qb,0,none⟩) n cap)).setCell ⟨wbk,P,none⟩ (.bool false)).heap.size = w.heap.size:=by simp [World.setCell]
 refine ⟨⟨?_,h.of_.of_block (ob 1 bo (by omega) (by omega) rfl),h.loc_.of_block (ob 2 ba (by omega) (by omega) rfl),own_block h.rows (fun k e=>ob 3 k (by omega) (by omega) e.symm),fun i hi=>own_block (h.inner i hi) (fun k q=>ob (i + 6) k (by omega) (by omega) (by simp only [pblk];rw [if_pos (show i < s.nr from hi)];exact q.symm)),?_,?_,?_,⟨h.big.1,h.big.2.1,h.big.2.2.1,by rw [sz];exact h.big.2.2.2⟩⟩,⟨⟨rfl,rfl,rfl,by rw [sz];exact Nat.le_refl _,fun k hk=>?_⟩,fun k hk hno=>?_,fun i x e=>?_⟩⟩
 ·refine ((h.row.set 4 _).of_block (Below.heap_setCell _ _ _ _ (by show pb ≠ wbk;exact fun e=>nwp e.symm))).congr (fun i hi=>?_)
  match i,hi with
  | 0,_=>rfl
  | 1,_=>rfl
  | 2,_=>rfl
  | 3,_=>rfl
  | 4,_=>rfl
 ·have h1 : (w.setCell ⟨pb,4,none⟩ (.slice (some ⟨qb,0,none⟩) n cap)).ownsRow base 4 1 (.slice (some ⟨wbk,0,none⟩) s.nr capW) s.nr ((List.range s.nr).map fun i=>.bool (s.waits i)):=own_block h.waits (fun k e=>Below.heap_setCell _ _ _ _ (by
   have ek : k = wbk:=by simpa [Value.ownBlock] using e
   show k ≠ pb
   rw [ek];exact nwp))
  have hw1:=(h1.stored P (.bool false)).1
  have : ((List.range s.nr).map fun i=>Value.bool (s.waits i)).set P (.bool false) = (List.range s.nr).map fun i=>.bool (upd s.waits P false i):=by
   rw [map_set]
   refine List.map_congr_left (fun i _=>?_)
   simp only [upd]
   by_cases e : i = P
   ·rw [if_pos e,if_pos e]
   ·rw [if_neg e,if_neg e]
  rw [this] at hw1
  exact hw1
 ·have h1:=h.waiting
  have hl : s.waiting.length = n + 1:=by rw [hw,List.length_append,hn];rfl
  rw [hl] at h1
  have h2:=own_shorter h1
  have e1 : (icells s.waiting).dropLast = icells s.waiting.dropLast:=by simp [icells,List.map_dropLast]
  have e2 : s.waiting.dropLast.length = n:=by rw [hw];simp [hn]
  show World.ownsRow _ base 3 1 _ s.waiting.dropLast.length (icells s.waiting.dropLast)
  rw [e2,<- e1]
  exact own_block h2 (fun k e=>ob 5 k (by omega) (by omega) (by rw [P5];exact e.symm))
 ·show ∀ i j x,pblk pb bo ba rv (.slice (some ⟨wbk,0,none⟩) s.nr capW) (.slice (some ⟨qb,0,none⟩) n cap) rvs s.nr i = some x -> _
  rw [eq];exact h.dis
 ·have h1:=(lt 0 pb P0).1
  have h2:=(lt 4 wbk P4).1
  exact bl k (by omega) (by omega)
 ·exact bl k (fun e=>hno 0 (by rw [P0,e])) (fun e=>hno 4 (by rw [P4,e]))
 ·rw [eq] at e
  exact Or.inl ⟨i,e⟩
structure EdOff (w : World) (bi N : Nat) (evs : Nat -> Value) (blk : Nat -> Option Nat) : Prop where
 row : bi < w.heap.size /\ Off blk bi
 inner : ∀ i k,i < N -> (evs i).ownBlock = some k -> k < w.heap.size /\ Off blk k
theorem Into.frame {w w' : World} {base base2 bi N : Nat} {evs : Nat -> Value} {E : Nat -> List (Nat × Nat)} {blk blk' : Nat -> Option Nat} (h : Into w base2 bi N evs E) (ha : EdOff w bi N evs blk) (hf : Fr base w w' blk blk') : Into w' base2 bi N evs E /\ EdOff w' bi N evs blk':=by
 have hs:=hf.below.size
 refine ⟨⟨h.row.of_block (hf.frame bi ha.row.1 ha.row.2),fun k hk=>own_block (h.inner k hk) (fun x e=>hf.frame x (ha.inner k x hk e.symm).1 (ha.inner k x hk e.symm).2),h.dis,h.far,⟨h.big.1,Nat.le_trans h.big.2 hs⟩⟩,
  ⟨⟨Nat.lt_of_lt_of_le ha.row.1 hs,hf.off ha.row.1 ha.row.2⟩,fun i k hi e=>⟨Nat.lt_of_lt_of_le (ha.inner i k hi e).1 hs,hf.off (ha.inner i k hi e).1 (ha.inner i k hi e).2⟩⟩⟩
theorem EdOff.below {w w' : World} {bi N : Nat} {evs : Nat -> Value} {blk : Nat -> Option Nat} (h : EdOff w bi N evs blk) (hs : w.heap.size <= w'.heap.size) : EdOff w' bi N evs blk:=
 ⟨⟨Nat.lt_of_lt_of_le h.row.1 hs,h.row.2⟩,fun i k hi e=>⟨Nat.lt_of_lt_of_le (h.inner i k hi e).1 hs,(h.inner i k hi e).2⟩⟩
def lenAt (w : World) (b o : Nat) : Nat:=
 match w.cell? ⟨b,o,none⟩ with
 | some (.slice _ n _)=>n
 | _=>0
structure Ty (w wr : World) (pb bo ba N : Nat) (G : Nat -> ND) (base2 bi : Nat) (evs : Nat -> Value) (rv wv qv : Value) (rvs : Nat -> Value) (s : PS) : Prop where
 pt : Pt wr w.heap.size pb bo ba N rv wv qv rvs s
 ok : Ok N s
 parts : Parts N G s.of
 stab : ∀ C,Stab N G s.of (wt s) C (fun _=>False)
 into : Into wr base2 bi N evs (fun k=>edgesTill G N 0 k)
 apart : EdOff wr bi N evs (pblk pb bo ba rv wv qv rvs s.nr)
 below : Below w.heap.size w wr
theorem Ty.lens {w wr : World} {pb bo ba N : Nat} {G : Nat -> ND} {base2 bi : Nat} {evs : Nat -> Value} {rv wv qv : Value} {rvs : Nat -> Value} {s : PS} (h : Ty w wr pb bo ba N G base2 bi evs rv wv qv rvs s) : lenAt wr pb 4 = s.waiting.length /\ lenAt wr pb 1 = s.nr:=by
 obtain ⟨a1,c1,e1⟩:=own_form h.pt.waiting
 obtain ⟨a2,c2,e2⟩:=own_form h.pt.rows
 have r4 : wr.cell? ⟨pb,4,none⟩ = some qv:=h.pt.row.cell (i:=4) (by omega)
 have r1 : wr.cell? ⟨pb,1,none⟩ = some rv:=h.pt.row.cell (i:=1) (by omega)
 unfold lenAt
 rw [r4,r1,e1,e2]
 exact ⟨rfl,rfl⟩
end Go.Proofs.YtpbpbppimkeodaaGreatDoor
