/-
  JoE JoF
-/
import Derived.Test.YtpbpbppimkeodaaGreatDoorSt
import Derived.Deep.RegionHeld3
import Derived.Test.YtpbpbppimkeodaaGreatDoorSv
set_option maxRecDepth 100000
namespace Go.Proofs.YtpbpbppimkeodaaGreatDoor
open Go.RowKit Go.Maps
theorem Tryz.info81 : (Tryz.prog.info? 81).map (fun i=>(i.zero,i.size,i.bytes)) = some (some (.agg #[.int .i64 0,.int .i64 0,.bool false]),3,24):=by kernel_rfl
theorem own_lower {w : World} {b b' : Nat} {e : TypeId} {sz : Nat} {v : Value} {n : Nat} {xs : List Value} (h : w.ownsRow b e sz v n xs) (hb : b' <= b) : w.ownsRow b' e sz v n xs:=by
 obtain ⟨h1,h2⟩:=h
 refine ⟨h1,?_⟩
 rcases h2 with q | ⟨g,cap,cur,a,c,d⟩
 ·exact Or.inl q
 ·exact Or.inr ⟨g,cap,cur,a,by omega,d⟩
theorem quiet_two {P : Program} {f : FuncId} {args : Array Value} {w : World} {n0 n : Nat} {v : Value}
  (h : Calls P f args (w.drewN (n0 + n)) fun e w'=>e = .returned v /\ ∃ m,w' = (w.drewN (n0 + n)).drewN m) : Calls P f args (w.drewN (n0 + n)) fun e w''=>e = .returned v /\ ∃ m,w'' = w.drewN (n0 + m):=
 h.mono fun _ _ ⟨he,m,hm⟩=>⟨he,n + m,by rw [hm,World.drewN_drewN,Nat.add_assoc]⟩
structure MxI (w0 wr : World) (vn vk : Value) (acc : List (ByteArray × Kq)) : Prop where
 own1 : wr.ownsRow w0.heap.size 9 1 vn acc.length (tcells (acc.map Prod.fst))
 own2 : wr.ownsRow w0.heap.size 81 3 vk acc.length (kcells (acc.map Prod.snd))
 ne : ∀ b,vn.ownBlock = some b -> vk.ownBlock ≠ some b
 below : Below w0.heap.size w0 wr
theorem MxI.drew {w0 wr : World} {vn vk : Value} {acc : List (ByteArray × Kq)} (h : MxI w0 wr vn vk acc) (m : Nat) : MxI w0 (wr.drewN m) vn vk acc:=
 ⟨own_block h.own1 (fun _ _=>rfl),own_block h.own2 (fun _ _=>rfl),h.ne,below_drewN h.below _⟩
theorem mx_keep {w0 wr w6 : World} {vn vk : Value} {acc : List (ByteArray × Kq)} {o : Obj} (h : MxI w0 wr vn vk acc) (hg : (wr.alloc o).grownBy w6 vn.ownBlock) : w6.ownsRow w0.heap.size 81 3 vk acc.length (kcells (acc.map Prod.snd)):=
 own_block h.own2 (fun j e=>(hg.block j (by have:=(h.own2.lt j e.symm).2;simp;omega) (fun e2=>h.ne j e2.symm e.symm)).trans (Below.heap_alloc _ _ _ (h.own2.lt j e.symm).2))
theorem mx_below {w0 wr w6 : World} {vn vk : Value} {acc : List (ByteArray × Kq)} {o : Obj} (h : MxI w0 wr vn vk acc) (hg : (wr.alloc o).grownBy w6 vn.ownBlock) : Below w0.heap.size w0 w6:=below_grown h.below h.below.size hg (fun j e=>(h.own1.lt j e).1)
theorem mx_step {w0 wr w6 w8 : World} {vn vk : Value} {acc : List (ByteArray × Kq)} {o o2 : Obj} {gg cap6 hh cap8 m : Nat} {s : ByteArray} {k : Kq} (h : MxI w0 wr vn vk acc) (hm : acc.length = m)
  (hg6 : (wr.alloc o).grownBy w6 vn.ownBlock) (hat6 : vn.ownBlock = some gg \/ gg = wr.heap.size + 1) (hown6 : w6.ownsRow w0.heap.size 9 1 (.slice (some ⟨gg,0,none⟩) (m + 1) cap6) (m + 1) (tcells (acc.map Prod.fst) ++ [.string s]))
  (hg8 : (w6.alloc o2).grownBy w8 vk.ownBlock) (hat8 : vk.ownBlock = some hh \/ hh = w6.heap.size + 1) (hown8 : w8.ownsRow w0.heap.size 81 3 (.slice (some ⟨hh,0,none⟩) (m + 1) cap8) (m + 1) (kcells (acc.map Prod.snd) ++ kcell k)) :
  MxI w0 w8 (.slice (some ⟨gg,0,none⟩) (m + 1) cap6) (.slice (some ⟨hh,0,none⟩) (m + 1) cap8) (acc ++ [(s,k)]):=by
 have s6:=hg6.size
 have s8:=hg8.size
 simp only [World.size_alloc] at s6 s8
 have ggk : vk.ownBlock ≠ some gg:=fun e=>by
  rcases hat6 with q | q
  ·exact h.ne gg q e
  ·have:=(h.own2.lt gg e).2;omega
 have lt6 : gg < w6.heap.size:=(hown6.lt gg rfl).2
 have key : w8.heap[gg]? = w6.heap[gg]?:=(hg8.block gg (by simp;omega) (fun e=>ggk e.symm)).trans (Below.heap_alloc _ _ _ lt6)
 have hl : (acc ++ [(s,k)]).length = m + 1:=by simp [hm]
 refine ⟨?_,?_,fun b e1 e2=>?_,?_⟩
 ·rw [hl,List.map_append]
  unfold tcells
  rw [List.map_append]
  exact own_block hown6 (fun j e=>by
   have : j = gg:=by simpa [Value.ownBlock] using e
   rw [this];exact key)
 ·rw [hl,List.map_append]
  have : kcells (acc.map Prod.snd ++ [(s,k)].map Prod.snd) = kcells (acc.map Prod.snd) ++ kcell k:=by unfold kcells;simp
  rw [this];exact hown8
 ·have e3 : gg = b:=by simpa [Value.ownBlock] using e1
  have e4 : hh = b:=by simpa [Value.ownBlock] using e2
  rcases hat8 with q | q
  ·exact ggk (by rw [q,e4,e3])
  ·omega
 ·have b1 : Below w0.heap.size w0 w6:=below_grown h.below h.below.size hg6 (fun j e=>(h.own1.lt j e).1)
  exact below_grown b1 b1.size hg8 (fun j e=>(h.own2.lt j e).1)
set_option maxHeartbeats 8000000 in
theorem m_mixed3 {n b o : Nat} {p : Nat -> NP} {H : Nat -> ND} (ao : Option Addr) (gc : Nat) (q : Qn) (w : World) (hG : NodesAt w ao b o n p H) (ha : q.a < n) (hb : q.b < n) (sx : ShQ (H q.a)) (sy : ShQ (H q.b)) (hex : (H q.a).kind = 3 /\ (H q.b).kind = 3) :
  Calls Tryz.prog 60 #[.agg #[.slice ao n gc],.agg #[.int .i64 (q.a : Int),.int .i64 (q.b : Int),.bool q.up]] w (MixedPost w (H q.a) (H q.b) q.up):=by
 have A1:=hG.at_ (by omega)
 subst A1
 have HG : Hid (∀ w',Below w.heap.size w w' -> NodesAt w' (some ⟨b,o,none⟩) b o n p H):=fun w' hb=>hG.below hb
 clear hG
 obtain ⟨x,hx⟩ : ∃ x,x = H q.a:=⟨_,rfl⟩
 obtain ⟨y,hy⟩ : ∃ y,y = H q.b:=⟨_,rfl⟩
 obtain ⟨px,hpx⟩ : ∃ y,y = p q.a:=⟨_,rfl⟩
 obtain ⟨py,hpy⟩ : ∃ y,y = p q.b:=⟨_,rfl⟩
 have HC : Hid (∀ w',Below w.heap.size w w' -> (w'.cell? ⟨b,o + q.a * 3,none⟩ = some (.int .i64 x.kind) /\ w'.cell? ⟨b,o + q.a * 3 + 1,none⟩ = some (.slice px.a1 x.nn px.c1) /\ w'.cell? ⟨b,o + q.a * 3 + 2,none⟩ = some (.slice px.a2 x.nk px.c2)) /\ (w'.cell? ⟨b,o + q.b * 3,none⟩ = some (.int .i64 y.kind) /\ w'.cell? ⟨b,o + q.b * 3 + 1,none⟩ = some (.slice py.a1 y.nn py.c1) /\ w'.cell? ⟨b,o + q.b * 3 + 2,none⟩ = some (.slice py.a2 y.nk py.c2)) /\ NodeAt w' px x /\ NodeAt w' py y):=fun w' hw=>by
  have N:=HG.out w' hw
  rw [hx,hy,hpx,hpy]
  exact ⟨⟨N.c0 _ ha,N.c1 _ ha,N.c2 _ ha⟩,⟨N.c0 _ hb,N.c1 _ hb,N.c2 _ hb⟩,N.node _ ha,N.node _ hb⟩
 rw [<- hx,<- hy]
 rw [<- hx,<- hy] at hex
 rw [<- hx] at sx
 rw [<- hy] at sy
 have SX : Hid (ShQ x):=sx
 have SY : Hid (ShQ y):=sy
 clear hx hy hpx hpy sx sy HG
 have la : (q.a : Int) < (n : Int):=by omega
 have lb : (q.b : Int) < (n : Int):=by omega
 obtain ⟨qa,hqa⟩ : ∃ z,z = q.a:=⟨_,rfl⟩
 obtain ⟨qb,hqb⟩ : ∃ z,z = q.b:=⟨_,rfl⟩
 obtain ⟨qu,hqu⟩ : ∃ z,z = q.up:=⟨_,rfl⟩
 rw [<- hqa,<- hqb,<- hqu]
 rw [<- hqa] at la HC
 rw [<- hqb] at lb HC
 clear hqa hqb hqu ha hb
 obtain ⟨W2,hW2⟩ : ∃ W2,W2 = (w.alloc (.cells #[.slice (some ⟨b,o,none⟩) n gc] 29)).alloc (.cells #[.int .i64 (qa : Int),.int .i64 (qb : Int),.bool qu] 81):=⟨_,rfl⟩
 have B2 : Below w.heap.size w W2:=by rw [hW2];exact bel2 _ _ _
 obtain ⟨⟨a0,a1,a2⟩,_,_⟩:=HC.out W2 B2
 rw [hW2] at a0 a1 a2
 have b0:=fun v=>(HC.out _ (bel3 w (.cells #[.slice (some ⟨b,o,none⟩) n gc] 29) (.cells #[.int .i64 (qa : Int),.int .i64 (qb : Int),.bool qu] 81) (.cells #[v,.slice px.a1 x.nn px.c1,.slice px.a2 x.nk px.c2] 48))).2.1.1
 have b1:=fun v=>(HC.out _ (bel3 w (.cells #[.slice (some ⟨b,o,none⟩) n gc] 29) (.cells #[.int .i64 (qa : Int),.int .i64 (qb : Int),.bool qu] 81) (.cells #[v,.slice px.a1 x.nn px.c1,.slice px.a2 x.nk px.c2] 48))).2.1.2.1
 have b2:=fun v=>(HC.out _ (bel3 w (.cells #[.slice (some ⟨b,o,none⟩) n gc] 29) (.cells #[.int .i64 (qa : Int),.int .i64 (qb : Int),.bool qu] 81) (.cells #[v,.slice px.a1 x.nn px.c1,.slice px.a2 x.nk px.c2] 48))).2.1.2.2
 have HW : Hid (∀ u v : Value,∃ W5,W5 = ((((w.alloc (.cells #[.slice (some ⟨b,o,none⟩) n gc] 29)).alloc (.cells #[.int .i64 (qa : Int),.int .i64 (qb : Int),.bool qu] 81)).alloc (.cells #[v,.slice px.a1 x.nn px.c1,.slice px.a2 x.nk px.c2] 48)).alloc (.cells #[u,.slice py.a1 y.nn py.c1,.slice py.a2 y.nk py.c2] 48)).alloc (.cells #[] 9) /\ W5.heap.size = w.heap.size + 5 /\ Below w.heap.size w W5 /\ W5.ownsRow w.heap.size 9 1 (.slice (some ⟨w.heap.size + 4,0,none⟩) 0 0) 0 (tcells []) /\ W5.cell? ⟨w.heap.size + 1,2,none⟩ = some (.bool qu) /\ (W5.cell? ⟨w.heap.size + 1 + 1,1,none⟩ = some (.slice px.a1 x.nn px.c1) /\ W5.cell? ⟨w.heap.size + 1 + 1,2,none⟩ = some (.slice px.a2 x.nk px.c2)) /\ (W5.cell? ⟨w.heap.size + 1 + 1 + 1,1,none⟩ = some (.slice py.a1 y.nn py.c1) /\ W5.cell? ⟨w.heap.size + 1 + 1 + 1,2,none⟩ = some (.slice py.a2 y.nk py.c2))):=fun u v=>by
  have hs : ((((w.alloc (.cells #[.slice (some ⟨b,o,none⟩) n gc] 29)).alloc (.cells #[.int .i64 (qa : Int),.int .i64 (qb : Int),.bool qu] 81)).alloc (.cells #[v,.slice px.a1 x.nn px.c1,.slice px.a2 x.nk px.c2] 48)).alloc (.cells #[u,.slice py.a1 y.nn py.c1,.slice py.a2 y.nk py.c2] 48)).heap.size = w.heap.size + 4:=by simp
  have r1:=row3 (w.alloc (.cells #[.slice (some ⟨b,o,none⟩) n gc] 29)) (.int .i64 (qa : Int)) (.int .i64 (qb : Int)) (.bool qu) 81
  have r2:=row3 ((w.alloc (.cells #[.slice (some ⟨b,o,none⟩) n gc] 29)).alloc (.cells #[.int .i64 (qa : Int),.int .i64 (qb : Int),.bool qu] 81)) v (.slice px.a1 x.nn px.c1) (.slice px.a2 x.nk px.c2) 48
  have r3:=row3 (((w.alloc (.cells #[.slice (some ⟨b,o,none⟩) n gc] 29)).alloc (.cells #[.int .i64 (qa : Int),.int .i64 (qb : Int),.bool qu] 81)).alloc (.cells #[v,.slice px.a1 x.nn px.c1,.slice px.a2 x.nk px.c2] 48)) u (.slice py.a1 y.nn py.c1) (.slice py.a2 y.nk py.c2) 48
  simp only [World.size_alloc] at r1 r2 r3
  refine ⟨_,rfl,by simp,(bel3 w _ _ _).trans ((bel2 _ _ _).mono (by simp;omega)),?_,((((r1.alloc _).alloc _).alloc _).cell (i:=2) (by omega)),⟨(((r2.alloc _).alloc _).cell (i:=1) (by omega)),(((r2.alloc _).alloc _).cell (i:=2) (by omega))⟩,⟨((r3.alloc _).cell (i:=1) (by omega)),((r3.alloc _).cell (i:=2) (by omega))⟩⟩
  have:=World.ownsRow_lit ((((w.alloc (.cells #[.slice (some ⟨b,o,none⟩) n gc] 29)).alloc (.cells #[.int .i64 (qa : Int),.int .i64 (qb : Int),.bool qu] 81)).alloc (.cells #[v,.slice px.a1 x.nn px.c1,.slice px.a2 x.nk px.c2] 48)).alloc (.cells #[u,.slice py.a1 y.nn py.c1,.slice py.a2 y.nk py.c2] 48)) (e:=9) (size:=1) (base:=w.heap.size) #[] 0 (by rw [hs];omega) (by unfold maxLen;omega) (by rfl)
  rw [hs] at this
  exact this
 go_enter Tryz.func60,Tryz.ntmps60
 have HKX : Hid (x.kind = 3):=hex.1
 have HKY : Hid (y.kind = 3):=hex.2
 rw [HKX.out] at a0
 simp only [HKY.out] at b0
 clear hex
 have HX : Hid (x.nk = x.nn):=SX.out.rc HKX.out
 have HY : Hid (y.nk = y.nn):=SY.out.rc HKY.out
 have hxn:=SX.out.nn
 have hyn:=SY.out.nn
 obtain ⟨i9,hs0,hs1,hs2,hs3⟩:=info_parts Tryz.info9
 obtain ⟨i8,ht0,ht1,ht2,ht3⟩:=info_parts Tryz.info81
 go_wp2
 obtain ⟨W5,e5,z5,b5,o5,cm,⟨cx1,cx2⟩,⟨cy1,cy2⟩⟩:=HW.out (.int .i64 3) (.int .i64 3)
 rw [<- e5]
 clear e5 a0 a1 a2 b0 b1 b2 HW
 have hz5 : Hid (W5.heap.size = w.heap.size + 5):=z5
 clear z5
 have HRC : Hid (∀ W,Below W5.heap.size W5 W -> W.cell? ⟨w.heap.size + 1,2,none⟩ = some (.bool qu) /\ (W.cell? ⟨w.heap.size + 1 + 1,1,none⟩ = some (.slice px.a1 x.nn px.c1) /\ W.cell? ⟨w.heap.size + 1 + 1,2,none⟩ = some (.slice px.a2 x.nk px.c2)) /\ (W.cell? ⟨w.heap.size + 1 + 1 + 1,1,none⟩ = some (.slice py.a1 y.nn py.c1) /\ W.cell? ⟨w.heap.size + 1 + 1 + 1,2,none⟩ = some (.slice py.a2 y.nk py.c2)) /\ NodeAt W px x /\ NodeAt W py y /\ Below w.heap.size w W):=fun W hW=>by
  have hs:=hz5.out
  have bW : Below w.heap.size w W:=b5.trans (hW.mono b5.size)
  obtain ⟨_,_,NX,NY⟩:=HC.out W bW
  exact ⟨(hW.cell (p:=⟨w.heap.size + 1,2,none⟩) (by show w.heap.size + 1 < W5.heap.size;omega)).trans cm,⟨(hW.cell (p:=⟨w.heap.size + 1 + 1,1,none⟩) (by show w.heap.size + 1 + 1 < W5.heap.size;omega)).trans cx1,(hW.cell (p:=⟨w.heap.size + 1 + 1,2,none⟩) (by show w.heap.size + 1 + 1 < W5.heap.size;omega)).trans cx2⟩,⟨(hW.cell (p:=⟨w.heap.size + 1 + 1 + 1,1,none⟩) (by show w.heap.size + 1 + 1 + 1 < W5.heap.size;omega)).trans cy1,(hW.cell (p:=⟨w.heap.size + 1 + 1 + 1,2,none⟩) (by show w.heap.size + 1 + 1 + 1 < W5.heap.size;omega)).trans cy2⟩,NX,NY,bW⟩
 have ST : Hid (MxI W5 ((W5.alloc (.cells #[] 9)).alloc (.cells #[] 81)) (.slice (some ⟨W5.heap.size,0,none⟩) 0 0) (.slice (some ⟨W5.heap.size + 1,0,none⟩) 0 0) []):=by
  refine ⟨?_,?_,fun b e1 e2=>?_,bel2 _ _ _⟩
  ·have h1 : (W5.alloc (.cells #[] 9)).ownsRow W5.heap.size 9 1 (.slice (some ⟨W5.heap.size,0,none⟩) 0 0) 0 []:=World.ownsRow_lit W5 #[] 0 (Nat.le_refl _) (by unfold maxLen;omega) (by rfl)
   exact own_block h1 (fun j e=>Below.heap_alloc _ _ _ (h1.lt j e.symm).2)
  ·have h1:=World.ownsRow_lit (W5.alloc (.cells #[] 9)) (e:=81) (size:=3) (base:=W5.heap.size) #[] 0 (by simp) (by unfold maxLen;omega) (by rfl)
   simpa [kcells] using h1
  ·have e3 : W5.heap.size = b:=by simpa [Value.ownBlock] using e1
   have e4 : W5.heap.size + 1 = b:=by simpa [Value.ownBlock] using e2
   omega
 clear cm cx1 cx2 cy1 cy2 o5 HC
 go_loopw [11,12,13,14] (fun v11 v12 s13 s14 wr=>∃ (i j m : Nat) (acc : List (ByteArray × Kq)) (na : Option Addr) (nc : Nat) (ka : Option Addr) (kc : Nat),v11 = .slice na m nc /\ v12 = .slice ka m kc /\ s13 = .int .i64 i /\ s14 = .int .i64 j /\ i <= x.nn /\ j <= y.nn /\ Hid (acc.length = m) /\ m <= i + j /\ Hid (acc ++ mixAll x y qu i j = mixAll x y qu 0 0) /\ Hid (MxI W5 wr (.slice na m nc) (.slice ka m kc) acc)) (fun _ _ s13 s14 _=>x.nn + y.nn - (intOf s13).toNat - (intOf s14).toNat)
 case atStart=>exact ⟨0,0,0,[],_,_,_,_,rfl,rfl,rfl,rfl,Nat.zero_le _,Nat.zero_le _,rfl,Nat.zero_le _,rfl,by have h:=ST.out;rw [hz5.out] at h;exact h⟩
 case round=>
  obtain ⟨i,j,m,acc,na,nc,ka,kc,rfl,rfl,rfl,rfl,hi,hj,HAL,hml,HA,HI⟩:=hrel
  clear ST
  have hws:=HI.out.below.size
  obtain ⟨dm,⟨dx1,dx2⟩,⟨dy1,dy2⟩,NX,NY,BWr⟩:=HRC.out wr HI.out.below
  have OWN1 : ∀ t,(wr.drewN t).ownsRow W5.heap.size 9 1 (.slice na m nc) m (tcells (acc.map Prod.fst)):=fun t=>by have:=(HI.out.drew t).own1;rw [HAL.out] at this;exact this
  by_cases hc : i < x.nn \/ j < y.nn
  case neg=>
   have li : ¬ (i : Int) < (x.nn : Int):=by omega
   have lj : ¬ (j : Int) < (y.nn : Int):=by omega
   have F : Hid (MixedPost w x y qu (.returned (.tuple #[.int .i64 3,.slice na m nc,.slice ka m kc])) wr):=by
    have e : x.kind = y.kind:=HKX.out.trans HKY.out.symm
    have hac : acc = mixAll x y qu 0 0:=by have:=HA.out;rw [mixAll_end hc,List.append_nil] at this;exact this
    have m1 : mixK x y = 3:=by unfold mixK;rw [if_pos e];exact HKX.out
    have m2 : mixN x y qu = acc.map Prod.fst:=by unfold mixN;rw [if_pos ⟨e,HKX.out⟩,hac]
    have m3 : mixQ x y qu = acc.map Prod.snd:=by unfold mixQ;rw [if_pos e,if_neg (by rw [HKX.out];decide),if_pos HKX.out,hac]
    have hs:=hz5.out
    refine ⟨na,nc,ka,kc,by rw [m1,m2,m3,List.length_map,List.length_map,HAL.out],?_,?_,BWr⟩
    ·rw [m2,List.length_map];have:=own_lower HI.out.own1 (show w.heap.size <= W5.heap.size by omega);rw [HAL.out] at this ⊢;exact this
    ·rw [m3,List.length_map];have:=own_lower HI.out.own2 (show w.heap.size <= W5.heap.size by omega);rw [HAL.out] at this ⊢;exact this
   go_wp2
   exact bodyPost_ret (v:=.tuple #[.int .i64 3,.slice na m nc,.slice ka m kc]) (by simp [results,Tryz.results60,go_sem]) rfl F.out
  by_cases hj1 : j < y.nn
  case neg=>
   have hi1 : i < x.nn:=by omega
   have lj : ¬ (j : Int) < (y.nn : Int):=by omega
   have li : (i : Int) < (x.nn : Int):=by omega
   have ljg : (y.nn : Int) <= (j : Int):=by omega
   have HSTEP : Hid (mixAll x y qu i j = (if qu then [] else [(x.nm i,.ty (kid x i))]) ++ mixAll x y qu (i + 1) j):=mixAll_left hc (Or.inl hj1)
   have nx:=NX.names
   have kx:=NX.kids
   have ex1:=nx.at_ (by omega)
   have ex2:=kx.at_ (by have:=HX.out;omega)
   rw [ex1] at dx1
   rw [ex2] at dx2
   have cx1:=nx.cell i (by omega)
   have cx2:=kx.cell i (by have:=HX.out;omega)
   rw [(show x.kd i = ((kid x i : Nat) : Int) from by have:=SX.out.kids i (by have:=HX.out;omega);unfold kid;omega)] at cx2
   clear ex1 ex2
   have lkx : (i : Int) < (x.nk : Int):=by have:=HX.out;omega
   have HC6x : Hid (∀ W,Below W5.heap.size W5 W -> W.cell? ⟨w.heap.size + 1 + 1,2,none⟩ = some (.slice (some ⟨px.b2,px.o2,none⟩) x.nk px.c2) /\ W.cell? ⟨px.b2,px.o2 + i,none⟩ = some (.int .i64 (kid x i : Int))):=fun W hW=>by
    obtain ⟨_,⟨_,f1⟩,⟨_,f2⟩,M1,M2,_⟩:=HRC.out W hW
    have g:=M1.kids
    rw [g.at_ (by have:=HX.out;omega)] at f1
    have c:=g.cell i (by have:=HX.out;omega)
    rw [(show x.kd i = ((kid x i : Nat) : Int) from by have:=SX.out.kids i (by have:=HX.out;omega);unfold kid;omega)] at c
    exact ⟨f1,c⟩
   clear hc hj1 NX NY BWr nx kx
   cases qu with
   | true=>
     have HA2 : Hid (acc ++ mixAll x y true (i + 1) (j) = mixAll x y true 0 0):=by
      have:=HA.out
      rw [HSTEP.out] at this
      show _ = _
      simpa using this
     clear HSTEP
     go_wp2
     go_quiet (fail)
     go_wp2
     go_roundw
     case rel=>
      exact ⟨i + 1,j,m,acc,na,nc,ka,kc,rfl,rfl,by go_num,by go_num,by omega,by omega,HAL,by omega,HA2,HI.out.drew _⟩
     case measure=>simp [intOf];omega
   | false=>
     have HA2 : Hid ((acc ++ [((x.nm i),.ty (kid x i))]) ++ mixAll x y false (i + 1) (j) = mixAll x y false 0 0):=by
      have:=HA.out
      rw [HSTEP.out] at this
      show _ = _
      simpa using this
     clear HSTEP
     go_wp2
     go_quiet (fail)
     go_wp2_with (first
      | (at_builtin;(refine wpList_append_lies _ rfl _ _ 46 rfl W5.heap.size 9 i9 _ 1 16 Tryz.underlying46 hs0 hs1 hs2 hs3 rfl (by omega) (.slice na m nc) m (tcells (acc.map Prod.fst)) rfl (by exact (OWN1 _).alloc _) ⟨wr.heap.size,0,none⟩ 1 1 [.string (x.nm i)] rfl rfl (by exact cell_one_new _ _ _) (by simp [Value.oneCell']) (by omega) (by unfold maxLen;omega) (by first | omega | (simp;omega)) (by first | omega | (simp;omega)) (wr.heap.size + 1) (by first | rfl | simp) ?_);intro gg cap6 w6 hown6 hg6 hat6 hlt6;have OWN2:=mx_keep (HI.out.drew _) hg6;rw [HAL.out] at OWN2;obtain ⟨f62,c62⟩:=HC6x.out w6 (mx_below (HI.out.drew _) hg6);have hz6:=hg6.size;have hk6 : W5.heap.size <= w6.heap.size:=(by simp at hz6;omega))
      | (at_builtin;go_loud (refine wpList_append_lies _ rfl _ _ 82 rfl W5.heap.size 81 i8 _ 3 24 Tryz.underlying82 ht0 ht1 ht2 ht3 rfl (by omega) (.slice ka m kc) m (kcells (acc.map Prod.snd)) rfl (by exact OWN2.alloc _) ⟨w6.heap.size,0,none⟩ 1 1 [.int .i64 (kid x i : Int),.int .i64 (-1),.bool false] rfl rfl (World.news_of_block (cs:=#[.int .i64 (kid x i : Int),.int .i64 (-1),.bool false]) (t:=81) (fr:=(0,0)) (heap_alloc_new w6 _)) (by simp [Value.oneCell']) (by omega) (by unfold maxLen;omega) (by omega) (by first | omega | (simp;omega)) (w6.heap.size + 1) (by first | rfl | simp) ?_);intro hh cap8 w8 hown8 hg8 hat8 hlt8))
     have HN : Hid (MxI W5 w8 (.slice (some ⟨gg,0,none⟩) (m + 1) cap6) (.slice (some ⟨hh,0,none⟩) (m + 1) cap8) (acc ++ [((x.nm i),.ty (kid x i))])):=by
      exact mx_step (HI.out.drew _) HAL.out hg6 (by simpa using hat6) hown6 hg8 hat8 hown8
     have HL2 : Hid ((acc ++ [((x.nm i),Kq.ty (kid x i))]).length = m + 1):=by show _ = _;rw [List.length_append,HAL.out];rfl
     clear hown6 hg6 hat6 hown8 hg8 hat8 OWN1 OWN2
     go_wp2
     go_roundw
     case rel=>
      exact ⟨i + 1,j,m + 1,_,_,_,_,_,rfl,rfl,by go_num,by go_num,by omega,by omega,HL2,by omega,HA2,HN.out⟩
     case measure=>simp [intOf];omega
  have lj : (j : Int) < (y.nn : Int):=by omega
  have ljg : ¬ (y.nn : Int) <= (j : Int):=by omega
  have ljd : decide ((y.nn : Int) <= (j : Int)) = false:=decide_eq_false ljg
  have lje : decide (y.nn <= j) = false:=decide_eq_false (by omega)
  have ljf : decide (j < y.nn) = true:=decide_eq_true (by omega)
  have ljt : decide ((j : Int) < (y.nn : Int)) = true:=decide_eq_true lj
  by_cases hi1 : i < x.nn
  case neg=>
   have li : ¬ (i : Int) < (x.nn : Int):=by omega
   have lig : (x.nn : Int) <= (i : Int):=by omega
   have lid : decide ((i : Int) < (x.nn : Int)) = false:=decide_eq_false li
   have ligd : decide ((x.nn : Int) <= (i : Int)) = true:=decide_eq_true lig
   have lige : decide (x.nn <= i) = true:=decide_eq_true (by omega)
   have lidn : decide (i < x.nn) = false:=decide_eq_false (by omega)
   have HSTEP : Hid (mixAll x y qu i j = (if qu then [] else [(y.nm j,.ty (kid y j))]) ++ mixAll x y qu i (j + 1)):=mixAll_right hc (fun h=>by rcases h with h | h <;> omega) (Or.inl hi1)
   have ny:=NY.names
   have ky:=NY.kids
   have ey1:=ny.at_ (by omega)
   have ey2:=ky.at_ (by have:=HY.out;omega)
   rw [ey1] at dy1
   rw [ey2] at dy2
   have cy1:=ny.cell j (by omega)
   have cy2:=ky.cell j (by have:=HY.out;omega)
   rw [(show y.kd j = ((kid y j : Nat) : Int) from by have:=SY.out.kids j (by have:=HY.out;omega);unfold kid;omega)] at cy2
   clear ey1 ey2
   have lky : (j : Int) < (y.nk : Int):=by have:=HY.out;omega
   have HC6y : Hid (∀ W,Below W5.heap.size W5 W -> W.cell? ⟨w.heap.size + 1 + 1 + 1,2,none⟩ = some (.slice (some ⟨py.b2,py.o2,none⟩) y.nk py.c2) /\ W.cell? ⟨py.b2,py.o2 + j,none⟩ = some (.int .i64 (kid y j : Int))):=fun W hW=>by
    obtain ⟨_,⟨_,f1⟩,⟨_,f2⟩,M1,M2,_⟩:=HRC.out W hW
    have g:=M2.kids
    rw [g.at_ (by have:=HY.out;omega)] at f2
    have c:=g.cell j (by have:=HY.out;omega)
    rw [(show y.kd j = ((kid y j : Nat) : Int) from by have:=SY.out.kids j (by have:=HY.out;omega);unfold kid;omega)] at c
    exact ⟨f2,c⟩
   clear hc hj1 NX NY BWr ny ky
   cases qu with
   | true=>
     have HA2 : Hid (acc ++ mixAll x y true (i) (j + 1) = mixAll x y true 0 0):=by
      have:=HA.out
      rw [HSTEP.out] at this
      show _ = _
      simpa using this
     clear HSTEP
     go_wp2
     go_quiet (fail)
     go_wp2
     go_quiet (fail)
     go_wp2
     go_roundw
     case rel=>
      exact ⟨i,j + 1,m,acc,na,nc,ka,kc,rfl,rfl,by go_num,by go_num,by omega,by omega,HAL,by omega,HA2,HI.out.drew _⟩
     case measure=>simp [intOf];omega
   | false=>
     have HA2 : Hid ((acc ++ [((y.nm j),.ty (kid y j))]) ++ mixAll x y false (i) (j + 1) = mixAll x y false 0 0):=by
      have:=HA.out
      rw [HSTEP.out] at this
      show _ = _
      simpa using this
     clear HSTEP
     go_wp2
     go_quiet (fail)
     go_wp2
     go_quiet (fail)
     go_wp2_with (first
      | (at_builtin;(refine wpList_append_lies _ rfl _ _ 46 rfl W5.heap.size 9 i9 _ 1 16 Tryz.underlying46 hs0 hs1 hs2 hs3 rfl (by omega) (.slice na m nc) m (tcells (acc.map Prod.fst)) rfl (by exact (OWN1 _).alloc _) ⟨wr.heap.size,0,none⟩ 1 1 [.string (y.nm j)] rfl rfl (by exact cell_one_new _ _ _) (by simp [Value.oneCell']) (by omega) (by unfold maxLen;omega) (by first | omega | (simp;omega)) (by first | omega | (simp;omega)) (wr.heap.size + 1) (by first | rfl | simp) ?_);intro gg cap6 w6 hown6 hg6 hat6 hlt6;have OWN2:=mx_keep (HI.out.drew _) hg6;rw [HAL.out] at OWN2;obtain ⟨f62,c62⟩:=HC6y.out w6 (mx_below (HI.out.drew _) hg6);have hz6:=hg6.size;have hk6 : W5.heap.size <= w6.heap.size:=(by simp at hz6;omega))
      | (at_builtin;go_loud (refine wpList_append_lies _ rfl _ _ 82 rfl W5.heap.size 81 i8 _ 3 24 Tryz.underlying82 ht0 ht1 ht2 ht3 rfl (by omega) (.slice ka m kc) m (kcells (acc.map Prod.snd)) rfl (by exact OWN2.alloc _) ⟨w6.heap.size,0,none⟩ 1 1 [.int .i64 (kid y j : Int),.int .i64 (-1),.bool false] rfl rfl (World.news_of_block (cs:=#[.int .i64 (kid y j : Int),.int .i64 (-1),.bool false]) (t:=81) (fr:=(0,0)) (heap_alloc_new w6 _)) (by simp [Value.oneCell']) (by omega) (by unfold maxLen;omega) (by omega) (by first | omega | (simp;omega)) (w6.heap.size + 1) (by first | rfl | simp) ?_);intro hh cap8 w8 hown8 hg8 hat8 hlt8))
     have HN : Hid (MxI W5 w8 (.slice (some ⟨gg,0,none⟩) (m + 1) cap6) (.slice (some ⟨hh,0,none⟩) (m + 1) cap8) (acc ++ [((y.nm j),.ty (kid y j))])):=by
      exact mx_step (HI.out.drew _) HAL.out hg6 (by simpa using hat6) hown6 hg8 hat8 hown8
     have HL2 : Hid ((acc ++ [((y.nm j),Kq.ty (kid y j))]).length = m + 1):=by show _ = _;rw [List.length_append,HAL.out];rfl
     clear hown6 hg6 hat6 hown8 hg8 hat8 OWN1 OWN2
     go_wp2
     go_roundw
     case rel=>
      exact ⟨i,j + 1,m + 1,_,_,_,_,_,rfl,rfl,by go_num,by go_num,by omega,by omega,HL2,by omega,HA2,HN.out⟩
     case measure=>simp [intOf];omega
  have li : (i : Int) < (x.nn : Int):=by omega
  have lig : ¬ (x.nn : Int) <= (i : Int):=by omega
  have lid : decide ((i : Int) < (x.nn : Int)) = true:=decide_eq_true li
  have ligd : decide ((x.nn : Int) <= (i : Int)) = false:=decide_eq_false lig
  have lige : decide (x.nn <= i) = false:=decide_eq_false (by omega)
  have lidn : decide (i < x.nn) = true:=decide_eq_true (by omega)
  have nx:=NX.names
  have kx:=NX.kids
  have ex1:=nx.at_ (by omega)
  have ex2:=kx.at_ (by have:=HX.out;omega)
  rw [ex1] at dx1
  rw [ex2] at dx2
  have cx1:=nx.cell i (by omega)
  have cx2:=kx.cell i (by have:=HX.out;omega)
  rw [(show x.kd i = ((kid x i : Nat) : Int) from by have:=SX.out.kids i (by have:=HX.out;omega);unfold kid;omega)] at cx2
  clear ex1 ex2
  have lkx : (i : Int) < (x.nk : Int):=by have:=HX.out;omega
  have HC6x : Hid (∀ W,Below W5.heap.size W5 W -> W.cell? ⟨w.heap.size + 1 + 1,2,none⟩ = some (.slice (some ⟨px.b2,px.o2,none⟩) x.nk px.c2) /\ W.cell? ⟨px.b2,px.o2 + i,none⟩ = some (.int .i64 (kid x i : Int))):=fun W hW=>by
   obtain ⟨_,⟨_,f1⟩,⟨_,f2⟩,M1,M2,_⟩:=HRC.out W hW
   have g:=M1.kids
   rw [g.at_ (by have:=HX.out;omega)] at f1
   have c:=g.cell i (by have:=HX.out;omega)
   rw [(show x.kd i = ((kid x i : Nat) : Int) from by have:=SX.out.kids i (by have:=HX.out;omega);unfold kid;omega)] at c
   exact ⟨f1,c⟩
  have ny:=NY.names
  have ky:=NY.kids
  have ey1:=ny.at_ (by omega)
  have ey2:=ky.at_ (by have:=HY.out;omega)
  rw [ey1] at dy1
  rw [ey2] at dy2
  have cy1:=ny.cell j (by omega)
  have cy2:=ky.cell j (by have:=HY.out;omega)
  rw [(show y.kd j = ((kid y j : Nat) : Int) from by have:=SY.out.kids j (by have:=HY.out;omega);unfold kid;omega)] at cy2
  clear ey1 ey2
  have lky : (j : Int) < (y.nk : Int):=by have:=HY.out;omega
  have HC6y : Hid (∀ W,Below W5.heap.size W5 W -> W.cell? ⟨w.heap.size + 1 + 1 + 1,2,none⟩ = some (.slice (some ⟨py.b2,py.o2,none⟩) y.nk py.c2) /\ W.cell? ⟨py.b2,py.o2 + j,none⟩ = some (.int .i64 (kid y j : Int))):=fun W hW=>by
   obtain ⟨_,⟨_,f1⟩,⟨_,f2⟩,M1,M2,_⟩:=HRC.out W hW
   have g:=M2.kids
   rw [g.at_ (by have:=HY.out;omega)] at f2
   have c:=g.cell j (by have:=HY.out;omega)
   rw [(show y.kd j = ((kid y j : Nat) : Int) from by have:=SY.out.kids j (by have:=HY.out;omega);unfold kid;omega)] at c
   exact ⟨f2,c⟩
  have LS1 : Hid (∀ W,Calls Tryz.prog 66 #[.string (x.nm i),.string (y.nm j)] W fun e w'=>e = .returned (.bool (lt (x.nm i) (y.nm j))) /\ ∃ t,w' = W.drewN t):=fun W=>g33 _ _ W (nx.size i hi1) (ny.size j hj1)
  have LS2 : Hid (∀ W,Calls Tryz.prog 66 #[.string (y.nm j),.string (x.nm i)] W fun e w'=>e = .returned (.bool (lt (y.nm j) (x.nm i))) /\ ∃ t,w' = W.drewN t):=fun W=>g33 _ _ W (ny.size j hj1) (nx.size i hi1)
  clear NX NY BWr ny ky nx kx
  cases hl : lt (x.nm i) (y.nm j) with
  | true=>
    have HSTEP : Hid (mixAll x y qu i j = (if qu then [] else [(x.nm i,.ty (kid x i))]) ++ mixAll x y qu (i + 1) j):=mixAll_left hc (Or.inr ⟨hi1,hl⟩)
    rw [hl] at LS1
    clear hc hl LS2
    cases qu with
    | true=>
      have HA2 : Hid (acc ++ mixAll x y true (i + 1) (j) = mixAll x y true 0 0):=by
       have:=HA.out
       rw [HSTEP.out] at this
       show _ = _
       simpa using this
      clear HSTEP
      go_wp2
      go_quiet (first | (go_at_call 66;first | (exact Calls.quiet_of (LS1.out _)) | (exact quiet_two (LS1.out _))))
      go_wp2
      go_roundw
      case rel=>
       exact ⟨i + 1,j,m,acc,na,nc,ka,kc,rfl,rfl,by go_num,by go_num,by omega,by omega,HAL,by omega,HA2,HI.out.drew _⟩
      case measure=>simp [intOf];omega
    | false=>
      have HA2 : Hid ((acc ++ [((x.nm i),.ty (kid x i))]) ++ mixAll x y false (i + 1) (j) = mixAll x y false 0 0):=by
       have:=HA.out
       rw [HSTEP.out] at this
       show _ = _
       simpa using this
      clear HSTEP
      go_wp2
      go_quiet (first | (go_at_call 66;first | (exact Calls.quiet_of (LS1.out _)) | (exact quiet_two (LS1.out _))))
      go_wp2_with (first
       | (at_builtin;(refine wpList_append_lies _ rfl _ _ 46 rfl W5.heap.size 9 i9 _ 1 16 Tryz.underlying46 hs0 hs1 hs2 hs3 rfl (by omega) (.slice na m nc) m (tcells (acc.map Prod.fst)) rfl (by exact (OWN1 _).alloc _) ⟨wr.heap.size,0,none⟩ 1 1 [.string (x.nm i)] rfl rfl (by exact cell_one_new _ _ _) (by simp [Value.oneCell']) (by omega) (by unfold maxLen;omega) (by first | omega | (simp;omega)) (by first | omega | (simp;omega)) (wr.heap.size + 1) (by first | rfl | simp) ?_);intro gg cap6 w6 hown6 hg6 hat6 hlt6;have OWN2:=mx_keep (HI.out.drew _) hg6;rw [HAL.out] at OWN2;obtain ⟨f62,c62⟩:=HC6x.out w6 (mx_below (HI.out.drew _) hg6);have hz6:=hg6.size;have hk6 : W5.heap.size <= w6.heap.size:=(by simp at hz6;omega))
       | (at_builtin;go_loud (refine wpList_append_lies _ rfl _ _ 82 rfl W5.heap.size 81 i8 _ 3 24 Tryz.underlying82 ht0 ht1 ht2 ht3 rfl (by omega) (.slice ka m kc) m (kcells (acc.map Prod.snd)) rfl (by exact OWN2.alloc _) ⟨w6.heap.size,0,none⟩ 1 1 [.int .i64 (kid x i : Int),.int .i64 (-1),.bool false] rfl rfl (World.news_of_block (cs:=#[.int .i64 (kid x i : Int),.int .i64 (-1),.bool false]) (t:=81) (fr:=(0,0)) (heap_alloc_new w6 _)) (by simp [Value.oneCell']) (by omega) (by unfold maxLen;omega) (by omega) (by first | omega | (simp;omega)) (w6.heap.size + 1) (by first | rfl | simp) ?_);intro hh cap8 w8 hown8 hg8 hat8 hlt8))
      have HN : Hid (MxI W5 w8 (.slice (some ⟨gg,0,none⟩) (m + 1) cap6) (.slice (some ⟨hh,0,none⟩) (m + 1) cap8) (acc ++ [((x.nm i),.ty (kid x i))])):=by
       exact mx_step (HI.out.drew _) HAL.out hg6 (by simpa using hat6) hown6 hg8 hat8 hown8
      have HL2 : Hid ((acc ++ [((x.nm i),Kq.ty (kid x i))]).length = m + 1):=by show _ = _;rw [List.length_append,HAL.out];rfl
      clear hown6 hg6 hat6 hown8 hg8 hat8 OWN1 OWN2
      go_wp2
      go_roundw
      case rel=>
       exact ⟨i + 1,j,m + 1,_,_,_,_,_,rfl,rfl,by go_num,by go_num,by omega,by omega,HL2,by omega,HA2,HN.out⟩
      case measure=>simp [intOf];omega
  | false=>
    rw [hl] at LS1
    have nl : ¬ (¬ j < y.nn \/ (i < x.nn /\ lt (x.nm i) (y.nm j) = true)):=fun h=>by rcases h with h | h;exact h hj1;rw [hl] at h;cases h.2
    cases hr : lt (y.nm j) (x.nm i) with
    | true=>
      have HSTEP : Hid (mixAll x y qu i j = (if qu then [] else [(y.nm j,.ty (kid y j))]) ++ mixAll x y qu i (j + 1)):=mixAll_right hc nl (Or.inr hr)
      rw [hr] at LS2
      clear hc hl hr nl
      cases qu with
      | true=>
        have HA2 : Hid (acc ++ mixAll x y true (i) (j + 1) = mixAll x y true 0 0):=by
         have:=HA.out
         rw [HSTEP.out] at this
         show _ = _
         simpa using this
        clear HSTEP
        go_wp2
        go_quiet (first | (go_at_call 66;first | (exact Calls.quiet_of (LS1.out _)) | (exact quiet_two (LS1.out _))))
        go_wp2
        go_quiet (first | (go_at_call 66;first | (exact Calls.quiet_of (LS2.out _)) | (exact quiet_two (LS2.out _))))
        go_wp2
        go_roundw
        case rel=>
         exact ⟨i,j + 1,m,acc,na,nc,ka,kc,rfl,rfl,by go_num,by go_num,by omega,by omega,HAL,by omega,HA2,HI.out.drew _⟩
        case measure=>simp [intOf];omega
      | false=>
        have HA2 : Hid ((acc ++ [((y.nm j),.ty (kid y j))]) ++ mixAll x y false (i) (j + 1) = mixAll x y false 0 0):=by
         have:=HA.out
         rw [HSTEP.out] at this
         show _ = _
         simpa using this
        clear HSTEP
        go_wp2
        go_quiet (first | (go_at_call 66;first | (exact Calls.quiet_of (LS1.out _)) | (exact quiet_two (LS1.out _))))
        go_wp2
        go_quiet (first | (go_at_call 66;first | (exact Calls.quiet_of (LS2.out _)) | (exact quiet_two (LS2.out _))))
        go_wp2_with (first
         | (at_builtin;(refine wpList_append_lies _ rfl _ _ 46 rfl W5.heap.size 9 i9 _ 1 16 Tryz.underlying46 hs0 hs1 hs2 hs3 rfl (by omega) (.slice na m nc) m (tcells (acc.map Prod.fst)) rfl (by exact (OWN1 _).alloc _) ⟨wr.heap.size,0,none⟩ 1 1 [.string (y.nm j)] rfl rfl (by exact cell_one_new _ _ _) (by simp [Value.oneCell']) (by omega) (by unfold maxLen;omega) (by first | omega | (simp;omega)) (by first | omega | (simp;omega)) (wr.heap.size + 1) (by first | rfl | simp) ?_);intro gg cap6 w6 hown6 hg6 hat6 hlt6;have OWN2:=mx_keep (HI.out.drew _) hg6;rw [HAL.out] at OWN2;obtain ⟨f62,c62⟩:=HC6y.out w6 (mx_below (HI.out.drew _) hg6);have hz6:=hg6.size;have hk6 : W5.heap.size <= w6.heap.size:=(by simp at hz6;omega))
         | (at_builtin;go_loud (refine wpList_append_lies _ rfl _ _ 82 rfl W5.heap.size 81 i8 _ 3 24 Tryz.underlying82 ht0 ht1 ht2 ht3 rfl (by omega) (.slice ka m kc) m (kcells (acc.map Prod.snd)) rfl (by exact OWN2.alloc _) ⟨w6.heap.size,0,none⟩ 1 1 [.int .i64 (kid y j : Int),.int .i64 (-1),.bool false] rfl rfl (World.news_of_block (cs:=#[.int .i64 (kid y j : Int),.int .i64 (-1),.bool false]) (t:=81) (fr:=(0,0)) (heap_alloc_new w6 _)) (by simp [Value.oneCell']) (by omega) (by unfold maxLen;omega) (by omega) (by first | omega | (simp;omega)) (w6.heap.size + 1) (by first | rfl | simp) ?_);intro hh cap8 w8 hown8 hg8 hat8 hlt8))
        have HN : Hid (MxI W5 w8 (.slice (some ⟨gg,0,none⟩) (m + 1) cap6) (.slice (some ⟨hh,0,none⟩) (m + 1) cap8) (acc ++ [((y.nm j),.ty (kid y j))])):=by
         exact mx_step (HI.out.drew _) HAL.out hg6 (by simpa using hat6) hown6 hg8 hat8 hown8
        have HL2 : Hid ((acc ++ [((y.nm j),Kq.ty (kid y j))]).length = m + 1):=by show _ = _;rw [List.length_append,HAL.out];rfl
        clear hown6 hg6 hat6 hown8 hg8 hat8 OWN1 OWN2
        go_wp2
        go_roundw
        case rel=>
         exact ⟨i,j + 1,m + 1,_,_,_,_,_,rfl,rfl,by go_num,by go_num,by omega,by omega,HL2,by omega,HA2,HN.out⟩
        case measure=>simp [intOf];omega
    | false=>
      have HSTEP : Hid (mixAll x y qu i j = (x.nm i,.qn ⟨kid x i,kid y j,qu⟩) :: mixAll x y qu (i + 1) (j + 1)):=mixAll_both hc nl (fun h=>by rcases h with h | h;exact h hi1;rw [hr] at h;cases h)
      rw [hr] at LS2
      clear hc hl hr nl
      have HA2 : Hid ((acc ++ [(x.nm i,Kq.qn ⟨kid x i,kid y j,qu⟩)]) ++ mixAll x y qu (i + 1) (j + 1) = mixAll x y qu 0 0):=by
       have:=HA.out
       rw [HSTEP.out] at this
       show _ = _
       simpa using this
      clear HSTEP
      have HL2 : Hid ((acc ++ [(x.nm i,Kq.qn ⟨kid x i,kid y j,qu⟩)]).length = m + 1):=by show _ = _;rw [List.length_append,HAL.out];rfl
      go_wp2
      go_quiet (first | (go_at_call 66;first | (exact Calls.quiet_of (LS1.out _)) | (exact quiet_two (LS1.out _))))
      go_wp2
      go_quiet (first | (go_at_call 66;first | (exact Calls.quiet_of (LS2.out _)) | (exact quiet_two (LS2.out _))))
      go_wp2_with (first
       | (at_builtin;(refine wpList_append_lies _ rfl _ _ 46 rfl W5.heap.size 9 i9 _ 1 16 Tryz.underlying46 hs0 hs1 hs2 hs3 rfl (by omega) (.slice na m nc) m (tcells (acc.map Prod.fst)) rfl (by exact (OWN1 _).alloc _) ⟨wr.heap.size,0,none⟩ 1 1 [.string (x.nm i)] rfl rfl (by exact cell_one_new _ _ _) (by simp [Value.oneCell']) (by omega) (by unfold maxLen;omega) (by first | omega | (simp;omega)) (by first | omega | (simp;omega)) (wr.heap.size + 1) (by first | rfl | simp) ?_);intro gg cap6 w6 hown6 hg6 hat6 hlt6;have OWN2:=mx_keep (HI.out.drew _) hg6;rw [HAL.out] at OWN2;obtain ⟨f62,c62⟩:=HC6x.out w6 (mx_below (HI.out.drew _) hg6);obtain ⟨f63,c63⟩:=HC6y.out w6 (mx_below (HI.out.drew _) hg6);have dm6:=(HRC.out w6 (mx_below (HI.out.drew _) hg6)).1;have hz6:=hg6.size;have hk6 : W5.heap.size <= w6.heap.size:=(by simp at hz6;omega)))
      go_region_held3 (fun w'=>w'.cell? ⟨w.heap.size + 1,2,none⟩ = some (.bool qu) /\ w'.cell? ⟨w.heap.size + 1 + 1,2,none⟩ = some (.slice (some ⟨px.b2,px.o2,none⟩) x.nk px.c2) /\ w'.cell? ⟨px.b2,px.o2 + i,none⟩ = some (.int .i64 (kid x i : Int)) /\ w'.cell? ⟨w.heap.size + 1 + 1 + 1,2,none⟩ = some (.slice (some ⟨py.b2,py.o2,none⟩) y.nk py.c2) /\ w'.cell? ⟨py.b2,py.o2 + j,none⟩ = some (.int .i64 (kid y j : Int))) (go_keep)
       (first
        | (refine step_append_lies _ (by rfl) _ _ _ (by rfl) W5.heap.size 81 i8 _ 3 24 Tryz.underlying82 ht0 ht1 ht2 ht3 rfl (by omega) (.slice ka m kc) m (kcells (acc.map Prod.snd)) (by rfl) (by exact OWN2.alloc _) ⟨w6.heap.size,0,none⟩ 1 1 [.int .i64 (kid x i : Int),.int .i64 (kid y j : Int),.bool qu] (by rfl) (by rfl) (World.news_of_block (cs:=#[.int .i64 (kid x i : Int),.int .i64 (kid y j : Int),.bool qu]) (t:=81) (fr:=(0,0)) (heap_alloc_new w6 _)) (by simp [Value.oneCell']) (by omega) (by unfold maxLen;omega) (by omega) (by first | omega | (simp;omega)) (w6.heap.size + 1) (by first | rfl | simp) ?_;intro hh cap8 w8 hown8 hg8 hat8 hlt8;have HN : Hid (MxI W5 w8 (.slice (some ⟨gg,0,none⟩) (m + 1) cap6) (.slice (some ⟨hh,0,none⟩) (m + 1) cap8) (acc ++ [(x.nm i,Kq.qn ⟨kid x i,kid y j,qu⟩)])):=mx_step (HI.out.drew _) HAL.out hg6 (by simpa using hat6) hown6 ⟨hg8.os,hg8.tape,hg8.output,hg8.size,hg8.block⟩ hat8 hown8;obtain ⟨s2,s3⟩:=HC6x.out w8 HN.out.below;obtain ⟨s4,s5⟩:=HC6y.out w8 HN.out.below;have s1:=(HRC.out w8 HN.out.below).1))
      all_goals
       clear hown6 hg6 hat6 hown8 hg8 hat8 OWN1 OWN2 s1 s2 s3 s4 s5
       go_wp2
       go_roundw
       case rel=>exact ⟨i + 1,j + 1,m + 1,_,_,_,_,_,rfl,rfl,by go_num,by go_num,by omega,by omega,HL2,by omega,HA2,by first | exact HN | exact HN.out.drew _⟩
       case measure=>simp [intOf];omega
theorem m_mixed {n b o : Nat} {p : Nat -> NP} {H : Nat -> ND} (ao : Option Addr) (gc : Nat) (q : Qn) (w : World) (hG : NodesAt w ao b o n p H) (ha : q.a < n) (hb : q.b < n) (sx : ShQ (H q.a)) (sy : ShQ (H q.b)) :
  Calls Tryz.prog 60 #[.agg #[.slice ao n gc],.agg #[.int .i64 (q.a : Int),.int .i64 (q.b : Int),.bool q.up]] w (MixedPost w (H q.a) (H q.b) q.up):=by
 by_cases e : (H q.a).kind = (H q.b).kind
 ·by_cases h4 : (H q.a).kind = 4
  ·exact m_mixed4 ao gc q w hG ha hb sx sy ⟨h4,by rw [<- e];exact h4⟩
  ·by_cases h3 : (H q.a).kind = 3
   ·exact m_mixed3 ao gc q w hG ha hb sx sy ⟨h3,by rw [<- e];exact h3⟩
   ·exact m_mixed0 ao gc q w hG ha hb sx sy (Or.inr ⟨h3,h4⟩)
 ·exact m_mixed0 ao gc q w hG ha hb sx sy (Or.inl e)
end Go.Proofs.YtpbpbppimkeodaaGreatDoor
