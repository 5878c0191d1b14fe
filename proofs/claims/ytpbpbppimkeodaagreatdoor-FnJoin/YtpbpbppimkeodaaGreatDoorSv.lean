/-
  JoD
-/
import Derived.Test.YtpbpbppimkeodaaGreatDoorSt
set_option maxRecDepth 100000
namespace Go.Proofs.YtpbpbppimkeodaaGreatDoor
open Go.RowKit Go.Maps
set_option maxHeartbeats 8000000 in
theorem m_mixed4 {n b o : Nat} {p : Nat -> NP} {H : Nat -> ND} (ao : Option Addr) (gc : Nat) (q : Qn) (w : World) (hG : NodesAt w ao b o n p H) (ha : q.a < n) (hb : q.b < n) (sx : ShQ (H q.a)) (sy : ShQ (H q.b)) (hex : (H q.a).kind = 4 /\ (H q.b).kind = 4) :
  Calls Tryz.prog 60 #[.agg #[.slice ao n gc],.agg #[.int .i64 (q.a : Int),.int .i64 (q.b : Int),.bool q.up]] w (MixedPost w (H q.a) (H q.b) q.up):=by
 have A1:=hG.at_ (by omega)
 subst A1
 have HG : Hid (∀ w',Below w.heap.size w w' -> NodesAt w' (some ⟨b,o,none⟩) b o n p H):=fun w' hb=>hG.below hb
 clear hG
 obtain ⟨x,hx⟩ : ∃ x,x = H q.a:=⟨_,rfl⟩
 obtain ⟨y,hy⟩ : ∃ y,y = H q.b:=⟨_,rfl⟩
 obtain ⟨px,hpx⟩ : ∃ y,y = p q.a:=⟨_,rfl⟩
 obtain ⟨py,hpy⟩ : ∃ y,y = p q.b:=⟨_,rfl⟩
 have HC : Hid (∀ w',Below w.heap.size w w' -> (w'.cell? ⟨b,o + q.a * 3,none⟩ = some (.int .i64 x.kind) /\ w'.cell? ⟨b,o + q.a * 3 + 1,none⟩ = some (.slice px.a1 x.nn px.c1) /\ w'.cell? ⟨b,o + q.a * 3 + 2,none⟩ = some (.slice px.a2 x.nk px.c2)) /\ (w'.cell? ⟨b,o + q.b * 3,none⟩ = some (.int .i64 y.kind) /\ w'.cell? ⟨b,o + q.b * 3 + 1,none⟩ = some (.slice py.a1 y.nn py.c1) /\ w'.cell? ⟨b,o + q.b * 3 + 2,none⟩ = some (.slice py.a2 y.nk py.c2)) /\ NodeAt w' px x /\ NodeAt w' py y):=fun w' hw=>by
  have N:=HG.out w' hw
  rw [hx,hy,hpx,hpy]
  exact ⟨⟨N.c0 _ ha,N.c1 _ ha,N.c2 _ ha⟩,⟨N.c0 _ hb,N.c1 _ hb,N.c2 _ hb⟩,N.node _ ha,N.node _ hb⟩
 rw [<- hx,<- hy]
 rw [<- hx,<- hy] at hex
 rw [<- hx] at sx
 rw [<- hy] at sy
 have SX : Hid (ShQ x):=sx
 have SY : Hid (ShQ y):=sy
 clear hx hy hpx hpy sx sy HG
 have la : (q.a : Int) < (n : Int):=by omega
 have lb : (q.b : Int) < (n : Int):=by omega
 obtain ⟨qa,hqa⟩ : ∃ z,z = q.a:=⟨_,rfl⟩
 obtain ⟨qb,hqb⟩ : ∃ z,z = q.b:=⟨_,rfl⟩
 obtain ⟨qu,hqu⟩ : ∃ z,z = q.up:=⟨_,rfl⟩
 rw [<- hqa,<- hqb,<- hqu]
 rw [<- hqa] at la HC
 rw [<- hqb] at lb HC
 clear hqa hqb hqu ha hb
 obtain ⟨W2,hW2⟩ : ∃ W2,W2 = (w.alloc (.cells #[.slice (some ⟨b,o,none⟩) n gc] 29)).alloc (.cells #[.int .i64 (qa : Int),.int .i64 (qb : Int),.bool qu] 81):=⟨_,rfl⟩
 have B2 : Below w.heap.size w W2:=by rw [hW2];exact bel2 _ _ _
 obtain ⟨⟨a0,a1,a2⟩,_,_⟩:=HC.out W2 B2
 rw [hW2] at a0 a1 a2
 have b0:=fun v=>(HC.out _ (bel3 w (.cells #[.slice (some ⟨b,o,none⟩) n gc] 29) (.cells #[.int .i64 (qa : Int),.int .i64 (qb : Int),.bool qu] 81) (.cells #[v,.slice px.a1 x.nn px.c1,.slice px.a2 x.nk px.c2] 48))).2.1.1
 have b1:=fun v=>(HC.out _ (bel3 w (.cells #[.slice (some ⟨b,o,none⟩) n gc] 29) (.cells #[.int .i64 (qa : Int),.int .i64 (qb : Int),.bool qu] 81) (.cells #[v,.slice px.a1 x.nn px.c1,.slice px.a2 x.nk px.c2] 48))).2.1.2.1
 have b2:=fun v=>(HC.out _ (bel3 w (.cells #[.slice (some ⟨b,o,none⟩) n gc] 29) (.cells #[.int .i64 (qa : Int),.int .i64 (qb : Int),.bool qu] 81) (.cells #[v,.slice px.a1 x.nn px.c1,.slice px.a2 x.nk px.c2] 48))).2.1.2.2
 have HW : Hid (∀ u v : Value,∃ W5,W5 = ((((w.alloc (.cells #[.slice (some ⟨b,o,none⟩) n gc] 29)).alloc (.cells #[.int .i64 (qa : Int),.int .i64 (qb : Int),.bool qu] 81)).alloc (.cells #[v,.slice px.a1 x.nn px.c1,.slice px.a2 x.nk px.c2] 48)).alloc (.cells #[u,.slice py.a1 y.nn py.c1,.slice py.a2 y.nk py.c2] 48)).alloc (.cells #[] 9) /\ W5.heap.size = w.heap.size + 5 /\ Below w.heap.size w W5 /\ W5.ownsRow w.heap.size 9 1 (.slice (some ⟨w.heap.size + 4,0,none⟩) 0 0) 0 (tcells []) /\ W5.cell? ⟨w.heap.size + 1,2,none⟩ = some (.bool qu) /\ (W5.cell? ⟨w.heap.size + 1 + 1,1,none⟩ = some (.slice px.a1 x.nn px.c1) /\ W5.cell? ⟨w.heap.size + 1 + 1,2,none⟩ = some (.slice px.a2 x.nk px.c2)) /\ (W5.cell? ⟨w.heap.size + 1 + 1 + 1,1,none⟩ = some (.slice py.a1 y.nn py.c1) /\ W5.cell? ⟨w.heap.size + 1 + 1 + 1,2,none⟩ = some (.slice py.a2 y.nk py.c2))):=fun u v=>by
  have hs : ((((w.alloc (.cells #[.slice (some ⟨b,o,none⟩) n gc] 29)).alloc (.cells #[.int .i64 (qa : Int),.int .i64 (qb : Int),.bool qu] 81)).alloc (.cells #[v,.slice px.a1 x.nn px.c1,.slice px.a2 x.nk px.c2] 48)).alloc (.cells #[u,.slice py.a1 y.nn py.c1,.slice py.a2 y.nk py.c2] 48)).heap.size = w.heap.size + 4:=by simp
  have r1:=row3 (w.alloc (.cells #[.slice (some ⟨b,o,none⟩) n gc] 29)) (.int .i64 (qa : Int)) (.int .i64 (qb : Int)) (.bool qu) 81
  have r2:=row3 ((w.alloc (.cells #[.slice (some ⟨b,o,none⟩) n gc] 29)).alloc (.cells #[.int .i64 (qa : Int),.int .i64 (qb : Int),.bool qu] 81)) v (.slice px.a1 x.nn px.c1) (.slice px.a2 x.nk px.c2) 48
  have r3:=row3 (((w.alloc (.cells #[.slice (some ⟨b,o,none⟩) n gc] 29)).alloc (.cells #[.int .i64 (qa : Int),.int .i64 (qb : Int),.bool qu] 81)).alloc (.cells #[v,.slice px.a1 x.nn px.c1,.slice px.a2 x.nk px.c2] 48)) u (.slice py.a1 y.nn py.c1) (.slice py.a2 y.nk py.c2) 48
  simp only [World.size_alloc] at r1 r2 r3
  refine ⟨_,rfl,by simp,(bel3 w _ _ _).trans ((bel2 _ _ _).mono (by simp;omega)),?_,((((r1.alloc _).alloc _).alloc _).cell (i:=2) (by omega)),⟨(((r2.alloc _).alloc _).cell (i:=1) (by omega)),(((r2.alloc _).alloc _).cell (i:=2) (by omega))⟩,⟨((r3.alloc _).cell (i:=1) (by omega)),((r3.alloc _).cell (i:=2) (by omega))⟩⟩
  have:=World.ownsRow_lit ((((w.alloc (.cells #[.slice (some ⟨b,o,none⟩) n gc] 29)).alloc (.cells #[.int .i64 (qa : Int),.int .i64 (qb : Int),.bool qu] 81)).alloc (.cells #[v,.slice px.a1 x.nn px.c1,.slice px.a2 x.nk px.c2] 48)).alloc (.cells #[u,.slice py.a1 y.nn py.c1,.slice py.a2 y.nk py.c2] 48)) (e:=9) (size:=1) (base:=w.heap.size) #[] 0 (by rw [hs];omega) (by unfold maxLen;omega) (by rfl)
  rw [hs] at this
  exact this
 go_enter Tryz.func60,Tryz.ntmps60
 have HKX : Hid (x.kind = 4):=hex.1
 have HKY : Hid (y.kind = 4):=hex.2
 rw [HKX.out] at a0
 simp only [HKY.out] at b0
 clear hex
 go_wp2
 obtain ⟨W5,e5,z5,b5,o5,cm,⟨cx1,cx2⟩,⟨cy1,cy2⟩⟩:=HW.out (.int .i64 4) (.int .i64 4)
 rw [<- e5]
 clear e5 a0 a1 a2 b0 b1 b2
 have hz5 : Hid (W5.heap.size = w.heap.size + 5):=z5
 clear z5
 obtain ⟨_,_,NX,NY⟩:=HC.out W5 b5
 have nx:=SX.out.fn HKX.out
 have ny:=SY.out.fn HKY.out
 have kx:=NX.kids
 have ky:=NY.kids
 have u0:=kx.cell 0 (by omega)
 have u1:=kx.cell 1 (by omega)
 have v0:=ky.cell 0 (by omega)
 have v1:=ky.cell 1 (by omega)
 have ex : ∀ j,j < 2 -> x.kd j = (kid x j : Int):=fun j hj=>by have:=SX.out.kids j (by omega);unfold kid;omega
 have ey : ∀ j,j < 2 -> y.kd j = (kid y j : Int):=fun j hj=>by have:=SY.out.kids j (by omega);unfold kid;omega
 rw [ex 0 (by omega)] at u0
 rw [ex 1 (by omega)] at u1
 rw [ey 0 (by omega)] at v0
 rw [ey 1 (by omega)] at v1
 rw [kx.at_ (by omega),nx] at cx2
 rw [ky.at_ (by omega),ny] at cy2
 have F : Hid (MixedPost w x y qu (.returned (.tuple #[.int .i64 4,.slice (some ⟨w.heap.size + 4,0,none⟩) 0 0,.slice (some ⟨W5.heap.size,0,none⟩) 2 2])) (W5.alloc (.cells #[.int .i64 (kid x 0 : Int),.int .i64 (kid y 0 : Int),.bool (!qu),.int .i64 (kid x 1 : Int),.int .i64 (kid y 1 : Int),.bool qu] 81))):=by
  have e : x.kind = y.kind:=HKX.out.trans HKY.out.symm
  have m1 : mixK x y = 4:=by unfold mixK;rw [if_pos e];exact HKX.out
  have m2 : mixN x y qu = []:=by unfold mixN;rw [if_neg (fun h=>by have h1:=h.2;rw [HKX.out] at h1;cases h1)]
  have m3 : mixQ x y qu = [.qn ⟨kid x 0,kid y 0,!qu⟩,.qn ⟨kid x 1,kid y 1,qu⟩]:=by unfold mixQ;rw [if_pos e,if_pos HKX.out]
  have hs:=hz5.out
  refine ⟨_,0,_,2,by rw [m1,m2,m3];rfl,?_,?_,b5.alloc (by omega) _⟩
  ·rw [m2]
   exact own_block o5 (fun j e=>Below.heap_alloc _ _ _ (o5.lt j e.symm).2)
  ·rw [m3]
   exact World.ownsRow_lit W5 _ 2 (by omega) (by unfold maxLen;omega) (by rfl)
 obtain ⟨k0,hk0⟩ : ∃ z,z = kid x 0:=⟨_,rfl⟩
 obtain ⟨k1,hk1⟩ : ∃ z,z = kid x 1:=⟨_,rfl⟩
 obtain ⟨l0,hl0⟩ : ∃ z,z = kid y 0:=⟨_,rfl⟩
 obtain ⟨l1,hl1⟩ : ∃ z,z = kid y 1:=⟨_,rfl⟩
 rw [<- hk0] at u0
 rw [<- hk1] at u1
 rw [<- hl0] at v0
 rw [<- hl1] at v1
 rw [<- hk0,<- hk1,<- hl0,<- hl1] at F
 rw [Nat.add_zero] at u0 v0
 clear kx ky NX NY ex ey nx ny hk0 hk1 hl0 hl1 o5 b5
 go_region_held3 (fun w'=>w'.cell? ⟨w.heap.size + 1,2,none⟩ = some (.bool qu) /\ w'.cell? ⟨w.heap.size + 1 + 1,2,none⟩ = some (.slice (some ⟨px.b2,px.o2,none⟩) 2 px.c2) /\ w'.cell? ⟨w.heap.size + 1 + 1 + 1,2,none⟩ = some (.slice (some ⟨py.b2,py.o2,none⟩) 2 py.c2) /\ w'.cell? ⟨px.b2,px.o2,none⟩ = some (.int .i64 (k0 : Int)) /\ w'.cell? ⟨px.b2,px.o2 + 1,none⟩ = some (.int .i64 (k1 : Int)) /\ w'.cell? ⟨py.b2,py.o2,none⟩ = some (.int .i64 (l0 : Int)) /\ w'.cell? ⟨py.b2,py.o2 + 1,none⟩ = some (.int .i64 (l1 : Int))) (go_keep) (fail)
 all_goals
  go_wp2
  exact bodyPost_ret (v:=.tuple #[.int .i64 4,.slice (some ⟨w.heap.size + 4,0,none⟩) 0 0,.slice (some ⟨W5.heap.size,0,none⟩) 2 2]) (by simp [results,Tryz.results60,go_sem]) rfl (by first | exact F.out | exact mixed_drew F.out)
end Go.Proofs.YtpbpbppimkeodaaGreatDoor
