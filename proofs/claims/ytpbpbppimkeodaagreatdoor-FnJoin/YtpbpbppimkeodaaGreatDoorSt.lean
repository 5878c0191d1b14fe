/-
  JoC JoO JoR
-/
import Derived.Test.YtpbpbppimkeodaaGreatDoorSs
import Derived.Test.YtpbpbppimkeodaaGreatDoorSd
import Derived.BigQuiet
import Derived.BigRegion
import Derived.Deep.AppendLies
import Derived.Test.YtpbpbppimkeodaaGreatDoorSc
set_option maxRecDepth 100000
namespace Go.Proofs.YtpbpbppimkeodaaGreatDoor
open Go.RowKit Go.Maps
structure ShQ (x : ND) : Prop where
 kids : ∀ j,j < x.nk -> 0 <= x.kd j
 fn : x.kind = 4 -> x.nk = 2
 rc : x.kind = 3 -> x.nk = x.nn
 nn : x.nn <= 1048576
def MixedPost (w : World) (x y : ND) (up : Bool) (e : Ending) (w' : World) : Prop:=
 ∃ (na : Option Addr) (nc : Nat) (ka : Option Addr) (kc : Nat),e = .returned (.tuple #[.int .i64 (mixK x y),.slice na (mixN x y up).length nc,.slice ka (mixQ x y up).length kc]) /\
   w'.ownsRow w.heap.size 9 1 (.slice na (mixN x y up).length nc) (mixN x y up).length (tcells (mixN x y up)) /\ w'.ownsRow w.heap.size 81 3 (.slice ka (mixQ x y up).length kc) (mixQ x y up).length (kcells (mixQ x y up)) /\ Below w.heap.size w w'
theorem mixed_none {x y : ND} (up : Bool) (h : x.kind = 0 \/ y.kind = 0 \/ x.kind ≠ y.kind) : mixK x y = 0 /\ mixN x y up = [] /\ mixQ x y up = []:=by
 unfold mixK mixN mixQ
 by_cases e : x.kind = y.kind
 ·have h0 : x.kind = 0:=by
   rcases h with h | h | h
   ·exact h
   ·rw [e];exact h
   ·exact absurd e h
  rw [if_pos e,if_pos e,if_neg (by omega),if_neg (by omega),if_neg (by omega)]
  exact ⟨h0,rfl,rfl⟩
 ·rw [if_neg e,if_neg e,if_neg (by omega)]
  exact ⟨rfl,rfl,rfl⟩
theorem mixed_plain {x y : ND} (up : Bool) (e : x.kind = y.kind) (h4 : x.kind ≠ 4) (h3 : x.kind ≠ 3) : mixK x y = x.kind /\ mixN x y up = [] /\ mixQ x y up = []:=by
 unfold mixK mixN mixQ
 rw [if_pos e,if_pos e,if_neg (by omega),if_neg h4,if_neg h3]
 exact ⟨rfl,rfl,rfl⟩
theorem mixed_empty {w w2 : World} {x y : ND} {up : Bool} {k : Int} (h : mixK x y = k /\ mixN x y up = [] /\ mixQ x y up = []) (n1 : w2.ownsRow w.heap.size 9 1 (.slice (some ⟨w.heap.size + 4,0,none⟩) 0 0) 0 (tcells [])) (hb : Below w.heap.size w w2) (hs : w.heap.size <= w2.heap.size) :
  MixedPost w x y up (.returned (.tuple #[.int .i64 k,.slice (some ⟨w.heap.size + 4,0,none⟩) 0 0,.slice (some ⟨w2.heap.size,0,none⟩) 0 0])) (w2.alloc (.cells #[] 81)):=by
 obtain ⟨h1,h2,h3⟩:=h
 refine ⟨_,0,_,0,by rw [h1,h2,h3];rfl,?_,?_,hb.alloc hs _⟩
 ·rw [h2]
  exact own_block n1 (fun j e=>Below.heap_alloc _ _ _ (n1.lt j e.symm).2)
 ·rw [h3]
  exact World.ownsRow_lit w2 #[] 0 hs (by unfold maxLen;omega) (by rfl)
theorem mixed_drew {w w' : World} {x y : ND} {up : Bool} {e : Ending} {m : Nat} (h : MixedPost w x y up e w') : MixedPost w x y up e (w'.drewN m):=by
 obtain ⟨na,nc,ka,kc,h1,h2,h3,h4⟩:=h
 exact ⟨na,nc,ka,kc,h1,own_block h2 (fun _ _=>rfl),own_block h3 (fun _ _=>rfl),below_drewN h4 _⟩
set_option maxHeartbeats 8000000 in
theorem m_mixed0 {n b o : Nat} {p : Nat -> NP} {H : Nat -> ND} (ao : Option Addr) (gc : Nat) (q : Qn) (w : World) (hG : NodesAt w ao b o n p H) (ha : q.a < n) (hb : q.b < n) (sx : ShQ (H q.a)) (sy : ShQ (H q.b)) (hex : (H q.a).kind ≠ (H q.b).kind \/ ((H q.a).kind ≠ 3 /\ (H q.a).kind ≠ 4)) :
  Calls Tryz.prog 60 #[.agg #[.slice ao n gc],.agg #[.int .i64 (q.a : Int),.int .i64 (q.b : Int),.bool q.up]] w (MixedPost w (H q.a) (H q.b) q.up):=by
 have A1:=hG.at_ (by omega)
 subst A1
 have HG : Hid (∀ w',Below w.heap.size w w' -> NodesAt w' (some ⟨b,o,none⟩) b o n p H):=fun w' hb=>hG.below hb
 clear hG
 obtain ⟨x,hx⟩ : ∃ x,x = H q.a:=⟨_,rfl⟩
 obtain ⟨y,hy⟩ : ∃ y,y = H q.b:=⟨_,rfl⟩
 obtain ⟨px,hpx⟩ : ∃ y,y = p q.a:=⟨_,rfl⟩
 obtain ⟨py,hpy⟩ : ∃ y,y = p q.b:=⟨_,rfl⟩
 have HC : Hid (∀ w',Below w.heap.size w w' -> (w'.cell? ⟨b,o + q.a * 3,none⟩ = some (.int .i64 x.kind) /\ w'.cell? ⟨b,o + q.a * 3 + 1,none⟩ = some (.slice px.a1 x.nn px.c1) /\ w'.cell? ⟨b,o + q.a * 3 + 2,none⟩ = some (.slice px.a2 x.nk px.c2)) /\ (w'.cell? ⟨b,o + q.b * 3,none⟩ = some (.int .i64 y.kind) /\ w'.cell? ⟨b,o + q.b * 3 + 1,none⟩ = some (.slice py.a1 y.nn py.c1) /\ w'.cell? ⟨b,o + q.b * 3 + 2,none⟩ = some (.slice py.a2 y.nk py.c2)) /\ NodeAt w' px x /\ NodeAt w' py y):=fun w' hw=>by
  have N:=HG.out w' hw
  rw [hx,hy,hpx,hpy]
  exact ⟨⟨N.c0 _ ha,N.c1 _ ha,N.c2 _ ha⟩,⟨N.c0 _ hb,N.c1 _ hb,N.c2 _ hb⟩,N.node _ ha,N.node _ hb⟩
 rw [<- hx,<- hy]
 rw [<- hx,<- hy] at hex
 rw [<- hx] at sx
 rw [<- hy] at sy
 have SX : Hid (ShQ x):=sx
 have SY : Hid (ShQ y):=sy
 clear hx hy hpx hpy sx sy HG
 have la : (q.a : Int) < (n : Int):=by omega
 have lb : (q.b : Int) < (n : Int):=by omega
 obtain ⟨qa,hqa⟩ : ∃ z,z = q.a:=⟨_,rfl⟩
 obtain ⟨qb,hqb⟩ : ∃ z,z = q.b:=⟨_,rfl⟩
 obtain ⟨qu,hqu⟩ : ∃ z,z = q.up:=⟨_,rfl⟩
 rw [<- hqa,<- hqb,<- hqu]
 rw [<- hqa] at la HC
 rw [<- hqb] at lb HC
 clear hqa hqb hqu ha hb
 obtain ⟨W2,hW2⟩ : ∃ W2,W2 = (w.alloc (.cells #[.slice (some ⟨b,o,none⟩) n gc] 29)).alloc (.cells #[.int .i64 (qa : Int),.int .i64 (qb : Int),.bool qu] 81):=⟨_,rfl⟩
 have B2 : Below w.heap.size w W2:=by rw [hW2];exact bel2 _ _ _
 obtain ⟨⟨a0,a1,a2⟩,_,_⟩:=HC.out W2 B2
 rw [hW2] at a0 a1 a2
 have b0:=fun v=>(HC.out _ (bel3 w (.cells #[.slice (some ⟨b,o,none⟩) n gc] 29) (.cells #[.int .i64 (qa : Int),.int .i64 (qb : Int),.bool qu] 81) (.cells #[v,.slice px.a1 x.nn px.c1,.slice px.a2 x.nk px.c2] 48))).2.1.1
 have b1:=fun v=>(HC.out _ (bel3 w (.cells #[.slice (some ⟨b,o,none⟩) n gc] 29) (.cells #[.int .i64 (qa : Int),.int .i64 (qb : Int),.bool qu] 81) (.cells #[v,.slice px.a1 x.nn px.c1,.slice px.a2 x.nk px.c2] 48))).2.1.2.1
 have b2:=fun v=>(HC.out _ (bel3 w (.cells #[.slice (some ⟨b,o,none⟩) n gc] 29) (.cells #[.int .i64 (qa : Int),.int .i64 (qb : Int),.bool qu] 81) (.cells #[v,.slice px.a1 x.nn px.c1,.slice px.a2 x.nk px.c2] 48))).2.1.2.2
 have HW : Hid (∀ u v : Value,∃ W5,W5 = ((((w.alloc (.cells #[.slice (some ⟨b,o,none⟩) n gc] 29)).alloc (.cells #[.int .i64 (qa : Int),.int .i64 (qb : Int),.bool qu] 81)).alloc (.cells #[v,.slice px.a1 x.nn px.c1,.slice px.a2 x.nk px.c2] 48)).alloc (.cells #[u,.slice py.a1 y.nn py.c1,.slice py.a2 y.nk py.c2] 48)).alloc (.cells #[] 9) /\ W5.heap.size = w.heap.size + 5 /\ Below w.heap.size w W5 /\ W5.ownsRow w.heap.size 9 1 (.slice (some ⟨w.heap.size + 4,0,none⟩) 0 0) 0 (tcells []) /\ W5.cell? ⟨w.heap.size + 1,2,none⟩ = some (.bool qu) /\ (W5.cell? ⟨w.heap.size + 1 + 1,1,none⟩ = some (.slice px.a1 x.nn px.c1) /\ W5.cell? ⟨w.heap.size + 1 + 1,2,none⟩ = some (.slice px.a2 x.nk px.c2)) /\ (W5.cell? ⟨w.heap.size + 1 + 1 + 1,1,none⟩ = some (.slice py.a1 y.nn py.c1) /\ W5.cell? ⟨w.heap.size + 1 + 1 + 1,2,none⟩ = some (.slice py.a2 y.nk py.c2))):=fun u v=>by
  have hs : ((((w.alloc (.cells #[.slice (some ⟨b,o,none⟩) n gc] 29)).alloc (.cells #[.int .i64 (qa : Int),.int .i64 (qb : Int),.bool qu] 81)).alloc (.cells #[v,.slice px.a1 x.nn px.c1,.slice px.a2 x.nk px.c2] 48)).alloc (.cells #[u,.slice py.a1 y.nn py.c1,.slice py.a2 y.nk py.c2] 48)).heap.size = w.heap.size + 4:=by simp
  have r1:=row3 (w.alloc (.cells #[.slice (some ⟨b,o,none⟩) n gc] 29)) (.int .i64 (qa : Int)) (.int .i64 (qb : Int)) (.bool qu) 81
  have r2:=row3 ((w.alloc (.cells #[.slice (some ⟨b,o,none⟩) n gc] 29)).alloc (.cells #[.int .i64 (qa : Int),.int .i64 (qb : Int),.bool qu] 81)) v (.slice px.a1 x.nn px.c1) (.slice px.a2 x.nk px.c2) 48
  have r3:=row3 (((w.alloc (.cells #[.slice (some ⟨b,o,none⟩) n gc] 29)).alloc (.cells #[.int .i64 (qa : Int),.int .i64 (qb : Int),.bool qu] 81)).alloc (.cells #[v,.slice px.a1 x.nn px.c1,.slice px.a2 x.nk px.c2] 48)) u (.slice py.a1 y.nn py.c1) (.slice py.a2 y.nk py.c2) 48
  simp only [World.size_alloc] at r1 r2 r3
  refine ⟨_,rfl,by simp,(bel3 w _ _ _).trans ((bel2 _ _ _).mono (by simp;omega)),?_,((((r1.alloc _).alloc _).alloc _).cell (i:=2) (by omega)),⟨(((r2.alloc _).alloc _).cell (i:=1) (by omega)),(((r2.alloc _).alloc _).cell (i:=2) (by omega))⟩,⟨((r3.alloc _).cell (i:=1) (by omega)),((r3.alloc _).cell (i:=2) (by omega))⟩⟩
  have:=World.ownsRow_lit ((((w.alloc (.cells #[.slice (some ⟨b,o,none⟩) n gc] 29)).alloc (.cells #[.int .i64 (qa : Int),.int .i64 (qb : Int),.bool qu] 81)).alloc (.cells #[v,.slice px.a1 x.nn px.c1,.slice px.a2 x.nk px.c2] 48)).alloc (.cells #[u,.slice py.a1 y.nn py.c1,.slice py.a2 y.nk py.c2] 48)) (e:=9) (size:=1) (base:=w.heap.size) #[] 0 (by rw [hs];omega) (by unfold maxLen;omega) (by rfl)
  rw [hs] at this
  exact this
 go_enter Tryz.func60,Tryz.ntmps60
 by_cases hA : x.kind = 0 \/ y.kind = 0 \/ x.kind ≠ y.kind
 ·have HM : Hid (mixK x y = 0 /\ mixN x y qu = [] /\ mixQ x y qu = []):=mixed_none qu hA
  by_cases h1 : x.kind = 0
  ·have q1 : (x.kind == 0) = true:=by rw [beq_iff_eq];exact h1
   clear hA
   go_wp2
   obtain ⟨W5,e5,z5,b5,o5,cm,⟨cx1,cx2⟩,⟨cy1,cy2⟩⟩:=HW.out (.int .i64 y.kind) (.int .i64 0)
   have F:=mixed_empty HM.out o5 b5 (by omega)
   rw [z5] at F
   rw [e5] at F
   exact bodyPost_ret (v:=.tuple #[.int .i64 0,.slice (some ⟨w.heap.size + 4,0,none⟩) 0 0,.slice (some ⟨w.heap.size + 5,0,none⟩) 0 0]) (by simp [results,Tryz.results60,go_sem]) rfl F
  ·have q1 : (x.kind == 0) = false:=by rw [beq_eq_false_iff_ne];exact h1
   by_cases h2 : y.kind = 0
   ·have q2 : (y.kind == 0) = true:=by rw [beq_iff_eq];exact h2
    clear hA
    go_wp2
    obtain ⟨W5,e5,z5,b5,o5,cm,⟨cx1,cx2⟩,⟨cy1,cy2⟩⟩:=HW.out (.int .i64 0) (.int .i64 x.kind)
    have F:=mixed_empty HM.out o5 b5 (by omega)
    rw [z5] at F
    rw [e5] at F
    exact bodyPost_ret (v:=.tuple #[.int .i64 0,.slice (some ⟨w.heap.size + 4,0,none⟩) 0 0,.slice (some ⟨w.heap.size + 5,0,none⟩) 0 0]) (by simp [results,Tryz.results60,go_sem]) rfl F
   ·have q2 : (y.kind == 0) = false:=by rw [beq_eq_false_iff_ne];exact h2
    have h3 : ¬ x.kind = y.kind:=by
     rcases hA with h | h | h
     ·exact absurd h h1
     ·exact absurd h h2
     ·exact h
    clear hA
    go_wp2
    obtain ⟨W5,e5,z5,b5,o5,cm,⟨cx1,cx2⟩,⟨cy1,cy2⟩⟩:=HW.out (.int .i64 y.kind) (.int .i64 x.kind)
    have F:=mixed_empty HM.out o5 b5 (by omega)
    rw [z5] at F
    rw [e5] at F
    exact bodyPost_ret (v:=.tuple #[.int .i64 0,.slice (some ⟨w.heap.size + 4,0,none⟩) 0 0,.slice (some ⟨w.heap.size + 5,0,none⟩) 0 0]) (by simp [results,Tryz.results60,go_sem]) rfl F
 ·skip
  have e : x.kind = y.kind:=by
   by_cases h : x.kind = y.kind
   ·exact h
   ·exact absurd (Or.inr (Or.inr h)) hA
  have hk0 : ¬ y.kind = 0:=fun h=>hA (Or.inr (Or.inl h))
  obtain ⟨k,hk⟩ : ∃ k,k = y.kind:=⟨_,rfl⟩
  have HKX : Hid (x.kind = k):=by show x.kind = k;rw [e,hk]
  have HKY : Hid (y.kind = k):=hk.symm
  rw [e,<- hk] at a0
  simp only [<- hk] at b0
  rw [<- hk] at hk0
  have h34 : k ≠ 3 /\ k ≠ 4:=by
   rcases hex with h | h
   ·exact absurd e h
   ·rw [e,<- hk] at h;exact h
  clear hA e hk hex
  have q0 : (k == 0) = false:=by rw [beq_eq_false_iff_ne];exact hk0
  have h4 : ¬ k = 4:=h34.2
  have h3 : ¬ k = 3:=h34.1
  have q4 : (k == 4) = false:=by rw [beq_eq_false_iff_ne];exact h4
  have q3 : (k == 3) = false:=by rw [beq_eq_false_iff_ne];exact h3
  have HM : Hid (mixK x y = k /\ mixN x y qu = [] /\ mixQ x y qu = []):=by
   have:=mixed_plain (x:=x) (y:=y) qu (HKX.out.trans HKY.out.symm) (by rw [HKX.out];exact h4) (by rw [HKX.out];exact h3)
   rw [HKX.out] at this
   exact this
  go_wp2
  obtain ⟨W5,e5,z5,b5,o5,cm,⟨cx1,cx2⟩,⟨cy1,cy2⟩⟩:=HW.out (.int .i64 k) (.int .i64 k)
  have F:=mixed_empty HM.out o5 b5 (by omega)
  rw [z5] at F
  rw [e5] at F
  exact bodyPost_ret (v:=.tuple #[.int .i64 k,.slice (some ⟨w.heap.size + 4,0,none⟩) 0 0,.slice (some ⟨w.heap.size + 5,0,none⟩) 0 0]) (by simp [results,Tryz.results60,go_sem]) rfl F
structure Two (base : Nat) (w : World) (vn vk : Value) (S : List ByteArray) (K : List Int) (m : Nat) : Prop where
 own1 : w.ownsRow base 9 1 vn m (tcells S)
 own2 : w.ownsRow base 3 1 vk m (zcells K)
 ne : ∀ b,vn.ownBlock = some b -> vk.ownBlock ≠ some b
structure But2 (w w' : World) (x y : Option Nat) : Prop where
 os : w'.os = w.os
 tape : w'.tape = w.tape
 output : w'.output = w.output
 size : w.heap.size <= w'.heap.size
 block : ∀ j,j < w.heap.size -> some j ≠ x -> some j ≠ y -> w'.heap[j]? = w.heap[j]?
set_option maxHeartbeats 4000000 in
theorem p_field (base : Nat) (na ka : Option Addr) (nc kc m : Nat) (S : List ByteArray) (K : List Int) (k z : Int) (s : ByteArray) (w : World) (h : Two base w (.slice na m nc) (.slice ka m kc) S K m) (hb : base <= w.heap.size) (hm : m <= 4194304) :
  Calls Tryz.prog 141 #[.agg #[.int .i64 k,.slice na m nc,.slice ka m kc],.string s,.int .i64 z] w fun e w'=>
   ∃ gg c1 hh c2,e = .returned (.agg #[.int .i64 k,.slice (some ⟨gg,0,none⟩) (m + 1) c1,.slice (some ⟨hh,0,none⟩) (m + 1) c2]) /\ Two base w' (.slice (some ⟨gg,0,none⟩) (m + 1) c1) (.slice (some ⟨hh,0,none⟩) (m + 1) c2) (S ++ [s]) (K ++ [z]) (m + 1) /\
     But2 w w' (Value.slice na m nc).ownBlock (Value.slice ka m kc).ownBlock /\ ((Value.slice na m nc).ownBlock = some gg \/ w.heap.size <= gg) /\ ((Value.slice ka m kc).ownBlock = some hh \/ w.heap.size <= hh):=by
 obtain ⟨i9,hs0,hs1,hs2,hs3⟩:=info_parts Tryz.info9
 obtain ⟨i1,hj0,hj1,hj2,hj3⟩:=info_parts Tryz.info3
 obtain ⟨W2,hW2⟩ : ∃ W2,W2 = (w.alloc (.cells #[.int .i64 k,.slice na m nc,.slice ka m kc] 48)).alloc (.cells #[.int .i64 0,.slice none 0 0,.slice none 0 0] 48):=⟨_,rfl⟩
 have B2 : Below w.heap.size w W2:=by rw [hW2];exact bel2 _ _ _
 have OWN1 : ((w.alloc (.cells #[.int .i64 k,.slice na m nc,.slice ka m kc] 48)).alloc (.cells #[.int .i64 0,.slice none 0 0,.slice none 0 0] 48)).ownsRow base 9 1 (.slice na m nc) m (tcells S):=(h.own1.alloc _).alloc _
 have HH : Hid (Two base w (.slice na m nc) (.slice ka m kc) S K m):=h
 clear h
 go_enter Tryz.func141,Tryz.ntmps141
 have HR6 : Hid (∀ w6,(((w.alloc (.cells #[.int .i64 k,.slice na m nc,.slice ka m kc] 48)).alloc (.cells #[.int .i64 0,.slice none 0 0,.slice none 0 0] 48)).alloc (.cells #[.string s] 9)).grownBy w6 (Value.slice na m nc).ownBlock -> w6.rowIs w.heap.size 48 3 (v3 (.int .i64 k) (.slice na m nc) (.slice ka m kc)) /\ w6.rowIs (w.heap.size + 1) 48 3 (v3 (.int .i64 0) (.slice none 0 0) (.slice none 0 0)) /\ w.heap.size + 3 <= w6.heap.size /\ w6.ownsRow base 3 1 (.slice ka m kc) m (zcells K)):=fun w6 hg=>by
  have hz:=hg.size
  simp only [World.size_alloc] at hz
  have r1:=(row3 w (.int .i64 k) (.slice na m nc) (.slice ka m kc) 48)
  have r2:=(row3 (w.alloc (.cells #[.int .i64 k,.slice na m nc,.slice ka m kc] 48)) (.int .i64 0) (.slice none 0 0) (.slice none 0 0) 48)
  simp only [World.size_alloc] at r2
  have n1 : ∀ j,w.heap.size <= j -> some j ≠ (Value.slice na m nc).ownBlock:=fun j hj e=>by have:=(HH.out.own1.lt j e.symm).2;omega
  refine ⟨((r1.alloc _).alloc _).of_block (hg.block _ (by simp;omega) (n1 _ (Nat.le_refl _))),(r2.alloc _).of_block (hg.block _ (by simp) (n1 _ (by omega))),by omega,?_⟩
  exact own_block (((HH.out.own2.alloc (.cells #[.int .i64 k,.slice na m nc,.slice ka m kc] 48)).alloc (.cells #[.int .i64 0,.slice none 0 0,.slice none 0 0] 48)).alloc (.cells #[.string s] 9)) (fun j e=>hg.block j (by have:=(HH.out.own2.lt j e.symm).2;simp;omega) (fun e2=>HH.out.ne j e2.symm e.symm))
 go_wp2_with (first
  | (at_builtin;(refine wpList_append_lies _ rfl _ _ 46 rfl base 9 i9 _ 1 16 Tryz.underlying46 hs0 hs1 hs2 hs3 rfl (by omega) (.slice na m nc) m (tcells S) rfl (by exact OWN1.alloc _) ⟨w.heap.size + 1 + 1,0,none⟩ 1 1 [.string s] rfl rfl (by have:=cell_one_new ((w.alloc (.cells #[.int .i64 k,.slice na m nc,.slice ka m kc] 48)).alloc (.cells #[.int .i64 0,.slice none 0 0,.slice none 0 0] 48)) (.string s) 9;simpa using this) (by simp [Value.oneCell']) (by omega) (by unfold maxLen;omega) (by first | omega | (simp;omega)) (by first | omega | (simp;omega)) (w.heap.size + 1 + 1 + 1) (by first | rfl | simp) ?_);intro gg cap6 w6 hown6 hg6 hat6 hlt6;obtain ⟨R6,Q6,z6,OWN2⟩:=HR6.out w6 hg6;have a1:=R6.cell (i:=1) (by omega);have b1:=R6.frozen 1;have R7:=R6.set 1 (.slice (some ⟨gg,0,none⟩) (m + 1) cap6);have a2 : (w6.setCell ⟨w.heap.size,1,none⟩ (.slice (some ⟨gg,0,none⟩) (m + 1) cap6)).cell? ⟨w.heap.size,2,none⟩ = some (.slice ka m kc):=R7.cell (i:=2) (by omega);have OWN7 : (w6.setCell ⟨w.heap.size,1,none⟩ (.slice (some ⟨gg,0,none⟩) (m + 1) cap6)).ownsRow base 3 1 (.slice ka m kc) m (zcells K):=own_block OWN2 (fun j e=>Below.heap_setCell _ _ _ _ (by show j ≠ w.heap.size;have:=(HH.out.own2.lt j e.symm).2;omega));have hb6 : base <= w6.heap.size:=(by omega))
  | (at_builtin;go_loud (refine wpList_append_lies _ rfl _ _ 25 rfl base 3 i1 _ 1 8 Tryz.underlying25 hj0 hj1 hj2 hj3 rfl (by omega) (.slice ka m kc) m (zcells K) rfl (by exact OWN7.alloc _) ⟨w6.heap.size,0,none⟩ 1 1 [.int .i64 z] rfl rfl (by have:=cell_one_new (w6.setCell ⟨w.heap.size,1,none⟩ (.slice (some ⟨gg,0,none⟩) (m + 1) cap6)) (.int .i64 z) 3;simpa using this) (by simp [Value.oneCell']) (by omega) (by unfold maxLen;omega) (by first | omega | (simp;omega)) (by first | omega | (simp;omega)) (w6.heap.size + 1) (by first | rfl | simp) ?_);intro hh cap8 w8 hown8 hg8 hat8 hlt8;have n2 : ∀ j,w.heap.size <= j -> some j ≠ (Value.slice ka m kc).ownBlock:=(fun j hj e=>by have:=(HH.out.own2.lt j e.symm).2;omega);have R8:=(R7.alloc (.cells #[.int .i64 z] 3)).of_block (hg8.block w.heap.size (by simp;omega) (n2 _ (Nat.le_refl _)));have Q8:=((Q6.setOther (a:=⟨w.heap.size,1,none⟩) (by show w.heap.size + 1 ≠ w.heap.size;omega) (.slice (some ⟨gg,0,none⟩) (m + 1) cap6)).alloc (.cells #[.int .i64 z] 3)).of_block (hg8.block (w.heap.size + 1) (by simp;omega) (n2 _ (by omega)));have c2:=R8.cell (i:=2) (by omega);have d2:=R8.frozen 2;have R9:=R8.set 2 (.slice (some ⟨hh,0,none⟩) (m + 1) cap8);have e0 : (w8.setCell ⟨w.heap.size,2,none⟩ (.slice (some ⟨hh,0,none⟩) (m + 1) cap8)).cell? ⟨w.heap.size,0,none⟩ = some (.int .i64 k):=R9.cell (i:=0) (by omega);have e1 : (w8.setCell ⟨w.heap.size,2,none⟩ (.slice (some ⟨hh,0,none⟩) (m + 1) cap8)).cell? ⟨w.heap.size,1,none⟩ = some (.slice (some ⟨gg,0,none⟩) (m + 1) cap6):=R9.cell (i:=1) (by omega);have e2 : (w8.setCell ⟨w.heap.size,2,none⟩ (.slice (some ⟨hh,0,none⟩) (m + 1) cap8)).cell? ⟨w.heap.size,2,none⟩ = some (.slice (some ⟨hh,0,none⟩) (m + 1) cap8):=R9.cell (i:=2) (by omega);have Q9:=Q8.setOther (a:=⟨w.heap.size,2,none⟩) (by show w.heap.size + 1 ≠ w.heap.size;omega) (.slice (some ⟨hh,0,none⟩) (m + 1) cap8);have g0 : (w8.setCell ⟨w.heap.size,2,none⟩ (.slice (some ⟨hh,0,none⟩) (m + 1) cap8)).cell? ⟨w.heap.size + 1,0,none⟩ = some (.int .i64 0):=Q9.cell (i:=0) (by omega);have g1 : (w8.setCell ⟨w.heap.size,2,none⟩ (.slice (some ⟨hh,0,none⟩) (m + 1) cap8)).cell? ⟨w.heap.size + 1,1,none⟩ = some (.slice none 0 0):=Q9.cell (i:=1) (by omega);have g2 : (w8.setCell ⟨w.heap.size,2,none⟩ (.slice (some ⟨hh,0,none⟩) (m + 1) cap8)).cell? ⟨w.heap.size + 1,2,none⟩ = some (.slice none 0 0):=Q9.cell (i:=2) (by omega);have k0:=Q9.frozen 0;have k1:=Q9.frozen 1;have k2:=Q9.frozen 2))
 have hk8:=hg8.size
 have hz6:=hg6.size
 simp only [World.size_alloc,World.size_setCell] at hk8 hz6
 obtain ⟨WF,hWF⟩ : ∃ WF,WF = ((((w8.setCell ⟨w.heap.size,2,none⟩ (.slice (some ⟨hh,0,none⟩) (m + 1) cap8)).setCell ⟨w.heap.size + 1,0,none⟩ (.int .i64 k)).setCell ⟨w.heap.size + 1,1,none⟩ (.slice (some ⟨gg,0,none⟩) (m + 1) cap6)).setCell ⟨w.heap.size + 1,2,none⟩ (.slice (some ⟨hh,0,none⟩) (m + 1) cap8)):=⟨_,rfl⟩
 have bF : ∀ j,j ≠ w.heap.size -> j ≠ w.heap.size + 1 -> WF.heap[j]? = w8.heap[j]?:=fun j h1 h2=>by
  rw [hWF]
  exact (((Below.heap_setCell _ _ _ _ (by show j ≠ w.heap.size + 1;exact h2)).trans (Below.heap_setCell _ _ _ _ (by show j ≠ w.heap.size + 1;exact h2))).trans (Below.heap_setCell _ _ _ _ (by show j ≠ w.heap.size + 1;exact h2))).trans (Below.heap_setCell _ _ _ _ (by show j ≠ w.heap.size;exact h1))
 have b8 : ∀ j,j < w6.heap.size -> j ≠ w.heap.size -> some j ≠ (Value.slice ka m kc).ownBlock -> w8.heap[j]? = w6.heap[j]?:=fun j hj h1 h2=>(hg8.block j (by simp;omega) h2).trans ((Below.heap_alloc _ _ _ (by simpa using hj)).trans (Below.heap_setCell _ _ _ _ (by show j ≠ w.heap.size;exact h1)))
 have b6 : ∀ j,j < w.heap.size -> some j ≠ (Value.slice na m nc).ownBlock -> w6.heap[j]? = w.heap[j]?:=fun j hj h2=>(hg6.block j (by simp;omega) h2).trans ((Below.heap_alloc _ _ _ (by simp;omega)).trans ((bel2 w _ _).block j hj))
 have hsF : WF.heap.size = w8.heap.size:=by rw [hWF];simp
 have gn : (Value.slice na m nc).ownBlock = some gg \/ w.heap.size <= gg:=by rcases hat6 with q | q;exact Or.inl q;exact Or.inr (by omega)
 have hn : (Value.slice ka m kc).ownBlock = some hh \/ w.heap.size <= hh:=by rcases hat8 with q | q;exact Or.inl q;exact Or.inr (by omega)
 have g1n : gg ≠ w.heap.size /\ gg ≠ w.heap.size + 1:=by
  rcases hat6 with q | q
  ·have:=(HH.out.own1.lt gg q).2;omega
  ·omega
 have h1n : hh ≠ w.heap.size /\ hh ≠ w.heap.size + 1:=by
  rcases hat8 with q | q
  ·have:=(HH.out.own2.lt hh q).2;omega
  ·omega
 have ggk : some gg ≠ (Value.slice ka m kc).ownBlock:=fun e=>by
  rcases hat6 with q | q
  ·exact HH.out.ne gg q e.symm
  ·have:=(HH.out.own2.lt gg e.symm).2;omega
 have FIN : Hid (Two base WF (.slice (some ⟨gg,0,none⟩) (m + 1) cap6) (.slice (some ⟨hh,0,none⟩) (m + 1) cap8) (S ++ [s]) (K ++ [z]) (m + 1) /\ But2 w WF (Value.slice na m nc).ownBlock (Value.slice ka m kc).ownBlock):=by
  refine ⟨⟨?_,?_,fun b e1 e2=>?_⟩,⟨?_,?_,?_,by omega,fun j hj h1 h2=>?_⟩⟩
  ·unfold tcells;rw [List.map_append]
   exact own_block hown6 (fun j e=>by
    have : j = gg:=by simpa [Value.ownBlock] using e
    rw [this,bF gg g1n.1 g1n.2]
    exact b8 gg hlt6 g1n.1 ggk)
  ·unfold zcells;rw [List.map_append]
   exact own_block hown8 (fun j e=>by
    have : j = hh:=by simpa [Value.ownBlock] using e
    rw [this];exact bF hh h1n.1 h1n.2)
  ·have e3 : gg = b:=by simpa [Value.ownBlock] using e1
   have e4 : hh = b:=by simpa [Value.ownBlock] using e2
   rcases hat8 with q | q
   ·exact ggk (by rw [q,e4,e3])
   ·omega
  ·rw [hWF];exact hg8.os.trans hg6.os
  ·rw [hWF];exact hg8.tape.trans hg6.tape
  ·rw [hWF];exact hg8.output.trans hg6.output
  ·exact (bF j (by omega) (by omega)).trans ((b8 j (by omega) (by omega) h2).trans (b6 j hj h1))
 rw [<- hWF]
 exact bodyPost_ret (v:=.agg #[.int .i64 k,.slice (some ⟨gg,0,none⟩) (m + 1) cap6,.slice (some ⟨hh,0,none⟩) (m + 1) cap8]) (by rw [hWF];simp [results,Tryz.results141,go_sem,g0,g1,g2]) rfl ⟨gg,cap6,hh,cap8,rfl,FIN.out.1,FIN.out.2,gn,hn⟩
theorem KnQ.other {w w' : World} {kb mb : Nat} {ov : Value} {D : DataW Unit} {ord : List Qn} {keep keep' : Nat -> Prop} (h : KnQ w kb mb ov D ord keep) (hb : w'.heap[kb]? = w.heap[kb]?) (hm : w'.heap[mb]? = w.heap[mb]?) (ho : ∀ k,ov.ownBlock = some k -> w'.heap[k]? = w.heap[k]?)
  (hk : ∀ k,keep' k -> k < w'.heap.size /\ k ≠ kb /\ k ≠ mb /\ some k ≠ ov.ownBlock) : KnQ w' kb mb ov D ord keep':=by
 refine ⟨h.row.of_block hb,h.mlt,?_,h.has,h.val,own_block h.own (fun k e=>ho k e.symm),hk⟩
 obtain ⟨es,c,h1,h2⟩:=h.map
 exact ⟨es,c,hm.trans h1,h2⟩
theorem KnQ.below {w w' : World} {kb mb : Nat} {ov : Value} {D : DataW Unit} {ord : List Qn} {keep : Nat -> Prop} (h : KnQ w kb mb ov D ord keep) (hb : Below w.heap.size w w') : KnQ w' kb mb ov D ord keep:=
 h.other (hb.block _ h.row.lt) (hb.block _ (Nat.lt_trans h.mlt h.row.lt)) (fun k e=>hb.block k (h.own.lt k e).2) (fun k hk=>by obtain ⟨f1,f2⟩:=h.far k hk;exact ⟨Nat.lt_of_lt_of_le f1 hb.size,f2⟩)
def rkeep (keep : Nat -> Prop) (b : Nat) (vn vk : Value) : Nat -> Prop:=fun j=>keep j \/ (b <= j /\ j < b + 4) \/ vn.ownBlock = some j \/ vk.ownBlock = some j
structure RcI (w wr : World) (keep : Nat -> Prop) (kb mb n : Nat) (x y : ND) (px py : NP) (L0 : List Qn) (na : Option Addr) (nc : Nat) (ka : Option Addr) (kc m : Nat) (dn : List (ByteArray × Kq)) (ov : Value) (D : DataW Unit) : Prop where
 len : dn.length = m
 two : Two (w.heap.size + 4) wr (.slice na m nc) (.slice ka m kc) (dn.map Prod.fst) ((dn.map Prod.snd).map fun k=>(numK n (addAll L0 (dn.map Prod.snd)) k : Int)) m
 kn : KnQ wr kb mb ov D ((addAll L0 (dn.map Prod.snd)).map flipQ) (rkeep keep w.heap.size (.slice na m nc) (.slice ka m kc))
 bx : wr.rowIs w.heap.size 48 3 (v3 (.int .i64 x.kind) (.slice px.a1 x.nn px.c1) (.slice px.a2 x.nk px.c2))
 bY : wr.rowIs (w.heap.size + 1) 48 3 (v3 (.int .i64 y.kind) (.slice py.a1 y.nn py.c1) (.slice py.a2 y.nk py.c2))
 br : wr.rowIs (w.heap.size + 1 + 1) 48 3 (v3 (.int .i64 0) (.slice none 0 0) (.slice none 0 0))
 bo : wr.rowIs (w.heap.size + 1 + 1 + 1) 48 3 (v3 (.int .i64 3) (.slice na m nc) (.slice ka m kc))
 kept : Kept keep w wr
 old : ∀ j,keep j -> j < w.heap.size
theorem Two.other {b : Nat} {w w' : World} {vn vk : Value} {S : List ByteArray} {K : List Int} {m : Nat} (h : Two b w vn vk S K m) (h1 : ∀ k,vn.ownBlock = some k -> w'.heap[k]? = w.heap[k]?) (h2 : ∀ k,vk.ownBlock = some k -> w'.heap[k]? = w.heap[k]?) : Two b w' vn vk S K m:=
 ⟨own_block h.own1 (fun k e=>h1 k e.symm),own_block h.own2 (fun k e=>h2 k e.symm),h.ne⟩
theorem RcI.drew {w wr : World} {keep : Nat -> Prop} {kb mb n : Nat} {x y : ND} {px py : NP} {L0 : List Qn} {na : Option Addr} {nc : Nat} {ka : Option Addr} {kc m : Nat} {dn : List (ByteArray × Kq)} {ov : Value} {D : DataW Unit} (h : RcI w wr keep kb mb n x y px py L0 na nc ka kc m dn ov D) (t : Nat) : RcI w (wr.drewN t) keep kb mb n x y px py L0 na nc ka kc m dn ov D:=
 ⟨h.len,h.two.other (fun _ _=>rfl) (fun _ _=>rfl),h.kn.below (below_drewN' _ _),h.bx.of_block rfl,h.bY.of_block rfl,h.br.of_block rfl,h.bo.of_block rfl,⟨h.kept.os,h.kept.tape,h.kept.output,h.kept.size,h.kept.block⟩,h.old⟩
theorem rc_start {w : World} {keep : Nat -> Prop} {kb mb n : Nat} {x y : ND} {px py : NP} {L0 : List Qn} {ov : Value} {D : DataW Unit} (h : KnQ w kb mb ov D (L0.map flipQ) keep) :
  RcI w ((((w.alloc (.cells #[.int .i64 x.kind,.slice px.a1 x.nn px.c1,.slice px.a2 x.nk px.c2] 48)).alloc (.cells #[.int .i64 y.kind,.slice py.a1 y.nn py.c1,.slice py.a2 y.nk py.c2] 48)).alloc (.cells #[.int .i64 0,.slice none 0 0,.slice none 0 0] 48)).alloc (.cells #[.int .i64 3,.slice none 0 0,.slice none 0 0] 48)) keep kb mb n x y px py L0 none 0 none 0 0 [] ov D:=by
 obtain ⟨W,hW⟩ : ∃ W,W = ((((w.alloc (.cells #[.int .i64 x.kind,.slice px.a1 x.nn px.c1,.slice px.a2 x.nk px.c2] 48)).alloc (.cells #[.int .i64 y.kind,.slice py.a1 y.nn py.c1,.slice py.a2 y.nk py.c2] 48)).alloc (.cells #[.int .i64 0,.slice none 0 0,.slice none 0 0] 48)).alloc (.cells #[.int .i64 3,.slice none 0 0,.slice none 0 0] 48)):=⟨_,rfl⟩
 have hs : W.heap.size = w.heap.size + 4:=by rw [hW];simp
 have hb : Below w.heap.size w W:=by rw [hW];exact (bel3 _ _ _ _).alloc (by simp;omega) _
 rw [<- hW]
 have r1:=row3 w (.int .i64 x.kind) (.slice px.a1 x.nn px.c1) (.slice px.a2 x.nk px.c2) 48
 have r2:=row3 (w.alloc (.cells #[.int .i64 x.kind,.slice px.a1 x.nn px.c1,.slice px.a2 x.nk px.c2] 48)) (.int .i64 y.kind) (.slice py.a1 y.nn py.c1) (.slice py.a2 y.nk py.c2) 48
 have r3:=row3 ((w.alloc (.cells #[.int .i64 x.kind,.slice px.a1 x.nn px.c1,.slice px.a2 x.nk px.c2] 48)).alloc (.cells #[.int .i64 y.kind,.slice py.a1 y.nn py.c1,.slice py.a2 y.nk py.c2] 48)) (.int .i64 0) (.slice none 0 0) (.slice none 0 0) 48
 have r4:=row3 (((w.alloc (.cells #[.int .i64 x.kind,.slice px.a1 x.nn px.c1,.slice px.a2 x.nk px.c2] 48)).alloc (.cells #[.int .i64 y.kind,.slice py.a1 y.nn py.c1,.slice py.a2 y.nk py.c2] 48)).alloc (.cells #[.int .i64 0,.slice none 0 0,.slice none 0 0] 48)) (.int .i64 3) (.slice none 0 0) (.slice none 0 0) 48
 simp only [World.size_alloc] at r2 r3 r4
 have q1:=((r1.alloc (.cells #[.int .i64 y.kind,.slice py.a1 y.nn py.c1,.slice py.a2 y.nk py.c2] 48)).alloc (.cells #[.int .i64 0,.slice none 0 0,.slice none 0 0] 48)).alloc (.cells #[.int .i64 3,.slice none 0 0,.slice none 0 0] 48)
 have q2:=(r2.alloc (.cells #[.int .i64 0,.slice none 0 0,.slice none 0 0] 48)).alloc (.cells #[.int .i64 3,.slice none 0 0,.slice none 0 0] 48)
 have q3:=r3.alloc (.cells #[.int .i64 3,.slice none 0 0,.slice none 0 0] 48)
 rw [<- hW] at q1 q2 q3 r4
 refine ⟨rfl,⟨World.ownsRow_nil _ _ _ _,World.ownsRow_nil _ _ _ _,fun b e=>by simp [Value.ownBlock] at e⟩,?_,q1,q2,q3,r4,⟨hb.os,hb.tape,hb.output,hb.size,fun k hk=>hb.block k (h.far k hk).1⟩,fun j hj=>(h.far j hj).1⟩
 have hB:=h.below hb
 have hkl:=h.row.lt
 have hml:=h.mlt
 refine ⟨hB.row,hB.mlt,hB.map,hB.has,hB.val,hB.own,fun k hk=>?_⟩
 rcases hk with hk | hk | hk | hk
 ·exact hB.far k hk
 ·refine ⟨by omega,by omega,by omega,fun e=>?_⟩
  have:=(h.own.lt k e.symm).2
  omega
 ·simp [Value.ownBlock] at hk
 ·simp [Value.ownBlock] at hk
theorem rc_step {w wr w1 w2 : World} {keep : Nat -> Prop} {kb mb n : Nat} {x y : ND} {px py : NP} {L0 : List Qn} {na : Option Addr} {nc : Nat} {ka : Option Addr} {kc m : Nat} {dn : List (ByteArray × Kq)} {ov ov1 : Value} {D D1 : DataW Unit} {k : Kq} {s : ByteArray} {gg c1 hh c2 : Nat} {z : Int}
  (h : RcI w wr keep kb mb n x y px py L0 na nc ka kc m dn ov D) (hk1 : KnQ w1 kb mb ov1 D1 ((addQ (addAll L0 (dn.map Prod.snd)) k).map flipQ) (rkeep keep w.heap.size (.slice na m nc) (.slice ka m kc)))
  (hkp : Kept (rkeep keep w.heap.size (.slice na m nc) (.slice ka m kc)) wr w1) (hz : z = (numK n (addQ (addAll L0 (dn.map Prod.snd)) k) k : Int))
  (ht : Two (w.heap.size + 4) w2 (.slice (some ⟨gg,0,none⟩) (m + 1) c1) (.slice (some ⟨hh,0,none⟩) (m + 1) c2) (dn.map Prod.fst ++ [s]) (((dn.map Prod.snd).map fun k=>(numK n (addAll L0 (dn.map Prod.snd)) k : Int)) ++ [z]) (m + 1))
  (hbt : But2 w1 w2 (Value.slice na m nc).ownBlock (Value.slice ka m kc).ownBlock) (hgg : (Value.slice na m nc).ownBlock = some gg \/ w1.heap.size <= gg) (hhh : (Value.slice ka m kc).ownBlock = some hh \/ w1.heap.size <= hh) :
  RcI w (((w2.setCell ⟨w.heap.size + 1 + 1 + 1,0,none⟩ (.int .i64 3)).setCell ⟨w.heap.size + 1 + 1 + 1,1,none⟩ (.slice (some ⟨gg,0,none⟩) (m + 1) c1)).setCell ⟨w.heap.size + 1 + 1 + 1,2,none⟩ (.slice (some ⟨hh,0,none⟩) (m + 1) c2)) keep kb mb n x y px py L0 (some ⟨gg,0,none⟩) c1 (some ⟨hh,0,none⟩) c2 (m + 1) (dn ++ [(s,k)]) ov1 D1 /\
  (∀ i,i < 3 -> w2.cell? ⟨w.heap.size + 1 + 1 + 1,i,none⟩ = some (v3 (.int .i64 3) (.slice na m nc) (.slice ka m kc) i) /\ w2.frozen? ⟨w.heap.size + 1 + 1 + 1,i,none⟩ = false) /\
  Kept keep w w2 /\ w2.rowIs w.heap.size 48 3 (v3 (.int .i64 x.kind) (.slice px.a1 x.nn px.c1) (.slice px.a2 x.nk px.c2)) /\ w2.rowIs (w.heap.size + 1) 48 3 (v3 (.int .i64 y.kind) (.slice py.a1 y.nn py.c1) (.slice py.a2 y.nk py.c2)):=by
 have nb : ∀ j,j < w.heap.size + 4 -> some j ≠ (Value.slice na m nc).ownBlock /\ some j ≠ (Value.slice ka m kc).ownBlock:=fun j hj=>⟨fun e=>by have:=(h.two.own1.lt j e.symm).1;omega,fun e=>by have:=(h.two.own2.lt j e.symm).1;omega⟩
 have s1:=hkp.size
 have s2:=hbt.size
 have hsw : w.heap.size + 4 <= wr.heap.size:=by have:=h.bo.lt;omega
 have far:=hk1.far
 have kbl:=hk1.row.lt
 have mbl:=hk1.mlt
 have st : ∀ j,j < w1.heap.size -> some j ≠ (Value.slice na m nc).ownBlock -> some j ≠ (Value.slice ka m kc).ownBlock -> j ≠ w.heap.size + 1 + 1 + 1 -> (((w2.setCell ⟨w.heap.size + 1 + 1 + 1,0,none⟩ (.int .i64 3)).setCell ⟨w.heap.size + 1 + 1 + 1,1,none⟩ (.slice (some ⟨gg,0,none⟩) (m + 1) c1)).setCell ⟨w.heap.size + 1 + 1 + 1,2,none⟩ (.slice (some ⟨hh,0,none⟩) (m + 1) c2)).heap[j]? = w1.heap[j]?:=fun j hj h1 h2 h3=>
  (set3 j h3).trans (hbt.block j hj h1 h2)
 have vnf : ∀ j,(Value.slice na m nc).ownBlock = some j -> j < w1.heap.size /\ j ≠ kb /\ j ≠ mb /\ some j ≠ ov1.ownBlock:=fun j e=>far j (Or.inr (Or.inr (Or.inl e)))
 have vkf : ∀ j,(Value.slice ka m kc).ownBlock = some j -> j < w1.heap.size /\ j ≠ kb /\ j ≠ mb /\ some j ≠ ov1.ownBlock:=fun j e=>far j (Or.inr (Or.inr (Or.inr e)))
 have fbox : ∀ j,w.heap.size <= j -> j < w.heap.size + 4 -> j < w1.heap.size /\ j ≠ kb /\ j ≠ mb /\ some j ≠ ov1.ownBlock:=fun j h1 h2=>far j (Or.inr (Or.inl ⟨h1,h2⟩))
 obtain ⟨_,o1,o2,o3⟩:=fbox (w.heap.size + 1 + 1 + 1) (by omega) (by omega)
 have bk : ∀ j,w.heap.size <= j -> j < w.heap.size + 4 -> w2.heap[j]? = wr.heap[j]?:=fun j h1 h2=>(hbt.block j (by omega) (nb j h2).1 (nb j h2).2).trans (hkp.block j (Or.inr (Or.inl ⟨h1,h2⟩)))
 have bo2:=h.bo.of_block (bk _ (by omega) (by omega))
 have e1 : addAll L0 ((dn ++ [(s,k)]).map Prod.snd) = addQ (addAll L0 (dn.map Prod.snd)) k:=by rw [List.map_append];exact addAll_snoc _ _ _
 have e2 : ((dn ++ [(s,k)]).map Prod.snd).map (fun k'=>(numK n (addAll L0 ((dn ++ [(s,k)]).map Prod.snd)) k' : Int)) = ((dn.map Prod.snd).map fun k=>(numK n (addAll L0 (dn.map Prod.snd)) k : Int)) ++ [z]:=by
  rw [e1,List.map_append,List.map_append,hz]
  congr 1
  refine List.map_congr_left (fun k' hk'=>?_)
  congr 1
  exact (numK_pre (addQ_pre _ _) (fun q e=>addAll_has _ _ q (by rw [<- e];exact hk'))).symm
 have gl1:=(ht.own1.lt gg rfl)
 have hl1:=(ht.own2.lt hh rfl)
 have ggne : gg ≠ w.heap.size + 1 + 1 + 1:=by omega
 have hhne : hh ≠ w.heap.size + 1 + 1 + 1:=by omega
 refine ⟨⟨by simp [h.len],?_,?_,?_,?_,?_,?_,?_,h.old⟩,fun i hi=>⟨bo2.cell (i:=i) hi,bo2.frozen i⟩,⟨hbt.os.trans (hkp.os.trans h.kept.os),hbt.tape.trans (hkp.tape.trans h.kept.tape),hbt.output.trans (hkp.output.trans h.kept.output),by have:=h.kept.size;omega,fun j hj=>by
  have hlt:=h.old j hj
  exact ((hbt.block j (by omega) (nb j (by omega)).1 (nb j (by omega)).2).trans (hkp.block j (Or.inl hj))).trans (h.kept.block j hj)⟩,h.bx.of_block (bk _ (by omega) (by omega)),h.bY.of_block (bk _ (by omega) (by omega))⟩
 ·rw [List.map_append,e2]
  exact ht.other (fun j e=>by have : gg = j:=by simpa [Value.ownBlock] using e
                              subst this;exact set3 _ ggne) (fun j e=>by have : hh = j:=by simpa [Value.ownBlock] using e
                                                                         subst this;exact set3 _ hhne)
 ·rw [e1]
  refine hk1.other (st kb kbl (fun e=>(vnf kb e.symm).2.1 rfl) (fun e=>(vkf kb e.symm).2.1 rfl) (Ne.symm o1)) (st mb (by omega) (fun e=>(vnf mb e.symm).2.2.1 rfl) (fun e=>(vkf mb e.symm).2.2.1 rfl) (Ne.symm o2)) (fun j e=>st j (hk1.own.lt j e).2 (fun e2=>(vnf j e2.symm).2.2.2 e.symm) (fun e2=>(vkf j e2.symm).2.2.2 e.symm) (fun e2=>o3 (by rw [<- e2];exact e.symm))) (fun j hj=>?_)
  have hsz : (((w2.setCell ⟨w.heap.size + 1 + 1 + 1,0,none⟩ (.int .i64 3)).setCell ⟨w.heap.size + 1 + 1 + 1,1,none⟩ (.slice (some ⟨gg,0,none⟩) (m + 1) c1)).setCell ⟨w.heap.size + 1 + 1 + 1,2,none⟩ (.slice (some ⟨hh,0,none⟩) (m + 1) c2)).heap.size = w2.heap.size:=by simp
  have fresh : ∀ j,w1.heap.size <= j -> j < w2.heap.size -> j < w2.heap.size /\ j ≠ kb /\ j ≠ mb /\ some j ≠ ov1.ownBlock:=fun j h1 h2=>⟨h2,by omega,by omega,fun e=>by have:=(hk1.own.lt j e.symm).2;omega⟩
  rw [hsz]
  rcases hj with hj | hj | hj | hj
  ·obtain ⟨f1,f2⟩:=far j (Or.inl hj);exact ⟨by omega,f2⟩
  ·obtain ⟨f1,f2⟩:=fbox j hj.1 hj.2;exact ⟨by omega,f2⟩
  ·have e : gg = j:=by simpa [Value.ownBlock] using hj
   subst e
   rcases hgg with q | q
   ·obtain ⟨f1,f2⟩:=vnf gg q;exact ⟨by omega,f2⟩
   ·exact fresh gg q gl1.2
  ·have e : hh = j:=by simpa [Value.ownBlock] using hj
   subst e
   rcases hhh with q | q
   ·obtain ⟨f1,f2⟩:=vkf hh q;exact ⟨by omega,f2⟩
   ·exact fresh hh q hl1.2
 ·exact h.bx.of_block ((set3 _ (by omega)).trans (bk _ (by omega) (by omega)))
 ·exact h.bY.of_block ((set3 _ (by omega)).trans (bk _ (by omega) (by omega)))
 ·exact h.br.of_block ((set3 _ (by omega)).trans (bk _ (by omega) (by omega)))
 ·refine (((bo2.set 0 _).set 1 _).set 2 _).congr (fun i hi=>?_)
  match i,hi with
  | 0,_=>rfl
  | 1,_=>rfl
  | 2,_=>rfl
 ·refine ⟨hbt.os.trans (hkp.os.trans h.kept.os),hbt.tape.trans (hkp.tape.trans h.kept.tape),hbt.output.trans (hkp.output.trans h.kept.output),?_,fun j hj=>?_⟩
  ·have:=h.kept.size
   simp
   omega
  ·have hlt:=h.old j hj
   exact ((st j (by omega) (nb j (by omega)).1 (nb j (by omega)).2 (by omega)).trans (hkp.block j (Or.inl hj))).trans (h.kept.block j hj)
end Go.Proofs.YtpbpbppimkeodaaGreatDoor
