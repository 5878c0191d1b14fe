/-
  MY
-/
import Derived.Test.YtpbpbppimkeodaaGreatDoorSw
import Derived.Test.YtpbpbppimkeodaaGreatDoorSq
import Derived.Test.YtpbpbppimkeodaaGreatDoorSy
import Derived.Deep.RegionHeld3
import Derived.BigQuiet
import Derived.Test.YtpbpbppimkeodaaGreatDoorSx
namespace Go.Proofs.YtpbpbppimkeodaaGreatDoor
open Go.RowKit Go.Maps
def ns2 (a b : Nat) (i : Nat) : Nat:=if i = 0 then a else b
theorem own_bl {w : World} {base : Nat} {oa : Option Addr} {n cap : Nat} {ks : List Kq} (h : w.ownsRow base 81 3 (.slice oa n cap) n (kcells ks)) (hl : ks.length = n) (d : Kq) : ∃ g,BlAt w oa g n (fun i=>ks.getD i d) /\ (0 < n -> base <= g /\ g < w.heap.size /\ (Value.slice oa n cap).ownBlock = some g):=by
 obtain ⟨h1,h2⟩:=h
 have kc : ∀ (l : List Kq) (i : Nat),i < l.length -> ∀ j,j < 3 -> (kcells l)[i * 3 + j]? = (kcell (l.getD i d))[j]?:=by
  intro l
  induction l with
  | nil=>intro i hi;simp at hi
  | cons x t ih=>
    intro i hi j hj
    have e3 : (kcell x).length = 3:=by cases x <;> rfl
    have hc : kcells (x :: t) = kcell x ++ kcells t:=rfl
    rw [hc]
    cases i with
    | zero=>
      rw [Nat.zero_mul,Nat.zero_add,List.getElem?_append_left (by omega)]
      rfl
    | succ i=>
      rw [show (i + 1) * 3 + j = 3 + (i * 3 + j) from by omega,List.getElem?_append_right (by omega),e3,show 3 + (i * 3 + j) - 3 = i * 3 + j from by omega,ih i (by simpa using hi) j hj]
      simp
 rcases h2 with ⟨hv,hn⟩ | ⟨g,cap',cur,hv,hb,hh,hc,hm,hs,ht⟩
 ·exact ⟨0,⟨fun z=>absurd z (by omega),fun i z=>absurd z (by omega),by omega⟩,fun z=>absurd z (by omega)⟩
 ·simp only [Value.slice.injEq] at hv
  have eg : (Value.slice oa n cap).ownBlock = some g:=by rw [hv.1];rfl
  refine ⟨g,⟨fun _=>hv.1,fun i hi j hj=>?_,by unfold maxLen at hm;omega⟩,fun _=>⟨hb,(Array.getElem?_eq_some_iff.1 hh).1,eg⟩⟩
  have k1:=kc ks i (by omega) j hj
  have l3 : (kcell (ks.getD i d)).length = 3:=by cases ks.getD i d <;> rfl
  obtain ⟨u,hu⟩ : ∃ u,(kcell (ks.getD i d))[j]? = some u:=⟨_,List.getElem?_eq_getElem (by omega)⟩
  rw [hu] at k1 ⊢
  rw [<- ht,List.getElem?_take,if_pos (by omega),Array.getElem?_toList] at k1
  simp [World.cell?,hh,k1]
theorem getD_qn (L : List Qn) (q : Qn) (i : Nat) : (L.map Kq.qn).getD i (.qn q) = .qn (L.getD i q):=by
 rw [List.getD_eq_getElem?_getD,List.getD_eq_getElem?_getD,List.getElem?_map]
 cases L[i]? <;> rfl
theorem own_bq {w : World} {base : Nat} {oa : Option Addr} {n cap : Nat} {L : List Qn} (h : w.ownsRow base 81 3 (.slice oa n cap) n (kcells (L.map Kq.qn))) (hl : L.length = n) (q : Qn) : ∃ g,BlAt w oa g n (fun i=>.qn (L.getD i q)) /\ (0 < n -> base <= g /\ g < w.heap.size /\ (Value.slice oa n cap).ownBlock = some g):=by
 obtain ⟨g,B,z⟩:=own_bl h (by rw [List.length_map];exact hl) (.qn q)
 refine ⟨g,⟨B.at_,fun i hi j hj=>?_,B.len⟩,z⟩
 have:=B.c i hi j hj
 rw [this,getD_qn]
def MMixPost (w : World) (N : Nat) (G : Nat -> ND) (a b : Nat) (up : Bool) (e : Ending) (w' : World) : Prop:=
 ∃ (cm r : Nat -> Nat),(∀ x y,x < N -> y < N -> (cm x = cm y ↔ Same N G x y)) /\
   (∀ t,t < (allTill G cm (N + 1) (ns2 a b) [] 2).length -> r t < N /\ (cm (r t) : Int) = ((((allTill G cm (N + 1) (ns2 a b) [] 2).map cm).getD t 0 : Nat) : Int)) /\
   Below w.heap.size w w' /\
   ((∃ k,OverQ (mN G cm (allTill G cm (N + 1) (ns2 a b) [] 2) r) ⟨numOf cm (allTill G cm (N + 1) (ns2 a b) [] 2) a,numOf cm (allTill G cm (N + 1) (ns2 a b) [] 2) b,up⟩ k /\
       ∃ nb,e = .returned (.tuple #[.agg #[.slice (some ⟨nb,0,none⟩) 1 1],.int .i64 0]) /\ NodesAt w' (some ⟨nb,0,none⟩) nb 0 1 (fun _=>np0) (fun _=>mkN 0)) \/
    (∃ k,FullQ (mN G cm (allTill G cm (N + 1) (ns2 a b) [] 2) r) ⟨numOf cm (allTill G cm (N + 1) (ns2 a b) [] 2) a,numOf cm (allTill G cm (N + 1) (ns2 a b) [] 2) b,up⟩ k /\
       ∃ (n' : Nat) (G' : Nat -> ND),n' = (allTill G cm (N + 1) (ns2 a b) [] 2).length + k /\ G' = mixG (allTill G cm (N + 1) (ns2 a b) [] 2).length (mN G cm (allTill G cm (N + 1) (ns2 a b) [] 2) r) (qsTill (mN G cm (allTill G cm (N + 1) (ns2 a b) [] 2) r) ⟨numOf cm (allTill G cm (N + 1) (ns2 a b) [] 2) a,numOf cm (allTill G cm (N + 1) (ns2 a b) [] 2) b,up⟩ k) ⟨numOf cm (allTill G cm (N + 1) (ns2 a b) [] 2) a,numOf cm (allTill G cm (N + 1) (ns2 a b) [] 2) b,up⟩ /\
       ∃ (c2 r2 : Nat -> Nat),(∀ x y,x < n' -> y < n' -> (c2 x = c2 y ↔ Same n' G' x y)) /\
         (∀ t,t < (allTill G' c2 (n' + 1) (fun _=>(allTill G cm (N + 1) (ns2 a b) [] 2).length) [] 1).length -> r2 t < n' /\ (c2 (r2 t) : Int) = ((((allTill G' c2 (n' + 1) (fun _=>(allTill G cm (N + 1) (ns2 a b) [] 2).length) [] 1).map c2).getD t 0 : Nat) : Int)) /\
         ∃ (oa : Option Addr) (b' cap : Nat) (q : Nat -> NP),e = .returned (.tuple #[.agg #[.slice oa (allTill G' c2 (n' + 1) (fun _=>(allTill G cm (N + 1) (ns2 a b) [] 2).length) [] 1).length cap],.int .i64 (numOf c2 (allTill G' c2 (n' + 1) (fun _=>(allTill G cm (N + 1) (ns2 a b) [] 2).length) [] 1) (allTill G cm (N + 1) (ns2 a b) [] 2).length : Int)]) /\
           NodesAt w' oa b' 0 (allTill G' c2 (n' + 1) (fun _=>(allTill G cm (N + 1) (ns2 a b) [] 2).length) [] 1).length q (mN G' c2 (allTill G' c2 (n' + 1) (fun _=>(allTill G cm (N + 1) (ns2 a b) [] 2).length) [] 1) r2)))
theorem mcanon_set {w W w' : World} {N R X : Nat} {G : Nat -> ND} {ns : Nat -> Nat} {e : Ending} {t : TypeId} {bo : Option Addr} {k c : Nat} (h : MCanonPost W N R G ns e w') (hW : Below w.heap.size w W) (hX : w'.rowIs X t 1 (fun _=>.slice bo k c)) (hb : w.heap.size <= X) (u : Value) : MCanonPost w N R G ns e (w'.setCell ⟨X,0,none⟩ u):=by
 obtain ⟨cm,r,h1,h2,oa,b',cap,q,la,lb,lc,h3,h4,h5,h6⟩:=h
 exact ⟨cm,r,h1,h2,oa,b',cap,q,la,lb,lc,h3,nodes_box h4 hX u,ints_box h5 hX u,(hW.trans (h6.mono hW.size)).setCell hb u⟩
theorem NodesAt.same {w : World} {ao : Option Addr} {b o n : Nat} {p : Nat -> NP} {G H : Nat -> ND} (h : NodesAt w ao b o n p G) (e : ∀ i,i < n -> Lab (G i) (H i) /\ ∀ j,j < (G i).nk -> (G i).kd j = (H i).kd j) : NodesAt w ao b o n p H:=by
 refine ⟨h.at_,fun i hi=>by rw [<- (e i hi).1.kind];exact h.c0 i hi,fun i hi=>by rw [<- (e i hi).1.nn];exact h.c1 i hi,fun i hi=>by rw [<- (e i hi).1.nk];exact h.c2 i hi,fun i hi=>⟨?_,?_⟩,h.len⟩
 ·have q:=(h.node i hi).names
  obtain ⟨l,_⟩:=e i hi
  rw [<- l.nn]
  exact ⟨q.at_,fun j hj=>by rw [<- l.nm j hj];exact q.cell j hj,fun j hj=>by rw [<- l.nm j hj];exact q.size j hj,q.len⟩
 ·have q:=(h.node i hi).kids
  obtain ⟨l,k⟩:=e i hi
  rw [<- l.nk]
  exact q.congr k
theorem OwnG.same {w : World} {n b : Nat} {p : Nat -> NP} {G H : Nat -> ND} (h : OwnG w n b p G) (e : ∀ i,i < n -> (G i).nn = (H i).nn /\ (G i).nk = (H i).nk) : OwnG w n b p H:=by
 refine ⟨h.row,fun i hi=>?_,fun i j hi hj=>?_⟩
 ·have:=h.node i hi
  rw [(e i hi).1,(e i hi).2] at this
  exact this
 ·have:=h.sep i j hi hj
  unfold SepIJ at this ⊢
  rw [(e i hi).1,(e i hi).2,(e j hj).1,(e j hj).2] at this
  exact this
theorem FreshG.same {base n R b lb : Nat} {p : Nat -> NP} {G H : Nat -> ND} (h : FreshG base n R b lb p G) (e : ∀ i,i < n -> (G i).nn = (H i).nn /\ (G i).nk = (H i).nk) : FreshG base n R b lb p H:=by
 refine ⟨h.row,fun i hi=>?_,h.list⟩
 have:=h.node i hi
 rw [(e i hi).1,(e i hi).2] at this
 exact this
theorem none_nodesE (w : World) (ao : Option Addr) (b o : Nat) (p : Nat -> NP) (G : Nat -> ND) : NodesAt w ao b o 0 p G:=
 ⟨fun h=>absurd h (Nat.lt_irrefl _),fun _ h=>absurd h (Nat.not_lt_zero _),fun _ h=>absurd h (Nat.not_lt_zero _),fun _ h=>absurd h (Nat.not_lt_zero _),fun _ h=>absurd h (Nat.not_lt_zero _),Nat.zero_le _⟩
end Go.Proofs.YtpbpbppimkeodaaGreatDoor
