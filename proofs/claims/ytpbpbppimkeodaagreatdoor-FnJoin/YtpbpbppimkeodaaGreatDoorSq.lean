/-
  MP MO JoX
-/
import Derived.Test.YtpbpbppimkeodaaGreatDoorSo
import Derived.Test.YtpbpbppimkeodaaGreatDoorSp
import Derived.BigQuiet
import Derived.Deep.AppendLies
import Derived.Test.YtpbpbppimkeodaaGreatDoorSc
set_option maxRecDepth 100000
namespace Go.Proofs.YtpbpbppimkeodaaGreatDoor
theorem vis_fuel {N : Nat} {G : Nat -> ND} {cl : Nat -> Nat} (hK : Kids N G) : ∀ (f : Nat) (st : List Nat) (n : Nat),n < N -> (∀ s,s ∈ st -> s < N) -> missing N cl st < f -> vis G cl f st n = vis G cl (f + 1) st n
 | 0,_,_,_,_,hm=>absurd hm (Nat.not_lt_zero _)
 | f + 1,st,n,hn,hst,hm=>by
   unfold vis
   by_cases hs : stands cl st n = true
   ·rw [if_pos hs,if_pos hs]
   ·rw [if_neg hs,if_neg hs]
    have hm1:=missing_lt hn hs
    have:=foldl_map_of (m:=fun s : List Nat=>s) (g:=fun s j=>vis G cl f s (kid (G n) j)) (k:=fun s j=>vis G cl (f + 1) s (kid (G n) j)) (Q:=fun s : List Nat=>(∀ x,x ∈ s -> x < N) /\ missing N cl s < f) (List.range (G n).nk) (st ++ [n]) ?_ ?_
    ·exact this.1
    ·refine ⟨fun s q=>?_,by omega⟩
     rcases List.mem_append.1 q with q | q
     ·exact hst s q
     ·simp at q;subst q;exact hn
    ·rintro c j hj ⟨hc,hmc⟩
     have hk:=hK.lt hn (List.mem_range.1 hj)
     exact ⟨vis_fuel hK f c _ hk hc hmc,vis_lt hK f c _ hk hc,Nat.lt_of_le_of_lt (missing_le (fun s hs=>vis_sub f c _ hs)) hmc⟩
theorem vis_fuels {N : Nat} {G : Nat -> ND} {cl : Nat -> Nat} (hK : Kids N G) {f : Nat} {st : List Nat} {n : Nat} (hn : n < N) (hst : ∀ s,s ∈ st -> s < N) (hm : missing N cl st < f) : ∀ d,vis G cl f st n = vis G cl (f + d) st n
 | 0=>rfl
 | d + 1=>by rw [vis_fuels hK hn hst hm d,vis_fuel hK (f + d) st n hn hst (by omega)];rfl
theorem allTill_fuel {N : Nat} {G : Nat -> ND} {cl : Nat -> Nat} (hK : Kids N G) {ns : Nat -> Nat} {m d : Nat} (hn : ∀ i,i < m -> ns i < N) : ∀ k,k <= m -> allTill G cl (N + 1) ns [] k = allTill G cl (N + 1 + d) ns [] k
 | 0,_=>rfl
 | k + 1,hk=>by
   have ih:=allTill_fuel (d:=d) (cl:=cl) hK hn k (by omega)
   have h1:=(allTill_full (cl:=cl) hK hn (f:=N + 1) (by omega) k (by omega)).1
   rw [allTill_succ,allTill_succ,<- ih]
   exact vis_fuels hK (hn k (by omega)) h1 (by have:=missing_all N cl (allTill G cl (N + 1) ns [] k);omega) d
theorem allTill_hom {N' N : Nat} {G' G : Nat -> ND} {h cl' cl : Nat -> Nat} (H : Hom N' G' N G h) (hc : ∀ a b,a < N' -> b < N' -> (cl' a = cl' b ↔ cl (h a) = cl (h b))) {f m : Nat} {ns : Nat -> Nat} (hn : ∀ i,i < m -> ns i < N') : ∀ k,k <= m ->
  (allTill G' cl' f ns [] k).map h = allTill G cl f (fun i=>h (ns i)) [] k /\ ∀ s,s ∈ allTill G' cl' f ns [] k -> s < N'
 | 0,_=>⟨rfl,fun s hs=>by simp [allTill] at hs⟩
 | k + 1,hk=>by
   obtain ⟨e,hl⟩:=allTill_hom H hc (f:=f) hn k (by omega)
   rw [allTill_succ,allTill_succ,<- e]
   exact vis_hom H hc f _ _ (hn k (by omega)) hl
theorem allTill_apart {G : Nat -> ND} {cl : Nat -> Nat} {f : Nat} {ns : Nat -> Nat} : ∀ k,Apart cl (allTill G cl f ns [] k)
 | 0=>List.Pairwise.nil
 | k + 1=>by rw [allTill_succ];exact vis_apart f _ _ (allTill_apart k)
abbrev idn : Nat -> Nat:=fun i=>i
theorem cong_of {N : Nat} {G : Nat -> ND} {cl : Nat -> Nat} (hK : Kids N G) (h : ∀ x y,x < N -> y < N -> (cl x = cl y ↔ Same N G x y)) : ∀ x y,x < N -> y < N -> cl x = cl y -> Lab (G x) (G y) /\ ∀ j,j < (G x).nk -> cl (kid (G x) j) = cl (kid (G y) j):=by
 intro x y hx hy e
 have hs:=(h x y hx hy).1 e
 have hl:=hs.lab hx hy
 exact ⟨hl,fun j hj=>(h _ _ (hK.lt hx hj) (hK.lt hy (by rw [<- hl.nk];exact hj))).2 (hs.kid hx hy hj)⟩
theorem apart_len {n : Nat} {cl : Nat -> Nat} {S : List Nat} (hA : Apart cl S) (h : ∀ s,s ∈ S -> s < n) : S.length <= n:=by
 have hn : S.Nodup:=hA.imp (fun hab e=>hab (by rw [e]))
 have:=nodup_len (l':=List.range n) hn (fun x hx=>List.mem_range.2 (h x hx))
 simpa using this
end Go.Proofs.YtpbpbppimkeodaaGreatDoor
namespace Go.Proofs.YtpbpbppimkeodaaGreatDoor
open Go.RowKit Go.Maps
theorem ints_box {w : World} {X : Nat} {t : TypeId} {ao bo : Option Addr} {b o n k c : Nat} {D : Nat -> Int} (h : IntsAt w ao b o n D) (hX : w.rowIs X t 1 (fun _=>.slice bo k c)) (u : Value) : IntsAt (w.setCell ⟨X,0,none⟩ u) ao b o n D:=
 h.later (fun z=>Below.heap_setCell _ _ _ _ (box_cell hX (h.cell 0 z) (by simp)))
end Go.Proofs.YtpbpbppimkeodaaGreatDoor
namespace Go.Proofs.YtpbpbppimkeodaaGreatDoor
theorem idx_hom {n : Nat} {cl cm h : Nat -> Nat} (hc : ∀ a b,a < n -> b < n -> (cl a = cl b ↔ cm (h a) = cm (h b))) {y : Nat} (hy : y < n) : ∀ (S : List Nat),(∀ s,s ∈ S -> s < n) ->
  (S.map cl).idxOf (cl y) = ((S.map h).map cm).idxOf (cm (h y))
 | [],_=>rfl
 | s :: t,hs=>by
   have ih:=idx_hom hc hy t (fun x hx=>hs x (List.mem_cons_of_mem _ hx))
   have h1:=hc s y (hs s List.mem_cons_self) hy
   rw [List.map_cons,List.map_cons,List.map_cons,List.idxOf_cons,List.idxOf_cons]
   by_cases e : cl s = cl y
   ·have e2:=h1.1 e
    simp [e,e2]
   ·have e2 : ¬ cm (h s) = cm (h y):=fun q=>e (h1.2 q)
    have b1 : (cl s == cl y) = false:=by simp [e]
    have b2 : (cm (h s) == cm (h y)) = false:=by simp [e2]
    rw [b1,b2,ih]
theorem numOf_hom {n : Nat} {cl cm h : Nat -> Nat} (hc : ∀ a b,a < n -> b < n -> (cl a = cl b ↔ cm (h a) = cm (h b))) {y : Nat} (hy : y < n) {S : List Nat} (hS : ∀ s,s ∈ S -> s < n) :
  numOf cl S y = numOf cm (S.map h) (h y):=idx_hom hc hy S hS
theorem getD_numOf {S : List Nat} {x : Nat} (h : stands idn S x = true) : S.getD (numOf idn S x) 0 = x:=by
 obtain ⟨s,hs,e⟩:=stands_iff.1 h
 have e' : s = x:=e
 subst e'
 have hl:=List.idxOf_lt_length_of_mem hs
 have hm : S.map idn = S:=List.map_id S
 unfold numOf
 rw [hm]
 show S.getD (S.idxOf s) 0 = s
 rw [List.getD_eq_getElem?_getD,List.getElem?_eq_getElem hl]
 exact List.getElem_idxOf hl
structure OneF (N R : Nat) (G : Nat -> ND) (ns cm : Nat -> Nat) (M : List Nat) (n2 : Nat) (c : Nat -> ND) (at_ : Nat -> Nat) : Prop where
 len : n2 = M.length
 num : ∀ i,i < R -> at_ i = numOf cm M (ns i)
 node : ∀ k,k < n2 -> ∀ x,x < N -> cm x = cm (M.getD k 0) -> Lab (c k) (G x) /\ ∀ j,j < (G x).nk -> (c k).kd j = (numOf cm M (kid (G x) j) : Int)
theorem canon_one {N R : Nat} {G : Nat -> ND} {ns cl cm : Nat -> Nat} (hK : Kids N G) (hn : ∀ i,i < R -> ns i < N)
  (hcl : ∀ x y,x < (S1 N R G ns).length -> y < (S1 N R G ns).length -> (cl x = cl y ↔ Same (S1 N R G ns).length (G1 N R G ns) x y))
  (hcm : ∀ x y,x < N -> y < N -> (cm x = cm y ↔ Same N G x y)) :
  OneF N R G ns cm (allTill G cm (N + 1) ns [] R) (allTill (G1 N R G ns) cl ((S1 N R G ns).length + 1) (ns1 N R G ns) [] R).length (G2 (G1 N R G ns) cl (allTill (G1 N R G ns) cl ((S1 N R G ns).length + 1) (ns1 N R G ns) [] R)) (fun i=>numOf cl (allTill (G1 N R G ns) cl ((S1 N R G ns).length + 1) (ns1 N R G ns) [] R) (ns1 N R G ns i)):=by
 obtain ⟨f1,f2,f3⟩:=allTill_full (G:=G) (cl:=idn) hK (f:=N + 1) (ns:=ns) (m:=R) hn (by omega) R (Nat.le_refl _)
 have A1 : Apart idn (S1 N R G ns):=allTill_apart R
 have l1 : (S1 N R G ns).length <= N:=apart_len A1 f1
 have K1 : Kids (S1 N R G ns).length (G1 N R G ns):=kids_G2 f3
 have n1 : ∀ i,i < R -> ns1 N R G ns i < (S1 N R G ns).length:=fun i hi=>numOf_lt (f2 i hi)
 have H1 : Hom (S1 N R G ns).length (G1 N R G ns) N G (fun s=>(S1 N R G ns).getD s 0):=by
  refine ⟨fun s hs=>f1 _ (getD_mem hs),fun s hs=>⟨rfl,rfl,fun _ _=>rfl,rfl⟩,fun s hs j hj=>⟨K1.lt hs hj,?_⟩⟩
  exact getD_numOf (f3 _ (getD_mem hs) j hj)
 have r1 : ∀ i,i < R -> (S1 N R G ns).getD (ns1 N R G ns i) 0 = ns i:=fun i hi=>getD_numOf (f2 i hi)
 obtain ⟨m1,hm1⟩ : ∃ m,m = (S1 N R G ns).length:=⟨_,rfl⟩
 obtain ⟨D1,hD1⟩ : ∃ D,D = G1 N R G ns:=⟨_,rfl⟩
 obtain ⟨h1,hh1⟩ : ∃ h,h = ns1 N R G ns:=⟨_,rfl⟩
 obtain ⟨h,hh⟩ : ∃ h : Nat -> Nat,h = fun s=>(S1 N R G ns).getD s 0:=⟨_,rfl⟩
 have r2 : ∀ i,i < R -> h (h1 i) = ns i:=fun i hi=>by rw [hh,hh1];exact r1 i hi
 rw [<- hh,<- hm1,<- hD1] at H1
 rw [<- hm1,<- hD1] at hcl
 rw [<- hm1] at l1 n1 K1
 rw [<- hD1] at K1
 rw [<- hh1] at n1
 rw [<- hm1,<- hD1,<- hh1]
 clear f1 f2 f3 A1 r1 hm1 hD1 hh1 hh
 obtain ⟨g1,g2,g3⟩:=allTill_full (G:=D1) (cl:=cl) K1 (f:=m1 + 1) (ns:=h1) (m:=R) n1 (by omega) R (Nat.le_refl _)
 have e4:=allTill_fuel (G:=D1) (cl:=cl) (d:=N - m1) K1 (ns:=h1) (m:=R) n1 R (Nat.le_refl _)
 rw [show m1 + 1 + (N - m1) = N + 1 from by omega] at e4
 obtain ⟨S,hS⟩ : ∃ S,S = allTill D1 cl (m1 + 1) h1 [] R:=⟨_,rfl⟩
 rw [<- hS] at g1 g2 g3 e4 ⊢
 have hc : ∀ a b,a < m1 -> b < m1 -> (cl a = cl b ↔ cm (h a) = cm (h b)):=fun a b ha hb=>by
  rw [hcl a b ha hb,H1.same ha hb,hcm _ _ (H1.lt a ha) (H1.lt b hb)]
 have e5:=(allTill_hom (cl':=cl) (cl:=cm) H1 hc (f:=N + 1) (ns:=h1) (m:=R) n1 R (Nat.le_refl _)).1
 have e6 : allTill G cm (N + 1) (fun i=>h (h1 i)) [] R = allTill G cm (N + 1) ns [] R:=by
  unfold allTill
  exact (foldl_map_of (m:=fun s : List Nat=>s) (g:=fun s j=>vis G cm (N + 1) s (h (h1 j))) (k:=fun s j=>vis G cm (N + 1) s (ns j)) (Q:=fun _=>True) (List.range R) [] trivial (fun s j hj _=>⟨congrArg (vis G cm (N + 1) s) (r2 j (List.mem_range.1 hj)),trivial⟩)).1
 rw [<- e4,e6] at e5
 rw [<- e5]
 refine ⟨by rw [List.length_map],fun i hi=>?_,fun k hk x hx e=>?_⟩
 ·rw [<- r2 i hi]
  exact numOf_hom hc (n1 i hi) g1
 ·have hs : S.getD k 0 < m1:=g1 _ (getD_mem hk)
  have em : (S.map h).getD k 0 = h (S.getD k 0):=by
   simp [List.getD,List.getElem?_eq_getElem hk]
  rw [em] at e
  obtain ⟨lx,kx⟩:=cong_of hK hcm _ _ hx (H1.lt _ hs) e
  have lh:=H1.lab _ hs
  have l0 : Lab (G2 D1 cl S k) (D1 (S.getD k 0)):=⟨rfl,rfl,fun _ _=>rfl,rfl⟩
  refine ⟨(l0.trans lh).trans lx.symm,fun j hj=>?_⟩
  show ((numOf cl S (kid (D1 (S.getD k 0)) j) : Nat) : Int) = _
  have hj1 : j < (D1 (S.getD k 0)).nk:=by rw [lh.nk,<- lx.nk];exact hj
  obtain ⟨ka,kb⟩:=H1.kids _ hs j hj1
  rw [numOf_hom hc ka g1,kb]
  unfold numOf
  rw [kx j hj]
end Go.Proofs.YtpbpbppimkeodaaGreatDoor
namespace Go.Proofs.YtpbpbppimkeodaaGreatDoor
open Go.RowKit Go.Maps
set_option maxHeartbeats 1000000 in
theorem m_place (ao : Option Addr) (b o n c : Nat) (D : Nat -> Int) (x : Int) (t : Nat) (w : World) (h1 : IntsAt w ao b o n D) (ht : t < n) (hx : D t = x) (hf : ∀ j,j < t -> D j ≠ x) :
  Calls Tryz.prog 51 #[.slice ao n c,.int .i64 x] w fun e w'=>e = .returned (.int .i64 (t : Int)) /\ w = w':=by
 have hlen:=h1.len
 have e1:=h1.at_ (by omega)
 subst e1
 have HC : Hid (∀ i,i < n -> w.cell? ⟨b,o + i,none⟩ = some (.int .i64 (D i))):=h1.cell
 have HX : Hid (D t = x):=hx
 have HF : Hid (∀ j,j < t -> D j ≠ x):=hf
 clear h1 hx hf
 go_enter Tryz.func51,Tryz.ntmps51
 go_wp2
 go_loop [5] (fun i=>∃ k : Nat,k <= t /\ i = .int .i64 k) (fun i=>n - (intOf i).toNat)
 case atStart=>exact ⟨0,Nat.zero_le _,rfl⟩
 case round=>
  obtain ⟨k,hk,rfl⟩:=hrel
  have hlt : k < n:=by omega
  have g1:=HC.out k hlt
  by_cases hkt : k < t
  ·have hne : ¬ D k = x:=HF.out k hkt
   go_wp2
   go_round
   case rel=>exact ⟨k + 1,by omega,by go_num⟩
   case measure=>simp [intOf];omega
  ·have HE : Hid (k = t):=by show k = t;omega
   have hD : D k = x:=by rw [HE.out];exact HX.out
   rw [hD] at g1
   clear hD
   go_wp2
   go_ret
   exact ⟨by rw [<- HE.out];rfl,rfl⟩
theorem grown_trans {a b c : World} {r s : Option Nat} (h1 : a.grownBy b r) (h2 : b.grownBy c s) (hs : ∀ j,s = some j -> r = some j \/ a.heap.size <= j) : a.grownBy c r:=
 ⟨h2.os.trans h1.os,h2.tape.trans h1.tape,h2.output.trans h1.output,Nat.le_trans h1.size h2.size,fun k hk hn=>by
  refine (h2.block k (Nat.lt_of_lt_of_le hk h1.size) (fun e=>?_)).trans (h1.block k hk hn)
  rcases hs k e.symm with q | q
  ·exact hn q.symm
  ·omega⟩
theorem grown_below2 {a b : World} {r : Option Nat} (h : Below a.heap.size a b) : a.grownBy b r:=⟨h.os,h.tape,h.output,h.size,fun k hk _=>h.block k hk⟩
theorem grown_box {a b : World} {o : Obj} {r : Option Nat} (h : (a.alloc o).grownBy b r) : a.grownBy b r:=by
 have hz:=h.size
 simp only [World.size_alloc] at hz
 exact ⟨h.os,h.tape,h.output,by omega,fun k hk hn=>(h.block k (by simp;omega) hn).trans (Below.heap_alloc _ _ _ hk)⟩
theorem vis_in2 {G : Nat -> ND} {cm : Nat -> Nat} {f node : Nat} {st : List Nat} (h : stands cm st node = true) : vis G cm (f + 1) st node = st:=by
 unfold vis;rw [if_pos h]
theorem vis_new2 {G : Nat -> ND} {cm : Nat -> Nat} {f node : Nat} {st : List Nat} (h : ¬ stands cm st node = true) : vis G cm (f + 1) st node = allTill G cm f (fun j=>kid (G node) j) (st ++ [node]) (G node).nk:=by
 unfold vis allTill;rw [if_neg h]
theorem till_facts {N : Nat} {G : Nat -> ND} {cm : Nat -> Nat} {f m : Nat} (hK : Kids N G) {ks : Nat -> Nat} (hk : ∀ j,j < m -> ks j < N) {S : List Nat} (hS : ∀ s,s ∈ S -> s < N) (hA : Apart cm S) : ∀ k,k <= m ->
  (∀ s,s ∈ allTill G cm f ks S k -> s < N) /\ Apart cm (allTill G cm f ks S k) /\ missing N cm (allTill G cm f ks S k) <= missing N cm S
 | 0,_=>⟨hS,hA,Nat.le_refl _⟩
 | k + 1,h=>by
   obtain ⟨a,b,c⟩:=till_facts (f:=f) hK hk hS hA k (by omega)
   rw [allTill_succ]
   exact ⟨vis_lt hK f _ _ (hk k (by omega)) a,vis_apart f _ _ b,Nat.le_trans (missing_le (fun s hs=>vis_sub f _ _ hs)) c⟩
theorem below_of_grown {w0 W0 wy : World} {base : Nat} {r : Option Nat} (hb : Below base w0 W0) (hs : base <= W0.heap.size) (h : W0.grownBy wy r) (hr : ∀ j,r = some j -> base <= j) : Below base w0 wy:=
 ⟨h.os.trans hb.os,h.tape.trans hb.tape,h.output.trans hb.output,Nat.le_trans hb.size h.size,fun j hj=>(h.block j (by omega) (fun e=>by have:=hr j e.symm;omega)).trans (hb.block j hj)⟩
def VisPost (base : Nat) (w : World) (v : Value) (cm : Nat -> Nat) (A : List Nat) (e : Ending) (w' : World) : Prop:=
 ∃ (oa : Option Addr) (n cap : Nat),e = .returned (.slice oa n cap) /\ w'.ownsRow base 3 1 (.slice oa n cap) n (icells (A.map cm)) /\ w.grownBy w' v.ownBlock /\ ∀ j,(Value.slice oa n cap).ownBlock = some j -> v.ownBlock = some j \/ w.heap.size <= j
set_option maxHeartbeats 8000000 in
theorem m_visit {N b o cb co : Nat} {p : Nat -> NP} {G : Nat -> ND} {cm : Nat -> Nat} (ao ca : Option Addr) (gc cc : Nat) (w0 : World) (hG : NodesAt w0 ao b o N p G) (hC : IntsAt w0 ca cb co N (fun i=>(cm i : Int))) (hK : Kids N G) (hnk : ∀ i,i < N -> (G i).nk <= 1048576) (hN : N <= 1048576) :
  ∀ (f : Nat) (st : List Nat) (node : Nat) (oa : Option Addr) (n cap : Nat) (w : World),Below w0.heap.size w0 w -> w.ownsRow w0.heap.size 3 1 (.slice oa n cap) n (icells (st.map cm)) -> node < N -> (∀ s,s ∈ st -> s < N) -> Apart cm st -> missing N cm st < f ->
    Calls Tryz.prog 50 #[.agg #[.slice ao N gc],.slice ca N cc,.slice oa n cap,.int .i64 (node : Int)] w (VisPost w0.heap.size w (.slice oa n cap) cm (vis G cm f st node)):=by
 intro f
 induction f with
 | zero=>intro st node oa n cap w _ _ _ _ _ hm;exact absurd hm (Nat.not_lt_zero _)
 | succ f ih=>
   intro st node oa n cap w hb hO hnd hst hA hm
   have hnl : (st.map cm).length = n:=by simpa [icells] using hO.1
   rw [List.length_map] at hnl
   have hle:=apart_len hA hst
   have HB : Hid (∀ w',Below w0.heap.size w0 w' -> NodesAt w' ao b o N p G):=fun w' h=>hG.below h
   have HC : Hid (∀ w',Below w0.heap.size w0 w' -> IntsAt w' ca cb co N (fun i=>(cm i : Int))):=fun w' h=>hC.below h
   have eA:=hG.at_ (by omega)
   have eC:=hC.at_ (by omega)
   subst eA
   subst eC
   have hnn : n <= N:=by omega
   have HNL : Hid (st.length = n):=hnl
   have hbs:=hb.size
   have hol : ∀ j,(Value.slice oa n cap).ownBlock = some j -> w0.heap.size <= j /\ j < w.heap.size:=fun j e=>hO.lt j e
   have HST : Hid (∀ s,s ∈ st -> s < N):=hst
   have HAP : Hid (Apart cm st):=hA
   have HM : Hid (missing N cm st < f + 1):=hm
   have HK : Hid (Kids N G):=hK
   have dk:=hnk node hnd
   have HIH : Hid (∀ (st : List Nat) (node : Nat) (oa : Option Addr) (n cap : Nat) (w : World),Below w0.heap.size w0 w -> w.ownsRow w0.heap.size 3 1 (.slice oa n cap) n (icells (st.map cm)) -> node < N -> (∀ s,s ∈ st -> s < N) -> Apart cm st -> missing N cm st < f ->
    Calls Tryz.prog 50 #[.agg #[.slice (some ⟨b,o,none⟩) N gc],.slice (some ⟨cb,co,none⟩) N cc,.slice oa n cap,.int .i64 (node : Int)] w (VisPost w0.heap.size w (.slice oa n cap) cm (vis G cm f st node))):=ih
   clear ih hst hA hm hnl hle hG hC hK hnk
   obtain ⟨i1,hj0,hj1,hj2,hj3⟩:=info_parts Tryz.info3
   obtain ⟨W0,hW0⟩ : ∃ W0,W0 = w.alloc (.cells #[.slice (some ⟨b,o,none⟩) N gc] 29):=⟨_,rfl⟩
   have B0 : Below w.heap.size w W0:=by rw [hW0];exact bel1 _ _
   have HZ0 : Hid (W0.heap.size = w.heap.size + 1):=by show _ = _;rw [hW0];simp
   have z0 : w.heap.size < W0.heap.size:=by have:=HZ0.out;omega
   have c0 : W0.cell? ⟨w.heap.size,0,none⟩ = some (.slice (some ⟨b,o,none⟩) N gc):=by rw [hW0];exact (row1 _ _ _).cell (i:=0) (by omega)
   have O0 : Hid (W0.ownsRow w0.heap.size 3 1 (.slice oa n cap) n (icells (st.map cm))):=by rw [hW0];exact hO.alloc _
   have BB0 : Below w0.heap.size w0 W0:=hb.trans (B0.mono hbs)
   have HG0 : Hid (∀ wz r,W0.grownBy wz r -> w.grownBy wz r):=fun wz r h=>by rw [hW0] at h;exact grown_box h
   clear hO
   go_enter Tryz.func50,Tryz.ntmps50
   go_wp2
   rw [<- hW0]
   clear hW0
   go_loopw [9] (fun i wr=>∃ k : Nat,k <= n /\ i = .int .i64 k /\ Below W0.heap.size W0 wr /\ Hid (∀ j,j < k -> cm (st.getD j 0) ≠ cm node)) (fun i _=>n - (intOf i).toNat)
   case atStart=>exact ⟨0,Nat.zero_le _,rfl,Below.refl _ _,fun j h=>absurd h (Nat.not_lt_zero _)⟩
   case round=>
    obtain ⟨k,hk,rfl,hbr,HNO⟩:=hrel
    have BR : Below w0.heap.size w0 wr:=BB0.trans (hbr.mono BB0.size)
    have OR : Hid (wr.ownsRow w0.heap.size 3 1 (.slice oa n cap) n (icells (st.map cm))):=own_block O0.out (fun j e=>hbr.block j (by have:=hol j e.symm;omega))
    have cC:=(HC.out wr BR).cell node hnd
    have lN : (node : Int) < (N : Int):=by omega
    by_cases hlt : k < n
    case pos=>
     obtain ⟨g,hI,_⟩:=own_ints OR.out
     have eo:=hI.at_ (by omega)
     have cO:=hI.cell k hlt
     subst eo
     rw [Nat.zero_add] at cO
     have em : (st.map cm).getD k 0 = cm (st.getD k 0):=by
      have hk' : k < st.length:=by rw [HNL.out];exact hlt
      simp [List.getD,List.getElem?_eq_getElem hk']
     obtain ⟨y,hy⟩ : ∃ y,y = cm (st.getD k 0):=⟨_,rfl⟩
     obtain ⟨z,hz⟩ : ∃ z,z = cm node:=⟨_,rfl⟩
     rw [em,<- hy] at cO
     rw [<- hz] at cC
     have HY : Hid (cm (st.getD k 0) = y):=hy.symm
     have HZ : Hid (cm node = z):=hz.symm
     clear hI em hy hz
     have lk : (k : Int) < (n : Int):=by omega
     by_cases hyz : y = z
     ·have HS : Hid (stands cm st node = true):=stands_iff.2 ⟨st.getD k 0,getD_mem (by rw [HNL.out];exact hlt),by rw [HY.out,HZ.out];exact hyz⟩
      have qe : ((y : Int) == (z : Int)) = true:=by rw [beq_iff_eq];omega
      have GO : Hid (∀ wz,Below wr.heap.size wr wz -> VisPost w0.heap.size w (.slice (some ⟨g,0,none⟩) n cap) cm (vis G cm (f + 1) st node) (.returned (.slice (some ⟨g,0,none⟩) n cap)) wz):=fun wz hz=>by
       rw [vis_in2 HS.out]
       exact ⟨_,n,cap,rfl,own_block OR.out (fun j e=>hz.block j (by have:=OR.out.lt j e.symm;omega)),HG0.out _ _ (grown_below2 (hbr.trans (hz.mono hbr.size))),fun j e=>Or.inl e⟩
      clear hyz
      go_wp2
      go_quiet (fail)
      go_wp2
      go_ret
      exact GO.out _ (by first | exact Below.refl _ _ | exact (Below.refl _ _).drew | exact below_drewN (Below.refl _ _) _)
     ·have qe : ((y : Int) == (z : Int)) = false:=by rw [beq_eq_false_iff_ne];omega
      have HNE : Hid (cm (st.getD k 0) ≠ cm node):=by show _ ≠ _;rw [HY.out,HZ.out];exact hyz
      clear hyz
      go_wp2
      go_quiet (fail)
      go_wp2
      go_roundw
      case rel=>exact ⟨k + 1,by omega,by go_num,by first | exact hbr | exact hbr.drew | exact below_drewN hbr _,fun j hj=>by
       by_cases e : j = k
       ·subst e;exact HNE.out
       ·exact HNO.out j (by omega)⟩
      case measure=>simp [intOf];omega
    case neg=>
     have HKN : Hid (k = n):=by show k = n;omega
     have lk : ¬ (k : Int) < (n : Int):=by omega
     have HS : Hid (¬ stands cm st node = true):=fun h=>by
      obtain ⟨s,hs,e⟩:=stands_iff.1 h
      obtain ⟨t,ht,rfl⟩:=List.getElem_of_mem hs
      have e2 : st.getD t 0 = st[t]:=by simp [List.getD,List.getElem?_eq_getElem ht]
      refine HNO.out t (by rw [HKN.out,<- HNL.out];exact ht) ?_
      rw [e2];exact e
     have hO:=OR.out
     have hrs:=hbr.size
     obtain ⟨z,hz⟩ : ∃ z,z = cm node:=⟨_,rfl⟩
     rw [<- hz] at cC
     have HZ : Hid (cm node = z):=hz.symm
     clear hz OR O0 HNO hlt
     go_wp2_with (first | (at_builtin;refine wpList_append_lies _ rfl _ _ 25 rfl w0.heap.size 3 i1 _ 1 8 Tryz.underlying25 hj0 hj1 hj2 hj3 rfl (by omega) (.slice oa n cap) n (icells (st.map cm)) rfl (hO.alloc _) ⟨wr.heap.size,0,none⟩ 1 1 [.int .i64 (z : Int)] rfl rfl (cell_one_new _ _ _) (by simp [Value.oneCell']) (by omega) (by unfold maxLen;omega) (by omega) (by simp;omega) (wr.heap.size + 1) (by simp) ?_;intro gg cap6 w6 hown6 hg6 hat6 hlt6))
     have S6 : Hid (w6.ownsRow w0.heap.size 3 1 (.slice (some ⟨gg,0,none⟩) (n + 1) cap6) (n + 1) (icells ((st ++ [node]).map cm)) /\ W0.grownBy w6 (Value.slice oa n cap).ownBlock /\ ∀ j,(Value.slice (some ⟨gg,0,none⟩) (n + 1) cap6).ownBlock = some j -> (Value.slice oa n cap).ownBlock = some j \/ W0.heap.size <= j):=by
      refine ⟨?_,grown_trans (grown_below2 hbr) (grown_box hg6) (fun j e=>Or.inl e),fun j e=>?_⟩
      ·have : icells ((st ++ [node]).map cm) = icells (st.map cm) ++ [.int .i64 (z : Int)]:=by unfold icells;simp [HZ.out]
       rw [this];exact hown6
      ·have e' : gg = j:=by simpa [Value.ownBlock] using e
       subst e'
       rcases hat6 with q | q
       ·exact Or.inl q
       ·exact Or.inr (by omega)
     clear hown6 hg6 hat6 hlt6 hO hbr BR cC
     obtain ⟨d,hd⟩ : ∃ d,d = G node:=⟨_,rfl⟩
     have HD : Hid (G node = d):=hd.symm
     rw [<- hd] at dk
     clear hd
     obtain ⟨A,hAA⟩ : ∃ A : Nat -> List Nat,A = fun jj=>allTill G cm f (fun j=>kid d j) (st ++ [node]) jj:=⟨_,rfl⟩
     have HA0 : Hid (A 0 = st ++ [node]):=by rw [hAA];rfl
     have HA1 : Hid (∀ jj,A (jj + 1) = vis G cm f (A jj) (kid d jj)):=fun jj=>by rw [hAA];exact allTill_succ _ _ _ _ _ _
     have HAE : Hid (vis G cm (f + 1) st node = A d.nk):=by show _ = _;rw [vis_new2 HS.out,hAA,HD.out]
     have HKD : Hid (∀ j,j < d.nk -> kid d j < N /\ d.kd j = (kid d j : Int)):=fun j hj=>by
      have h1:=HK.out node hnd j (by rw [HD.out];exact hj)
      have h2:=HK.out.lt hnd (j:=j) (by rw [HD.out];exact hj)
      rw [HD.out] at h1 h2
      exact ⟨h2,by unfold kid;omega⟩
     have HAF : Hid (∀ jj,jj <= d.nk -> (∀ s,s ∈ A jj -> s < N) /\ Apart cm (A jj) /\ missing N cm (A jj) < f):=fun jj hj=>by
      rw [hAA]
      have ha : Apart cm (st ++ [node]):=by
       have:=vis_apart (G:=G) 1 st node HAP.out
       rw [vis_new2 HS.out] at this
       refine List.pairwise_append.2 ⟨HAP.out,List.pairwise_singleton _ _,fun x hx y hy e=>?_⟩
       rw [List.mem_singleton] at hy
       subst hy
       exact HS.out (stands_iff.2 ⟨x,hx,e⟩)
      obtain ⟨a1,a2,a3⟩:=till_facts (f:=f) (cm:=cm) (m:=d.nk) HK.out (ks:=fun j=>kid d j) (fun j hj=>(HKD.out j hj).1) (S:=st ++ [node]) (fun s hs=>by
       rcases List.mem_append.1 hs with q | q
       ·exact HST.out s q
       ·rw [List.mem_singleton] at q;subst q;exact hnd) ha jj hj
      have hm1:=missing_lt hnd HS.out
      have hm2:=HM.out
      exact ⟨a1,a2,Nat.lt_of_le_of_lt a3 (by omega)⟩
     clear hAA
     go_wp2
     go_loopw [2,10] (fun v i wy=>∃ (jj n' cap' : Nat) (oa' : Option Addr),v = .slice oa' n' cap' /\ i = .int .i64 jj /\ jj <= d.nk /\ Hid (wy.ownsRow w0.heap.size 3 1 (.slice oa' n' cap') n' (icells ((A jj).map cm)) /\ W0.grownBy wy (Value.slice oa n cap).ownBlock /\ ∀ j,(Value.slice oa' n' cap').ownBlock = some j -> (Value.slice oa n cap).ownBlock = some j \/ W0.heap.size <= j)) (fun _ i _=>d.nk - (intOf i).toNat)
     case atStart=>exact ⟨0,n + 1,cap6,some ⟨gg,0,none⟩,rfl,rfl,Nat.zero_le _,by rw [HA0.out];exact S6.out⟩
     case round=>
      rename World=>wy
      obtain ⟨jj,n',cap',oa',rfl,rfl,hjj,HI⟩:=hrel
      clear S6
      have BY : Below w0.heap.size w0 wy:=below_of_grown BB0 BB0.size HI.out.2.1 (fun j e=>(hol j e).1)
      have cy : wy.cell? ⟨w.heap.size,0,none⟩ = some (.slice (some ⟨b,o,none⟩) N gc):=(World.cell?_of_block (w:=W0) (HI.out.2.1.block w.heap.size z0 (fun e=>by have:=(hol _ e.symm).2;omega))).trans c0
      have NY:=HB.out wy BY
      have g2:=NY.c2 node hnd
      have NK:=(NY.node node hnd).kids
      have wys : w.heap.size < wy.heap.size:=blt cy
      rw [HD.out] at g2 NK
      clear NY
      obtain ⟨pb,hpb⟩ : ∃ q,q = p node:=⟨_,rfl⟩
      rw [<- hpb] at g2 NK
      have HPB : Hid (p node = pb):=hpb.symm
      clear hpb
      by_cases hj : jj < d.nk
      case neg=>
       have HJ : Hid (jj = d.nk):=by show jj = d.nk;omega
       have lj : ¬ (jj : Int) < (d.nk : Int):=by omega
       have GO : Hid (VisPost w0.heap.size w (.slice oa n cap) cm (vis G cm (f + 1) st node) (.returned (.slice oa' n' cap')) wy):=by
        show VisPost _ _ _ _ _ _ _
        rw [HAE.out,<- HJ.out]
        exact ⟨oa',n',cap',rfl,HI.out.1,HG0.out _ _ HI.out.2.1,fun j e=>(HI.out.2.2 j e).imp id (fun q=>by omega)⟩
       clear hj
       go_wp2
       go_ret
       exact GO.out
      case pos=>
       have ek:=NK.at_ (by omega)
       have ck:=NK.cell jj hj
       rw [ek] at g2
       obtain ⟨y,hy⟩ : ∃ y,y = kid d jj:=⟨_,rfl⟩
       have hyN : y < N:=by rw [hy];exact (HKD.out jj hj).1
       rw [(HKD.out jj hj).2,<- hy] at ck
       have HCC : Hid (∀ w',Below w0.heap.size w0 w' -> w'.cell? ⟨b,o + node * 3 + 2,none⟩ = some (.slice (some ⟨pb.b2,pb.o2,none⟩) d.nk pb.c2) /\ w'.cell? ⟨pb.b2,pb.o2 + jj,none⟩ = some (.int .i64 (y : Int))):=fun w' h=>by
        have n1:=HB.out w' h
        have n2:=n1.c2 node hnd
        have n3:=(n1.node node hnd).kids
        rw [HD.out,HPB.out] at n2 n3
        have n4:=n3.cell jj hj
        rw [(HKD.out jj hj).2,<- hy] at n4
        rw [ek] at n2
        exact ⟨n2,n4⟩
       have HCL : Hid (∀ wz,Below wy.heap.size wy wz -> Calls Tryz.prog 50 #[.agg #[.slice (some ⟨b,o,none⟩) N gc],.slice (some ⟨cb,co,none⟩) N cc,.slice oa' n' cap',.int .i64 (y : Int)] wz (fun e w'=>∃ (oa2 : Option Addr) (n2 cap2 : Nat),e = .returned (.slice oa2 n2 cap2) /\ w'.cell? ⟨w.heap.size,0,none⟩ = some (.slice (some ⟨b,o,none⟩) N gc) /\ w'.cell? ⟨b,o + node * 3 + 2,none⟩ = some (.slice (some ⟨pb.b2,pb.o2,none⟩) d.nk pb.c2) /\ w'.cell? ⟨pb.b2,pb.o2 + jj,none⟩ = some (.int .i64 (y : Int)) /\ Hid (w'.ownsRow w0.heap.size 3 1 (.slice oa2 n2 cap2) n2 (icells ((A (jj + 1)).map cm)) /\ W0.grownBy w' (Value.slice oa n cap).ownBlock /\ ∀ j,(Value.slice oa2 n2 cap2).ownBlock = some j -> (Value.slice oa n cap).ownBlock = some j \/ W0.heap.size <= j))):=fun wz hz=>by
        obtain ⟨a1,a2,a3⟩:=HAF.out jj hjj
        have hOz : wz.ownsRow w0.heap.size 3 1 (.slice oa' n' cap') n' (icells ((A jj).map cm)):=own_block HI.out.1 (fun j e=>hz.block j (HI.out.1.lt j e.symm).2)
        refine (HIH.out (A jj) y oa' n' cap' wz (BY.trans (hz.mono BY.size)) hOz hyN a1 a2 a3).mono ?_
        rintro e w' ⟨oa2,n2,cap2,rfl,h1,h2,h3⟩
        have g1 : W0.grownBy wz (Value.slice oa n cap).ownBlock:=grown_trans HI.out.2.1 (grown_below2 (r:=none) hz) (fun j e=>by cases e)
        have g3 : W0.grownBy w' (Value.slice oa n cap).ownBlock:=grown_trans g1 h2 HI.out.2.2
        obtain ⟨x1,x2⟩:=HCC.out w' (below_of_grown BB0 BB0.size g3 (fun j e=>(hol j e).1))
        refine ⟨oa2,n2,cap2,rfl,?_,x1,x2,?_,g3,fun j e=>?_⟩
        ·exact (World.cell?_of_block (w:=W0) (g3.block w.heap.size z0 (fun e=>by have:=(hol _ e.symm).2;omega))).trans c0
        ·rw [HA1.out,<- hy];exact h1
        ·rcases h3 j e with q | q
         ·exact HI.out.2.2 j q
         ·exact Or.inr (Nat.le_trans g1.size q)
       have lj : (jj : Int) < (d.nk : Int):=by omega
       clear hy NK ek
       go_wp2
       go_region_held3 (fun w'=>w'.cell? ⟨w.heap.size,0,none⟩ = some (.slice (some ⟨b,o,none⟩) N gc) /\ w'.cell? ⟨b,o + node * 3 + 2,none⟩ = some (.slice (some ⟨pb.b2,pb.o2,none⟩) d.nk pb.c2) /\ w'.cell? ⟨pb.b2,pb.o2 + jj,none⟩ = some (.int .i64 (y : Int))) (go_keep)
        (first
         | (go_at_call 50;refine (HCL.out _ (by first | exact Below.refl _ _ | exact (Below.refl _ _).drew | exact below_drewN (Below.refl _ _) _)).mono ?_;rintro e wB ⟨oa2,n2,cap2,rfl,s0,s1,s2,HR⟩))
       all_goals
        go_wp2
        go_roundw
        case rel=>exact ⟨jj + 1,n2,cap2,oa2,rfl,by go_num,by omega,by first | exact HR | exact ⟨own_block HR.out.1 (fun _ _=>rfl),HR.out.2.1,HR.out.2.2⟩⟩
        case measure=>simp [intOf];omega
theorem first_of {N : Nat} {D : Nat -> Int} {v : Int} : ∀ {x : Nat},x < N -> D x = v -> ∃ t,t < N /\ D t = v /\ ∀ j,j < t -> D j ≠ v:=by
 intro x
 induction x using Nat.strongRecOn with
 | ind x ih=>
   intro hx e
   by_cases h : ∃ y,y < x /\ D y = v
   ·obtain ⟨y,hy,ey⟩:=h
    exact ih y hy (by omega) ey
   ·exact ⟨x,hx,e,fun j hj q=>h ⟨j,hj,q⟩⟩
theorem numOf_place {cm : Nat -> Nat} {M : List Nat} {y : Nat} (h : stands cm M y = true) :
  numOf cm M y < M.length /\ (((M.map cm).getD (numOf cm M y) 0 : Nat) : Int) = (cm y : Int) /\ ∀ j,j < numOf cm M y -> (((M.map cm).getD j 0 : Nat) : Int) ≠ (cm y : Int):=by
 have hlt:=numOf_lt h
 have h' : (M.map cm).idxOf (cm y) < (M.map cm).length:=by rw [List.length_map];exact hlt
 refine ⟨hlt,?_,fun j hj e=>?_⟩
 ·have e:=List.getElem_idxOf h'
  have : (M.map cm).getD (numOf cm M y) 0 = (M.map cm)[(M.map cm).idxOf (cm y)]'h':=by
   unfold numOf
   rw [List.getD_eq_getElem?_getD,List.getElem?_eq_getElem h']
   rfl
  rw [this,e]
 ·have hj2 : j < (M.map cm).length:=by rw [List.length_map];omega
  have e2 : (M.map cm).getD j 0 = (M.map cm)[j]:=by rw [List.getD_eq_getElem?_getD,List.getElem?_eq_getElem hj2];rfl
  rw [e2] at e
  have hn:=List.not_of_lt_findIdx (p:=fun x=>x == cm y) (xs:=M.map cm) (i:=j) hj
  exact (beq_eq_false_iff_ne.1 hn) (Int.ofNat.inj e)
def mN (G : Nat -> ND) (cm : Nat -> Nat) (M : List Nat) (r : Nat -> Nat) (t : Nat) : ND:=
 ⟨(G (r t)).kind,(G (r t)).nn,(G (r t)).nm,(G (r t)).nk,fun j=>(numOf cm M (kid (G (r t)) j) : Int)⟩
theorem map_getD {cm : Nat -> Nat} {M : List Nat} {t : Nat} (ht : t < M.length) : (M.map cm).getD t 0 = cm (M.getD t 0):=by
 simp [List.getD,List.getElem?_eq_getElem ht]
theorem reps {N : Nat} {cm : Nat -> Nat} {M : List Nat} (hM : ∀ s,s ∈ M -> s < N) :
  ∃ r : Nat -> Nat,∀ t,t < M.length -> r t < N /\ (cm (r t) : Int) = (((M.map cm).getD t 0 : Nat) : Int) /\ ∀ j,j < r t -> (cm j : Int) ≠ (((M.map cm).getD t 0 : Nat) : Int):=by
 have h : ∀ t,∃ x,t < M.length -> x < N /\ (cm x : Int) = (((M.map cm).getD t 0 : Nat) : Int) /\ ∀ j,j < x -> (cm j : Int) ≠ (((M.map cm).getD t 0 : Nat) : Int):=fun t=>by
  by_cases ht : t < M.length
  ·obtain ⟨x,h1,h2,h3⟩:=first_of (N:=N) (D:=fun i=>(cm i : Int)) (v:=(((M.map cm).getD t 0 : Nat) : Int)) (x:=M.getD t 0) (hM _ (getD_mem ht)) (by rw [map_getD ht])
   exact ⟨x,fun _=>⟨h1,h2,h3⟩⟩
  ·exact ⟨0,fun q=>absurd q ht⟩
 exact ⟨fun t=>(h t).choose,fun t ht=>(h t).choose_spec ht⟩
theorem one_same {N R n2 : Nat} {G c : Nat -> ND} {ns cm at_ r : Nat -> Nat} {M : List Nat} (F : OneF N R G ns cm M n2 c at_) (hr : ∀ t,t < M.length -> r t < N /\ (cm (r t) : Int) = (((M.map cm).getD t 0 : Nat) : Int)) :
  ∀ t,t < n2 -> Lab (c t) (mN G cm M r t) /\ ∀ j,j < (c t).nk -> (c t).kd j = (mN G cm M r t).kd j:=by
 intro t ht
 have ht' : t < M.length:=by rw [<- F.len];exact ht
 obtain ⟨h1,h2⟩:=hr t ht'
 rw [map_getD ht'] at h2
 obtain ⟨l,k⟩:=F.node t ht (r t) h1 (Int.ofNat.inj h2)
 exact ⟨⟨l.kind,l.nn,l.nm,l.nk⟩,fun j hj=>k j (by rw [<- l.nk];exact hj)⟩
theorem kid_stands {N R : Nat} {G : Nat -> ND} {ns cm : Nat -> Nat} (hK : Kids N G) (hn : ∀ i,i < R -> ns i < N) (hcm : ∀ x y,x < N -> y < N -> (cm x = cm y ↔ Same N G x y)) {x t : Nat} (hx : x < N) (ht : t < (allTill G cm (N + 1) ns [] R).length) (e : cm x = cm ((allTill G cm (N + 1) ns [] R).getD t 0)) {j : Nat} (hj : j < (G x).nk) :
  stands cm (allTill G cm (N + 1) ns [] R) (kid (G x) j) = true:=by
 obtain ⟨f1,_,f3⟩:=allTill_full (G:=G) (cl:=cm) hK (f:=N + 1) (ns:=ns) (m:=R) hn (by omega) R (Nat.le_refl _)
 obtain ⟨l,k⟩:=cong_of hK hcm _ _ hx (f1 _ (getD_mem ht)) e
 have h:=f3 _ (getD_mem ht) j (by rw [<- l.nk];exact hj)
 obtain ⟨s,hs,es⟩:=stands_iff.1 h
 exact stands_iff.2 ⟨s,hs,es.trans (k j hj).symm⟩
end Go.Proofs.YtpbpbppimkeodaaGreatDoor
namespace Go.Proofs.YtpbpbppimkeodaaGreatDoor
structure GoodM (n : Nat) (G : Nat -> ND) : Prop where
 kids : Kids n G
 plain : ∀ x,x < n -> Plain (G x)
 names : ∀ x,x < n -> (G x).nn <= 1048576 /\ ∀ i,i < (G x).nn -> ((G x).nm i).size <= 12
 nk : ∀ x,x < n -> (G x).nk <= 1048576
theorem mixN_mem {H : Nat -> ND} {a b : Nat} {up : Bool} {s : ByteArray} (hs : s ∈ mixN (H a) (H b) up) : (∃ i,i < (H a).nn /\ s = (H a).nm i) \/ (∃ i,i < (H b).nn /\ s = (H b).nm i):=by
 unfold mixN at hs
 by_cases e : (H a).kind = (H b).kind /\ (H a).kind = 3
 ·rw [if_pos e] at hs
  obtain ⟨p,hp,rfl⟩:=List.mem_map.1 hs
  rcases mixF_mem _ _ _ _ hp with ⟨c,hc,e2,_⟩ | ⟨c,hc,e2,_⟩ | ⟨c,d,hc,hd,e2,_⟩
  ·exact Or.inl ⟨c,hc,e2⟩
  ·exact Or.inr ⟨c,hc,e2⟩
  ·exact Or.inl ⟨c,hc,e2⟩
 ·rw [if_neg e] at hs;simp at hs
theorem mixD_plain {n : Nat} {H : Nat -> ND} (hs : ∀ t,t < n -> shp (H t) = true) {L : List Qn} {q : Qn} (ha : q.a < n) (hb : q.b < n) : Plain (mixD n H L q):=by
 have nm : ∀ i,i < (mixN (H q.a) (H q.b) q.up).length -> (mixN (H q.a) (H q.b) q.up).getD i ByteArray.empty ∈ mixN (H q.a) (H q.b) q.up:=fun i hi=>by
  simp [List.getD,List.getElem?_eq_getElem hi]
 refine ⟨?_,fun i hi=>?_,?_,fun hk=>?_⟩
 ·show 0 <= mixK (H q.a) (H q.b) /\ mixK (H q.a) (H q.b) < 10
  unfold mixK
  have:=(plain_of (hs _ ha)).kind
  split <;> omega
 ·rcases mixN_mem (nm i hi) with ⟨c,hc,e⟩ | ⟨c,hc,e⟩
  ·show (32 : UInt8) ∉ ((mixN (H q.a) (H q.b) q.up).getD i ByteArray.empty).data.toList /\ ((mixN (H q.a) (H q.b) q.up).getD i ByteArray.empty).data.toList ≠ []
   rw [e];exact (plain_of (hs _ ha)).names c hc
  ·show (32 : UInt8) ∉ ((mixN (H q.a) (H q.b) q.up).getD i ByteArray.empty).data.toList /\ ((mixN (H q.a) (H q.b) q.up).getD i ByteArray.empty).data.toList ≠ []
   rw [e];exact (plain_of (hs _ hb)).names c hc
 ·show (mixQ (H q.a) (H q.b) q.up).length = if mixK (H q.a) (H q.b) = 3 then (mixN (H q.a) (H q.b) q.up).length else if mixK (H q.a) (H q.b) = 4 then 2 else 0
  unfold mixQ mixK mixN
  by_cases e : (H q.a).kind = (H q.b).kind
  ·rw [if_pos e,if_pos e]
   by_cases h4 : (H q.a).kind = 4
   ·rw [if_pos h4,if_neg (by omega),if_pos h4];rfl
   ·rw [if_neg h4]
    by_cases h3 : (H q.a).kind = 3
    ·rw [if_pos h3,if_pos h3,if_pos ⟨e,h3⟩,List.length_map,List.length_map]
    ·rw [if_neg h3,if_neg h3,if_neg h4];rfl
  ·rw [if_neg e,if_neg e,if_neg (by decide),if_neg (by decide)];rfl
 ·show (mixN (H q.a) (H q.b) q.up).length = 0
  have hk : mixK (H q.a) (H q.b) ≠ 3:=hk
  unfold mixN
  rw [if_neg (fun z=>by unfold mixK at hk;rw [if_pos z.1] at hk;exact hk z.2)]
  rfl
theorem goodM {n : Nat} {H : Nat -> ND} (h : GoodH n H) (hs : ∀ t,t < n -> shp (H t) = true) {L : List Qn} {q0 : Qn} (hL : InQ n L) (h0 : q0.a < n /\ q0.b < n) (hC : ClosedQ H L) : GoodM (n + L.length) (mixG n H L q0):=by
 have hq : ∀ x,x < n + L.length -> ¬ x < n -> L.getD (x - n) q0 ∈ L:=fun x hx hn=>by
  have : x - n < L.length:=by omega
  simp [List.getD,List.getElem?_eq_getElem this]
 refine ⟨fun x hx j hj=>?_,fun x hx=>?_,fun x hx=>?_,fun x hx=>?_⟩
 ·by_cases hn : x < n
  ·rw [mixG_lt hn] at hj ⊢
   have:=h.kids x hn j hj
   omega
  ·rw [mixG_ge hn] at hj ⊢
   have hm:=hq x hx hn
   have hab:=hL _ hm
   generalize L.getD (x - n) q0 = q at hm hab hj ⊢
   have hj : j < (mixQ (H q.a) (H q.b) q.up).length:=hj
   show 0 <= ((((mixQ (H q.a) (H q.b) q.up).map (numK n L)).getD j 0 : Nat) : Int) /\ ((((mixQ (H q.a) (H q.b) q.up).map (numK n L)).getD j 0 : Nat) : Int) < ((n + L.length : Nat) : Int)
   have e : ((mixQ (H q.a) (H q.b) q.up).map (numK n L)).getD j 0 = numK n L (mixQ (H q.a) (H q.b) q.up)[j]:=by simp [List.getD,List.getElem?_eq_getElem hj]
   rw [e]
   have hk : (mixQ (H q.a) (H q.b) q.up)[j] ∈ mixQ (H q.a) (H q.b) q.up:=List.getElem_mem _
   have hin:=mixQ_in h hab.1 hab.2 q.up _ hk
   generalize (mixQ (H q.a) (H q.b) q.up)[j] = k at hk hin ⊢
   cases k with
   | ty a=>show 0 <= ((a : Nat) : Int) /\ _;have : a < n:=hin;show 0 <= (a : Int) /\ (a : Int) < _;omega
   | qn r=>
     have hr:=List.idxOf_lt_length_of_mem (hC q hm r hk)
     show 0 <= ((n + L.idxOf r : Nat) : Int) /\ ((n + L.idxOf r : Nat) : Int) < _
     omega
 ·by_cases hn : x < n
  ·rw [mixG_lt hn];exact plain_of (hs _ hn)
  ·rw [mixG_ge hn]
   have hab:=hL _ (hq x hx hn)
   exact mixD_plain hs hab.1 hab.2
 ·by_cases hn : x < n
  ·rw [mixG_lt hn]
   exact ⟨by have:=h.nn hn;omega,fun i hi=>short_of (hs x hn) hi⟩
  ·rw [mixG_ge hn]
   have hab:=hL _ (hq x hx hn)
   generalize L.getD (x - n) q0 = q at hab ⊢
   refine ⟨mixN_len h hab.1 hab.2 q.up,fun i hi=>?_⟩
   have hi : i < (mixN (H q.a) (H q.b) q.up).length:=hi
   have hm : (mixN (H q.a) (H q.b) q.up).getD i ByteArray.empty ∈ mixN (H q.a) (H q.b) q.up:=by simp [List.getD,List.getElem?_eq_getElem hi]
   show ((mixN (H q.a) (H q.b) q.up).getD i ByteArray.empty).size <= 12
   rcases mixN_mem hm with ⟨c,hc,e⟩ | ⟨c,hc,e⟩
   ·rw [e];exact short_of (hs _ hab.1) hc
   ·rw [e];exact short_of (hs _ hab.2) hc
 ·by_cases hn : x < n
  ·rw [mixG_lt hn]
   have:=h.two x hn;omega
  ·rw [mixG_ge hn]
   have hab:=hL _ (hq x hx hn)
   exact mixQ_len h hab.1 hab.2 _
theorem goodH_of {n : Nat} {H : Nat -> ND} (hk : Kids n H) (hs : ∀ t,t < n -> shp (H t) = true) (h2 : ∀ t,t < n -> (H t).nn + (H t).nk <= 1048576) (hn : n <= 4000) : GoodH n H:=by
 refine ⟨hk,fun t ht k=>?_,fun t ht k=>?_,fun t ht k=>(plain_of (hs t ht)).bare k,h2,hn⟩
 ·have:=(plain_of (hs t ht)).kids
  rw [if_pos k] at this
  exact this
 ·have:=(plain_of (hs t ht)).kids
  rw [if_neg (by omega),if_pos k] at this
  exact this
theorem goodH_mN {N R : Nat} {G : Nat -> ND} {ns cm r : Nat -> Nat} (hv : vgr N G = true) (hns : ∀ i,i < R -> ns i < N) (h2 : ∀ i,i < N -> (G i).nn + (G i).nk <= 1048576) (hcm : ∀ x y,x < N -> y < N -> (cm x = cm y ↔ Same N G x y))
  (hr : ∀ t,t < (allTill G cm (N + 1) ns [] R).length -> r t < N /\ (cm (r t) : Int) = ((((allTill G cm (N + 1) ns [] R).map cm).getD t 0 : Nat) : Int)) :
  GoodH (allTill G cm (N + 1) ns [] R).length (mN G cm (allTill G cm (N + 1) ns [] R) r) /\ ∀ t,t < (allTill G cm (N + 1) ns [] R).length -> shp (mN G cm (allTill G cm (N + 1) ns [] R) r t) = true:=by
 have hs : ∀ t,t < (allTill G cm (N + 1) ns [] R).length -> shp (mN G cm (allTill G cm (N + 1) ns [] R) r t) = true:=fun t ht=>shp_of hv (hr t ht).1
 refine ⟨goodH_of (fun t ht j hj=>?_) hs (fun t ht=>h2 (r t) (hr t ht).1) ?_,hs⟩
 ·obtain ⟨q1,q2⟩:=hr t ht
  rw [map_getD ht] at q2
  have:=numOf_lt (kid_stands (kids_of hv) hns hcm q1 ht (Int.ofNat.inj q2) (j:=j) hj)
  show 0 <= (numOf cm (allTill G cm (N + 1) ns [] R) (kid (G (r t)) j) : Int) /\ (numOf cm (allTill G cm (N + 1) ns [] R) (kid (G (r t)) j) : Int) < _
  omega
 ·obtain ⟨f1,_,_⟩:=allTill_full (G:=G) (cl:=cm) (kids_of hv) (f:=N + 1) (ns:=ns) (m:=R) hns (by omega) R (Nat.le_refl _)
  have:=apart_len (allTill_apart R) f1
  have:=vgr_len hv
  omega
end Go.Proofs.YtpbpbppimkeodaaGreatDoor
