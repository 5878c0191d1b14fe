/-
  SaD SaE
-/
import Derived.Test.YtpbpbppimkeodaaGreatDoorTi
set_option maxRecDepth 100000
namespace Go.Proofs.YtpbpbppimkeodaaGreatDoor
open Go.RowKit
def WalkPost (B : Nat) (w0 : World) (N : Nat) (G : Nat -> ND) (a b : Nat) (e : Ending) (w' : World) : Prop:=
 ((e = .returned (.bool false) /\ ¬ Same N G a b) \/ (e = .returned (.bool true) /\ Same N G a b)) /\ Kept (fun k=>k < B) w0 w'
theorem pcells_atS {ord : List (Nat × Nat)} : ∀ {i : Nat} {q : Nat × Nat},ord[i]? = some q -> (pcells ord)[i * 2]? = some (.int .i64 (q.1 : Int)) /\ (pcells ord)[i * 2 + 1]? = some (.int .i64 (q.2 : Int)):=by
 induction ord with
 | nil=>intro i q h;simp at h
 | cons z t ih=>
   intro i q h
   cases i with
   | zero=>simp at h;subst h;simp [pcells]
   | succ i=>
     have h' : t[i]? = some q:=by simpa using h
     obtain ⟨h1,h2⟩:=ih h'
     have e : pcells (z :: t) = .int .i64 (z.1 : Int) :: .int .i64 (z.2 : Int) :: pcells t:=by simp [pcells]
     rw [e]
     refine ⟨?_,?_⟩
     ·rw [show (i + 1) * 2 = i * 2 + 1 + 1 from by omega];simpa using h1
     ·rw [show (i + 1) * 2 + 1 = i * 2 + 1 + 1 + 1 from by omega];simpa using h2
theorem order_atS {w : World} {kb mb : Nat} {ov : Value} {D : DataW Unit} {ord : List (Nat × Nat)} {keep : Nat -> Prop} (h : Kn w kb mb ov D ord keep) {i : Nat} {q : Nat × Nat} (hq : ord[i]? = some q) :
  ∃ g cap,ov = .slice (some ⟨g,0,none⟩) ord.length cap /\ w.cell? ⟨g,i * 2,none⟩ = some (.int .i64 (q.1 : Int)) /\ w.cell? ⟨g,i * 2 + 1,none⟩ = some (.int .i64 (q.2 : Int)):=by
 obtain ⟨hlt,_⟩:=List.getElem?_eq_some_iff.1 hq
 rcases h.own.2 with ⟨_,h0⟩ | ⟨g,cap,_,rfl,_⟩
 ·omega
 ·have hc:=pcells_atS hq
  exact ⟨g,cap,rfl,by rw [h.own.cellAt _ (by omega)];exact hc.1,by rw [h.own.cellAt _ (by omega)];exact hc.2⟩
theorem sq_le {N : Nat} (h : N <= 4000) : N * N <= 16000000:=Nat.mul_le_mul h h
set_option maxHeartbeats 8000000 in
theorem sm17 (B : Nat) (w0 : World) (M lb N : Nat) (ao : Option Addr) (gb go gc : Nat) (p : Nat -> NP) (G : Nat -> ND) (a b : Nat) (w : World)
  (hL : Lead w M lb N (fun n=>n)) (hg : w.cell? ⟨M,0,none⟩ = some (.slice ao N gc)) (hkp : Kept (fun k=>k < B) w0 w) (hlo : B <= lb) (hB : w0.heap.size = B) (hG : NodesAt w0 ao gb go N p G) (hv : vgr N G = true) (ha : a < N) (hb : b < N) (hn : ∀ i,i < N -> (G i).nk <= 1048576) :
  Calls Tryz.prog 47 #[.agg #[.int .i64 (a : Int),.int .i64 (b : Int)],.int .i64 9223372036854775807,.func (.func 48) #[.pointer (some ⟨M,0,none⟩)] #[]] w (WalkPost B w0 N G a b):=by
 have hN:=vgr_size hv
 have HK : Hid (Kids N G):=vgr_kids hv
 have HV : Hid (vgr N G = true):=hv
 have HG : Hid (NodesAt w0 ao gb go N p G):=hG
 have HB : Hid (w0.heap.size = B):=hB
 have HNK : Hid (∀ i,i < N -> (G i).nk <= 1048576):=hn
 have hMs : M < w.heap.size:=blt hg
 have hls:=hL.row.lt
 have hBs : ∀ k,k < B -> k < w.heap.size:=fun k q=>by have:=hkp.size;omega
 clear hv hG hn hB
 go_enter Tryz.func47,Tryz.ntmps47
 go_wp2_with fail
 refine (c45 _ (fun k=>k < B \/ k = M \/ k = lb \/ k = w.heap.size) (fun k h=>by rcases h with h | h | h | h;(have:=hBs k h;simp;omega);(subst h;simp;omega);(subst h;simp;omega);(subst h;simp))).mono ?_
 rintro e w1 ⟨rfl,hKn1,hKp1⟩
 have R0:=(row2 w (.int .i64 (a : Int)) (.int .i64 (b : Int)) 69).of_block (hKp1.block w.heap.size (Or.inr (Or.inr (Or.inr rfl))))
 have x0 : w1.cell? ⟨w.heap.size,0,none⟩ = some (.int .i64 (a : Int)):=R0.cell (i:=0) (by omega)
 have x1 : w1.cell? ⟨w.heap.size,1,none⟩ = some (.int .i64 (b : Int)):=R0.cell (i:=1) (by omega)
 have l1 : Lead w1 M lb N (fun n=>n):=⟨(hKp1.cell (a:=⟨M,1,none⟩) (Or.inr (Or.inl rfl))).trans (by rw [World.cell?_alloc_old _ _ _ (by show M ≠ w.heap.size;omega)];exact hL.head),(hL.row.alloc _).of_block (hKp1.block lb (Or.inr (Or.inr (Or.inl rfl)))),hL.ne⟩
 have g1 : w1.cell? ⟨M,0,none⟩ = some (.slice ao N gc):=(hKp1.cell (a:=⟨M,0,none⟩) (Or.inr (Or.inl rfl))).trans (by rw [World.cell?_alloc_old _ _ _ (by show M ≠ w.heap.size;omega)];exact hg)
 have p1 : Kept (fun k=>k < B) w0 w1:=(hkp.trans (show Kept (fun k=>k < B) w (w.alloc (.cells #[.int .i64 (a : Int),.int .i64 (b : Int)] 69)) from ⟨rfl,rfl,rfl,by simp,fun k h=>Below.heap_alloc _ _ _ (hBs k h)⟩)).trans (hKp1.fewer (fun k h=>Or.inl h))
 obtain ⟨kb,hkb⟩ : ∃ kb,kb = (w.alloc (.cells #[.int .i64 (a : Int),.int .i64 (b : Int)] 69)).heap.size + 1:=⟨_,rfl⟩
 obtain ⟨mb,hmb⟩ : ∃ mb,mb = (w.alloc (.cells #[.int .i64 (a : Int),.int .i64 (b : Int)] 69)).heap.size:=⟨_,rfl⟩
 rw [<- hmb] at hkb hKn1 ⊢
 rw [<- hkb] at hKn1 ⊢
 clear hkb hmb hKp1 R0 hL hg hkp
 go_wp2_with fail
 refine (c46 kb mb _ _ _ _ a b _ hKn1 (by omega) (by omega) (by simp)).mono ?_
 rintro e w2 ⟨xx,ov2,D2,rfl,hKn2,hKp2⟩
 have hAdd : addP [] (a,b) = [(a,b)]:=rfl
 rw [hAdd] at hKn2
 have E2 : Eng B w0 w2 M lb kb mb ov2 D2 N (.slice ao N gc) (fun n=>n) [(a,b)]:=
  ⟨p1.trans (hKp2.fewer (fun k h=>Or.inl h)),⟨(hKp2.cell (a:=⟨M,1,none⟩) (Or.inr (Or.inl rfl))).trans l1.head,l1.row.of_block (hKp2.block lb (Or.inr (Or.inr (Or.inl rfl)))),l1.ne⟩,(hKp2.cell (a:=⟨M,0,none⟩) (Or.inr (Or.inl rfl))).trans g1,
   hKn2.fewer (fun k h=>by rcases h with h | h | h;exact Or.inl h;exact Or.inr (Or.inl h);exact Or.inr (Or.inr (Or.inl h))),hlo⟩
 clear hAdd hKn1 hKn2 hKp2 l1 g1 p1 x0 x1 hlo
 have hsq:=sq_le hN
 go_wp2
 go_loopw [8] (fun s wr=>∃ (i : Nat) (ov : Value) (D : DataW Unit) (L ρ d : Nat -> Nat) (ord Ms : List (Nat × Nat)),s = .int .i64 i /\ i <= ord.length /\ Eng B w0 wr M lb kb mb ov D N (.slice ao N gc) L ord /\ Hid (UF N L ρ d) /\ Hid (Inv N G a b ord i ρ Ms) /\ ord.length <= N * N) (fun s _=>16000001 - (intOf s).toNat)
 case atStart=>exact ⟨0,ov2,D2,fun n=>n,fun n=>n,fun _=>0,[(a,b)],[],rfl,by simp,E2,UF.start N,Inv.start ha hb,(Inv.start (G:=G) ha hb).len⟩
 case round=>
  obtain ⟨i,ov,D,L,ρ,d,ord,Ms,rfl,hi,hE,HU,HI,hol⟩:=hrel
  clear E2
  have RK:=hE.kn.row
  have o1 : wr.cell? ⟨kb,1,none⟩ = some ov:=RK.cell (i:=1) (by omega)
  by_cases hlt : i < ord.length
  case neg=>
   obtain ⟨oa,cap,hov⟩:=own_form hE.kn.own
   rw [hov] at o1
   have FIN : Hid (WalkPost B w0 N G a b (.returned (.bool true)) wr):=⟨Or.inr ⟨rfl,HI.out.done (by omega)⟩,hE.kept⟩
   clear hE HI HU RK hov
   go_wp2
   go_ret
   exact FIN.out
  obtain ⟨q,hq⟩ : ∃ q,ord[i]? = some q:=⟨ord[i],List.getElem?_eq_getElem hlt⟩
  obtain ⟨g,cap,hov,c1,c2⟩:=order_atS hE.kn hq
  have HQ : Hid (ord[i]? = some q):=hq
  have hqb:=HI.out.bound q (List.mem_of_getElem? hq)
  obtain ⟨qx,qy⟩:=q
  simp only at c1 c2 hqb
  obtain ⟨hqx,hqy⟩:=hqb
  rw [hov] at o1
  have lz : (i : Int) < (ord.length : Int):=by omega
  have lm : ¬ ((9223372036854775807 : Int) < (ord.length : Int)):=by omega
  clear hq RK hov
  go_wp2_with fail
  refine (sm18 B w0 M lb kb mb ov D N ao gb go gc p G L ρ d ord qx qy wr hE HU.out HB.out HG.out HV.out hqx hqy (by omega) (HNK.out qx hqx)).mono ?_
  intro e w' hP
  rcases hP with ⟨rfl,hnl,hkw⟩ | ⟨rfl,ov',D',L',ρ',d',ord',hE',hU',hcase⟩
  ·have FIN : Hid (WalkPost B w0 N G a b (.returned (.bool false)) w'):=⟨Or.inl ⟨rfl,HI.out.apart HQ.out hnl⟩,hkw⟩
   clear hnl hkw hE
   go_wp2
   go_ret
   exact FIN.out
  ·have HI' : Hid (∃ Ms',Inv N G a b ord' (i + 1) ρ' Ms' /\ ord.length <= ord'.length):=by
    rcases hcase with ⟨h1,h2,h3⟩ | ⟨h1,h2,h3,h4⟩
    ·subst h2 h3;exact ⟨Ms,HI.out.known HQ.out h1,Nat.le_refl _⟩
    ·subst h3 h4;exact ⟨_,HI.out.merged HK.out HQ.out h2 h1,(addKids_le _ _ _ _).1⟩
   have HU' : Hid (UF N L' ρ' d'):=hU'
   clear hcase hU' hE HI HU o1 c1 c2
   go_wp2
   go_roundw
   case rel=>
    obtain ⟨Ms',hI',hle⟩:=HI'.out
    exact ⟨i + 1,ov',D',L',ρ',d',ord',Ms',by go_num,by omega,hE',HU',hI',hI'.len⟩
   case measure=>simp [intOf];omega
def SamePost (N : Nat) (G : Nat -> ND) (a b : Int) (w : World) (e : Ending) (w' : World) : Prop:=
 ((e = .returned (.bool false) /\ ¬ SameAns N G a b) \/ (e = .returned (.bool true) /\ SameAns N G a b)) /\ Below w.heap.size w w'
theorem kok2S {N : Nat} {a b : Int} {D : Nat -> Int} (h0 : D 0 = a) (h1 : D 1 = b) : kok 2 D N = true ↔ ((0 <= a /\ a < N) /\ (0 <= b /\ b < N)):=by
 constructor
 ·intro h
  have r0:=of_decide_eq_true (allTo_at h (k:=0) (by omega))
  have r1:=of_decide_eq_true (allTo_at h (k:=1) (by omega))
  rw [h0] at r0;rw [h1] at r1
  exact ⟨r0,r1⟩
 ·rintro ⟨h2,h3⟩
  refine allTo_true (fun j hj=>?_)
  match j,hj with
  | 0,_=>exact decide_eq_true (by rw [h0];exact h2)
  | 1,_=>exact decide_eq_true (by rw [h1];exact h3)
theorem kept_of_below {w w' : World} (h : Below w.heap.size w w') : Kept (fun k=>k < w.heap.size) w w':=⟨h.os,h.tape,h.output,h.size,h.block⟩
theorem below_of_kept {w w' : World} (h : Kept (fun k=>k < w.heap.size) w w') : Below w.heap.size w w':=⟨h.os,h.tape,h.output,h.size,h.block⟩
theorem lead_behind {w w2 W w3 : World} {N : Nat} {gv : Value} (B2 : Below w.heap.size w w2) (hW : Below w2.heap.size w2 W) (hs : W.heap.size = w2.heap.size) (hF : Fill W w3 3 N N (fun i=>.int .i64 (i : Int)) (.int .i64 0)) :
  Lead (w3.alloc (.cells #[gv,.slice (some ⟨w2.heap.size,0,none⟩) N N] 66)) w3.heap.size w2.heap.size N (fun n=>n) /\ (w3.alloc (.cells #[gv,.slice (some ⟨w2.heap.size,0,none⟩) N N] 66)).cell? ⟨w3.heap.size,0,none⟩ = some gv /\
  Kept (fun k=>k < w.heap.size) w (w3.alloc (.cells #[gv,.slice (some ⟨w2.heap.size,0,none⟩) N N] 66)) /\ w.heap.size <= w2.heap.size:=by
 have R:=row2 w3 gv (.slice (some ⟨w2.heap.size,0,none⟩) N N) 66
 have r:=hF.row
 have hlt:=hF.row.lt
 have hb3:=hF.below
 rw [hs] at r hlt
 have h2:=B2.size
 have B3 : Below w.heap.size w w3:=(B2.trans (hW.mono h2)).trans (hb3.mono (by rw [hs];exact h2))
 exact ⟨⟨R.cell (i:=1) (by omega),(r.alloc _).congr (fun i hi=>by rw [if_pos hi]),by omega⟩,R.cell (i:=0) (by omega),kept_of_below (B3.alloc B3.size _),h2⟩
theorem lead_ahead {w w2 W w3 : World} {N : Nat} {gv z0 z1 : Value} (B2 : Below w.heap.size w w2) (hW : Below w2.heap.size w2 W) (hs : W.heap.size = w2.heap.size + 1) (hF : Fill W w3 3 N N (fun i=>.int .i64 (i : Int)) (.int .i64 0))
  (RR : w3.rowIs w2.heap.size 66 2 (v2 z0 z1)) :
  Lead ((w3.setCell ⟨w2.heap.size,0,none⟩ gv).setCell ⟨w2.heap.size,1,none⟩ (.slice (some ⟨w2.heap.size + 1,0,none⟩) N N)) w2.heap.size (w2.heap.size + 1) N (fun n=>n) /\
  ((w3.setCell ⟨w2.heap.size,0,none⟩ gv).setCell ⟨w2.heap.size,1,none⟩ (.slice (some ⟨w2.heap.size + 1,0,none⟩) N N)).cell? ⟨w2.heap.size,0,none⟩ = some gv /\
  Kept (fun k=>k < w.heap.size) w ((w3.setCell ⟨w2.heap.size,0,none⟩ gv).setCell ⟨w2.heap.size,1,none⟩ (.slice (some ⟨w2.heap.size + 1,0,none⟩) N N)) /\ w.heap.size <= w2.heap.size + 1:=by
 have R:=(RR.set 0 gv).set 1 (.slice (some ⟨w2.heap.size + 1,0,none⟩) N N)
 have r:=hF.row
 have hb3:=hF.below
 rw [hs] at r
 have h2:=B2.size
 have B3 : Below w.heap.size w w3:=(B2.trans (hW.mono h2)).trans (hb3.mono (by rw [hs];omega))
 refine ⟨⟨R.cell (i:=1) (by omega),((r.setOther (a:=⟨w2.heap.size,0,none⟩) (by show w2.heap.size + 1 ≠ w2.heap.size;omega) _).setOther (a:=⟨w2.heap.size,1,none⟩) (by show w2.heap.size + 1 ≠ w2.heap.size;omega) _).congr (fun i hi=>by rw [if_pos hi]),by omega⟩,R.cell (i:=0) (by omega),kept_of_below ((B3.setCell h2 _).setCell h2 _),by omega⟩
set_option maxHeartbeats 8000000 in
theorem sm7 (ao : Option Addr) (gb go N gc : Nat) (p : Nat -> NP) (G : Nat -> ND) (a b : Int) (w : World) (h1 : NodesAt w ao gb go N p G) (hnk : ∀ i,i < N -> (G i).nk <= 1048576) :
  Calls Tryz.prog 27 #[.agg #[.slice ao N gc],.int .i64 a,.int .i64 b] w (SamePost N G a b w):=by
 have HB : Hid (∀ w',Below w.heap.size w w' -> NodesAt w' ao gb go N p G):=fun w' hb=>h1.below hb
 have HG : Hid (NodesAt w ao gb go N p G):=h1
 have HNK : Hid (∀ i,i < N -> (G i).nk <= 1048576):=hnk
 have hlen:=h1.len
 clear h1 hnk
 go_enter Tryz.func27,Tryz.ntmps27
 go_wp2_with fail
 refine (g14 ao gb go N gc p G _ (by exact HB.out _ (bel1 _ _))).mono ?_
 rintro e w1 ⟨rfl,hb1⟩
 have B1 : Below w.heap.size w w1:=(bel1 w _).trans (hb1.mono (by simp))
 have k1 : w1.cell? ⟨w.heap.size,0,none⟩ = some (.slice ao N gc):=by rw [hb1.cell (p:=⟨w.heap.size,0,none⟩) (by simp)];simp
 have z1 : w.heap.size < w1.heap.size:=by have:=hb1.size;simp at this;omega
 clear hb1
 cases hv : vgr N G
 ·have FIN : Hid (SamePost N G a b w (.returned (.bool false)) w1):=⟨Or.inl ⟨rfl,fun h=>by have:=h.valid;rw [hv] at this;cases this⟩,B1⟩
  clear hv
  go_wp2
  go_ret
  exact FIN.out
 have HV : Hid (vgr N G = true):=hv
 clear hv
 have hN:=vgr_size HV.out
 go_wp2_with fail
 have R1:=row2 w1 (.int .i64 a) (.int .i64 b) 3
 refine (g15 ao N gc (some ⟨w1.heap.size,0,none⟩) w1.heap.size 0 2 2 (fun i=>if i = 0 then a else b) _ ⟨fun _=>rfl,fun i hi=>(by rw [Nat.zero_add,R1.cell hi];match i,hi with | 0,_=>rfl | 1,_=>rfl),by omega⟩ hlen).mono ?_
 rintro e w2 ⟨rfl,hb2⟩
 have C2 : Below w1.heap.size w1 w2:=(bel1 w1 _).trans (hb2.mono (by simp))
 have B2 : Below w.heap.size w w2:=B1.trans (C2.mono B1.size)
 have k2 : w2.cell? ⟨w.heap.size,0,none⟩ = some (.slice ao N gc):=(C2.cell (p:=⟨w.heap.size,0,none⟩) z1).trans k1
 have z2 : w.heap.size < w2.heap.size:=by have:=C2.size;omega
 have HKK : Hid (kok 2 (fun i=>if i = 0 then a else b) N = true ↔ ((0 <= a /\ a < N) /\ (0 <= b /\ b < N))):=kok2S rfl rfl
 clear hb2 R1 C2 B1 k1 z1
 cases hk : kok 2 (fun i=>if i = 0 then a else b) N
 ·have FIN : Hid (SamePost N G a b w (.returned (.bool false)) w2):=⟨Or.inl ⟨rfl,fun h=>by have:=HKK.out.2 ⟨⟨h.a0,h.a1⟩,⟨h.b0,h.b1⟩⟩;rw [hk] at this;cases this⟩,B2⟩
  clear hk
  go_wp2
  go_ret
  exact FIN.out
 obtain ⟨⟨a0,a1⟩,b0,b1⟩:=HKK.out.1 hk
 clear hk HKK
 obtain ⟨x,rfl⟩:=Int.eq_ofNat_of_zero_le a0
 obtain ⟨y,rfl⟩:=Int.eq_ofNat_of_zero_le b0
 have hx : x < N:=by omega
 have hy : y < N:=by omega
 have hN1 : N <= 1048576:=by omega
 go_wp2
 go_cut [7] (fun s7 wc=>∃ M lb : Nat,s7 = .pointer (some ⟨M,0,none⟩) /\ Lead wc M lb N (fun n=>n) /\ wc.cell? ⟨M,0,none⟩ = some (.slice ao N gc) /\ Kept (fun k=>k < w.heap.size) w wc /\ w.heap.size <= lb)
 case first=>
  have hne0 : ¬ (w.heap.size = w2.heap.size):=by omega
  have hne1 : ¬ (w2.heap.size = w.heap.size):=by omega
  go_region_held3 (fun w'=>w'.cell? ⟨w.heap.size,0,none⟩ = some (.slice ao N gc)) (go_keep)
   (first | (go_at_call 46;refine (sm16 N _ hN1).mono ?_;rintro e w3 ⟨rfl,hF⟩;have z:=(hF.below.cell (p:=⟨w.heap.size,0,none⟩) (by simp;omega));first | (have RR:=(row2 w2 (.slice none 0 0) (.slice none 0 0) 66).of_block (hF.below.block w2.heap.size (by simp));have q0 : w3.cell? ⟨w2.heap.size,0,none⟩ = some (.slice none 0 0):=RR.cell (i:=0) (by omega);have q1 : w3.cell? ⟨w2.heap.size,1,none⟩ = some (.slice none 0 0):=RR.cell (i:=1) (by omega);have f0:=RR.frozen 0;have f1:=RR.frozen 1) | skip))
  ·have FF:=lead_behind (gv:=.slice ao N gc) B2 (Below.refl _ _).drew rfl hF
   clear hF z
   go_wp2
   go_meet
   case rel=>exact ⟨w3.heap.size,w2.heap.size,rfl,FF.1,FF.2.1,FF.2.2.1,FF.2.2.2⟩
  ·have FF:=lead_ahead (gv:=.slice ao N gc) B2 (bel1 w2 (.cells #[.slice none 0 0,.slice none 0 0] 66)).drew (by simp) hF RR
   clear hF z RR q0 q1 f0 f1
   go_wp2
   go_meet
   case rel=>exact ⟨w2.heap.size,w2.heap.size + 1,rfl,FF.1,FF.2.1,FF.2.2.1,FF.2.2.2⟩
 case rest=>
  obtain ⟨M,lb,rfl,hL,hg,hkp,hlo⟩:=hcut
  clear k2 z2 B2
  go_wp2_with fail
  refine (sm17 w.heap.size w M lb N ao gb go gc p G x y wc hL hg hkp hlo rfl HG.out HV.out hx hy HNK.out).mono ?_
  intro e w' hP
  obtain ⟨hP,hK'⟩:=hP
  have hBw:=below_of_kept hK'
  rcases hP with ⟨rfl,hs⟩ | ⟨rfl,hs⟩
  ·have FIN : Hid (SamePost N G (x : Int) (y : Int) w (.returned (.bool false)) w'):=⟨Or.inl ⟨rfl,fun h=>hs (by have:=h.same;simpa using this)⟩,hBw⟩
   clear hs hK' hBw hL hg hkp
   go_wp2
   go_ret
   exact FIN.out
  ·have FIN : Hid (SamePost N G (x : Int) (y : Int) w (.returned (.bool true)) w'):=⟨Or.inr ⟨rfl,⟨HV.out,a0,a1,b0,b1,by simpa using hs⟩⟩,hBw⟩
   clear hs hK' hBw hL hg hkp
   go_wp2
   go_ret
   exact FIN.out
end Go.Proofs.YtpbpbppimkeodaaGreatDoor
