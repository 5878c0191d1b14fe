/-
  QbI QbJ QbK
-/
import Derived.Test.YtcehppndpccldaaGreatDoorU2
set_option maxHeartbeats 4000000
set_option maxRecDepth 100000
namespace Go.Proofs.YtcehppndpccldaaGreatDoor
open Go.RowKit
theorem cEs_app (a b : List EI) : cEs (a ++ b) = cEs a + cEs b:=by
 unfold cEs
 rw [lap,List.map_append,List.sum_append]
 omega
theorem cEs_one (e : EI) : cEs [e] = 1 + cE e:=by
 unfold cEs
 simp
theorem cEs_len (a : List EI) : a.length <= cEs a:=by unfold cEs;omega
structure SmX (x : EI × EPl) : Prop where
 cap : x.1.ns.length <= x.2.np.c
 zs : ∀ y,y ∈ x.2.zs -> SmG y
structure GE (B Bi : Nat) (w : World) (va : Option Addr) (n c X : Nat) (es : List (EI × EPl)) : Prop where
 own : w.ownsRow B 70 6 (.slice va n c) n (eisC es)
 len : n = es.length
 ok : ∀ x,x ∈ es -> RiOK Bi w x
 sm : ∀ x,x ∈ es -> SmX x
 cost : cEs (es.map Prod.fst) <= X
theorem GE.re {B Bi : Nat} {w : World} {va : Option Addr} {n c X : Nat} {es : List (EI × EPl)} (h : GE B Bi w va n c X es) : RE 0 w (.slice va n c) es:=⟨by have:=own_mono h.own (Nat.zero_le B);rw [h.len] at this ⊢;exact this,fun x hx=>(h.ok x hx).mono (Nat.zero_le _)⟩
theorem GE.below {B Bi : Nat} {w w' : World} {va : Option Addr} {n c X : Nat} {es : List (EI × EPl)} (h : GE B Bi w va n c X es) (hb : Bw w w') : GE B Bi w' va n c X es:=
 ⟨own_kp h.own (below_kp hb) (by decide),h.len,fun x hx=>(h.ok x hx).kp (below_kp hb) (by decide) (by decide),h.sm,h.cost⟩
theorem GE.mono {B B' Bi Bi' : Nat} {w : World} {va : Option Addr} {n c X X' : Nat} {es : List (EI × EPl)} (h : GE B Bi w va n c X es) (hb : B' <= B) (hi : Bi' <= Bi) (hX : X <= X') : GE B' Bi' w va n c X' es:=⟨own_mono h.own hb,h.len,fun x hx=>(h.ok x hx).mono hi,h.sm,Nat.le_trans h.cost hX⟩
theorem GE.le {B Bi : Nat} {w : World} {va : Option Addr} {n c X : Nat} {es : List (EI × EPl)} (h : GE B Bi w va n c X es) : n <= X:=by
 have h1:=cEs_len (es.map Prod.fst)
 rw [List.length_map] at h1
 have:=h.cost
 have:=h.len
 omega
theorem GE.drew {B Bi : Nat} {w : World} {va : Option Addr} {n c X : Nat} {es : List (EI × EPl)} (h : GE B Bi w va n c X es) : GE B Bi w.drew va n c X es:=h.below (Below.refl _ _).drew
theorem GE.push {B Bi : Nat} {w w3 : World} {va : Option Addr} {n c X X' : Nat} {es : List (EI × EPl)} {x : EI × EPl} {o : Obj} {gg cap3 : Nat} (h : GE B Bi w va n c X es)
  (hown : w3.ownsRow B 70 6 (.slice (some ⟨gg,0,none⟩) (n + 1) cap3) (n + 1) (eisC es ++ eiC x)) (hg : (w.alloc o).grownBy w3 (Value.slice va n c).ownBlock) (hx : RiOK Bi w x) (hs : SmX x) (hX : X + 1 + cE x.1 <= X') :
  GE B Bi w3 (some ⟨gg,0,none⟩) (n + 1) cap3 X' (es ++ [x]):=by
 have hk : Kp 70 w w3:=(kp_alloc _ w o).trans (grown_kp (h.own.alloc o) hg)
 refine ⟨by rw [eisC_snoc];exact hown,by rw [lap,h.len];rfl,fun y hy=>?_,fun y hy=>?_,?_⟩
 ·rcases List.mem_append.1 hy with z | z
  ·exact (h.ok y z).kp hk (by decide) (by decide)
  ·rw [ms1 z]
   exact hx.kp hk (by decide) (by decide)
 ·rcases List.mem_append.1 hy with z | z
  ·exact h.sm y z
  ·rw [ms1 z]
   exact hs
 ·rw [List.map_append,cEs_app]
  have:=h.cost
  have e : cEs ([x].map Prod.fst) = 1 + cE x.1:=cEs_one _
  omega
theorem ri_bare {B : Nat} (w : World) {op num : Int} {md nm : ByteArray} : RiOK B w ((⟨op,num,md,nm,[],[]⟩ : EI),ep0):=⟨NmOK.nil _ _ _,⟨World.ownsRow_nil _ _ _ _,fun x hx=>by cases hx⟩,rfl⟩
theorem sm_bare {op num : Int} {md nm : ByteArray} : SmX ((⟨op,num,md,nm,[],[]⟩ : EI),ep0):=⟨nlr _,fun y hy=>by cases hy⟩
theorem cE_bare {op num : Int} {md nm : ByteArray} : cE ⟨op,num,md,nm,[],[]⟩ = md.size + nm.size:=by
 unfold cE cN cTs szs
 rfl
theorem ge_lit (w : World) {Bi X : Nat} (op num : Int) {md nm : ByteArray} (hX : 1 + md.size + nm.size <= X) : GE w.heap.size Bi (w.alloc (.cells #[.int .i64 op,.int .i64 num,.string md,.string nm,.slice none 0 0,.slice none 0 0] 70)) (some ⟨w.heap.size,0,none⟩) 1 1 X [(⟨op,num,md,nm,[],[]⟩,ep0)]:=by
 refine ⟨World.ownsRow_lit w #[.int .i64 op,.int .i64 num,.string md,.string nm,.slice none 0 0,.slice none 0 0] 1 (nlr _) (by unfold maxLen;omega) (by rfl),rfl,fun x hx=>?_,fun x hx=>?_,?_⟩
 ·rw [ms1 hx];exact ri_bare _
 ·rw [ms1 hx];exact sm_bare
 ·show cEs [_] <= X
  rw [cEs_one,cE_bare]
  omega
theorem ge_nil (w : World) {Bi : Nat} : GE w.heap.size Bi (w.alloc (.cells #[] 70)) (some ⟨w.heap.size,0,none⟩) 0 0 0 []:=
 ⟨World.ownsRow_lit w #[] 0 (nlr _) (by unfold maxLen;omega) (by rfl),rfl,fun x hx=>(List.not_mem_nil hx).elim,fun x hx=>(List.not_mem_nil hx).elim,nlr _⟩
theorem m_joinE2 (w : World) {v1 v2 : Value} {xs ys : List (EI × EPl)} (h1 : RE 0 w v1 xs) (h2 : RE 0 w v2 ys) (hl : xs.length + ys.length <= 1000000) :
  Calls Tryz.prog 77 #[v1,v2] w fun e w'=>(∃ va n c,e = .returned (.slice va n c) /\ n = (xs ++ ys).length /\ Hid (w'.ownsRow w.heap.size 70 6 (.slice va n c) n (eisC (xs ++ ys)) /\ ∀ x,x ∈ xs ++ ys -> RiOK 0 w' x)) /\ Hid (Bw w w'):=by
 obtain ⟨i0,hi0,hz0,hz1,hz2⟩:=info_parts Tryz.infoEI
 obtain ⟨a1,c1,rfl⟩:=own_form h1.own
 obtain ⟨a2,c2,rfl⟩:=own_form h2.own
 have H1 : Hid (RE 0 w (.slice a1 xs.length c1) xs):=h1
 have H2 : Hid (RE 0 w (.slice a2 ys.length c2) ys):=h2
 have ST : Hid ((w.alloc (.cells #[] 70)).ownsRow w.heap.size 70 6 (.slice (some ⟨w.heap.size,0,none⟩) 0 0) 0 (eisC (xs.take 0))):=World.ownsRow_lit w #[] 0 (nlr _) (by unfold maxLen;omega) (by rfl)
 clear h1 h2
 go_enter Tryz.func77,Tryz.ntmps77
 go_wp2
 go_loopw [5,6] (fun v i wr=>∃ k : Nat,k <= xs.length /\ i = .int .i64 k /\ wr.ownsRow w.heap.size 70 6 v k (eisC (xs.take k)) /\ Hid (Bw w wr)) (fun _ i _=>xs.length - (intOf i).toNat)
 case atStart=>exact ⟨0,Nat.zero_le _,rfl,ST.out,bel1 _ _⟩
 case round=>
  clear ST
  obtain ⟨k,hk,rfl,hO,HW⟩:=hrel
  obtain ⟨va,vc,rfl⟩:=own_form hO
  have hws:=HW.out.size
  by_cases hlt : k < xs.length
  case pos=>
   obtain ⟨g,gc,ev,hg1,hg2,hg3⟩:=own_blk H1.out.own (show 0 < xs.length by omega)
   simp only [Value.slice.injEq] at ev
   obtain ⟨rfl,-,rfl⟩:=ev
   have RR:=H1.out.below HW.out
   obtain ⟨x,hx⟩:=xe (xs[k])
   have HX : Hid (xs.take (k + 1) = xs.take k ++ [x]):=by
    show _ = _
    rw [List.take_add_one,List.getElem?_eq_getElem hlt,hx];rfl
   obtain ⟨ta,tc,HTV⟩ : ∃ ta tc,x.2.tv = .slice ta x.2.zs.length tc:=own_form (RR.ok x (by rw [hx];exact List.getElem_mem hlt)).ty.own
   obtain ⟨tn,htn⟩:=xe (x.2.zs.length)
   rw [<- htn] at HTV
   clear htn
   have HCX : Hid (eiC x = [Value.int .i64 x.1.op,Value.int .i64 x.1.num,Value.string x.1.md,Value.string x.1.nm,Value.slice x.2.np.a x.1.ns.length x.2.np.c,Value.slice ta tn tc]):=by show _ = _;unfold eiC;rw [HTV]
   have y0 : wr.cell? ⟨g,k * 6,none⟩ = some (Value.int .i64 x.1.op):=own_at (f:=eiC) eiC_len RR.own (j:=k) (r:=0) rfl hlt (by omega) (by rw [<- hx];rfl)
   have y1 : wr.cell? ⟨g,k * 6 + 1,none⟩ = some (Value.int .i64 x.1.num):=own_at (f:=eiC) eiC_len RR.own rfl hlt (by omega) (by rw [<- hx];rfl)
   have y2 : wr.cell? ⟨g,k * 6 + 2,none⟩ = some (Value.string x.1.md):=own_at (f:=eiC) eiC_len RR.own rfl hlt (by omega) (by rw [<- hx];rfl)
   have y3 : wr.cell? ⟨g,k * 6 + 3,none⟩ = some (Value.string x.1.nm):=own_at (f:=eiC) eiC_len RR.own rfl hlt (by omega) (by rw [<- hx];rfl)
   have y4 : wr.cell? ⟨g,k * 6 + 4,none⟩ = some (Value.slice x.2.np.a x.1.ns.length x.2.np.c):=own_at (f:=eiC) eiC_len RR.own rfl hlt (by omega) (by rw [<- hx];rfl)
   have y5 : wr.cell? ⟨g,k * 6 + 5,none⟩ = some (Value.slice ta tn tc):=own_at (f:=eiC) eiC_len RR.own rfl hlt (by omega) (by rw [<- hx];show some x.2.tv = _;rw [HTV])
   obtain ⟨z0,hz⟩:=xe (x.1.op)
   clear RR hx HTV hz
   go_wp2_with (first | (at_builtin;refine wpList_append_lies _ rfl _ _ 44 rfl w.heap.size 70 i0 _ 6 96 Tryz.underlying44 hi0 hz0 hz1 hz2 rfl (by omega) (.slice va k vc) k (eisC (xs.take k)) rfl (hO.alloc _) ⟨wr.heap.size,0,none⟩ 1 1 [Value.int .i64 x.1.op,Value.int .i64 x.1.num,Value.string x.1.md,Value.string x.1.nm,Value.slice x.2.np.a x.1.ns.length x.2.np.c,Value.slice ta tn tc] rfl rfl (World.news_of_block (cs:=#[Value.int .i64 x.1.op,Value.int .i64 x.1.num,Value.string x.1.md,Value.string x.1.nm,Value.slice x.2.np.a x.1.ns.length x.2.np.c,Value.slice ta tn tc]) (t:=70) (fr:=(0,0)) (heap_alloc_new wr _)) (by simp [Value.oneCell']) (by omega) (by unfold maxLen;omega) (by omega) (by simp only [World.size_alloc];omega) (wr.heap.size + 1) (by simp) ?_;intro gg cap3 w5 hown3 hg3 hat3 hlt3))
   have HN : Hid (Bw w w5):=below_grown HW.out hg3 (fun b e=>(hO.lt b e).1)
   refine ⟨⟨k + 1,by omega,by go_num,?_,HN⟩,by simp [intOf];omega⟩
   rw [HX.out,eisC_snoc]
   rw [HCX.out];exact hown3
  have hkn : k = xs.length:=by omega
  subst hkn
  have ST2 : Hid (wr.ownsRow w.heap.size 70 6 (.slice va xs.length vc) (xs.length + 0) (eisC (xs ++ ys.take 0))):=by
   show World.ownsRow _ _ _ _ _ _ _
   rw [List.take_zero,List.append_nil,Nat.add_zero]
   rw [List.take_length] at hO
   exact hO
  have HW0 : Hid (Bw w wr):=HW
  clear hO HW hlt hk hws
  go_wp2
  go_loopw [5,7] (fun v i wr=>∃ k : Nat,k <= ys.length /\ i = .int .i64 k /\ wr.ownsRow w.heap.size 70 6 v (xs.length + k) (eisC (xs ++ ys.take k)) /\ Hid (Bw w wr)) (fun _ i _=>ys.length - (intOf i).toNat)
  case atStart=>exact ⟨0,Nat.zero_le _,rfl,ST2.out,HW0⟩
  case round=>
   rename World=>wr
   clear ST2 HW0
   obtain ⟨k,hk,rfl,hO,HW⟩:=hrel
   obtain ⟨va,vc,rfl⟩:=own_form hO
   have hws:=HW.out.size
   by_cases hlt : k < ys.length
   case pos=>
    obtain ⟨g,gc,ev,hg1,hg2,hg3⟩:=own_blk H2.out.own (show 0 < ys.length by omega)
    simp only [Value.slice.injEq] at ev
    obtain ⟨rfl,-,rfl⟩:=ev
    have RR:=H2.out.below HW.out
    obtain ⟨x,hx⟩:=xe (ys[k])
    have HX : Hid (ys.take (k + 1) = ys.take k ++ [x]):=by
     show _ = _
     rw [List.take_add_one,List.getElem?_eq_getElem hlt,hx];rfl
    obtain ⟨ta,tc,HTV⟩ : ∃ ta tc,x.2.tv = .slice ta x.2.zs.length tc:=own_form (RR.ok x (by rw [hx];exact List.getElem_mem hlt)).ty.own
    obtain ⟨tn,htn⟩:=xe (x.2.zs.length)
    rw [<- htn] at HTV
    clear htn
    have HCX : Hid (eiC x = [Value.int .i64 x.1.op,Value.int .i64 x.1.num,Value.string x.1.md,Value.string x.1.nm,Value.slice x.2.np.a x.1.ns.length x.2.np.c,Value.slice ta tn tc]):=by show _ = _;unfold eiC;rw [HTV]
    have y0 : wr.cell? ⟨g,k * 6,none⟩ = some (Value.int .i64 x.1.op):=own_at (f:=eiC) eiC_len RR.own (j:=k) (r:=0) rfl hlt (by omega) (by rw [<- hx];rfl)
    have y1 : wr.cell? ⟨g,k * 6 + 1,none⟩ = some (Value.int .i64 x.1.num):=own_at (f:=eiC) eiC_len RR.own rfl hlt (by omega) (by rw [<- hx];rfl)
    have y2 : wr.cell? ⟨g,k * 6 + 2,none⟩ = some (Value.string x.1.md):=own_at (f:=eiC) eiC_len RR.own rfl hlt (by omega) (by rw [<- hx];rfl)
    have y3 : wr.cell? ⟨g,k * 6 + 3,none⟩ = some (Value.string x.1.nm):=own_at (f:=eiC) eiC_len RR.own rfl hlt (by omega) (by rw [<- hx];rfl)
    have y4 : wr.cell? ⟨g,k * 6 + 4,none⟩ = some (Value.slice x.2.np.a x.1.ns.length x.2.np.c):=own_at (f:=eiC) eiC_len RR.own rfl hlt (by omega) (by rw [<- hx];rfl)
    have y5 : wr.cell? ⟨g,k * 6 + 5,none⟩ = some (Value.slice ta tn tc):=own_at (f:=eiC) eiC_len RR.own rfl hlt (by omega) (by rw [<- hx];show some x.2.tv = _;rw [HTV])
    obtain ⟨z0,hz⟩:=xe (x.1.op)
    clear RR hx HTV hz
    go_wp2_with (first | (at_builtin;refine wpList_append_lies _ rfl _ _ 44 rfl w.heap.size 70 i0 _ 6 96 Tryz.underlying44 hi0 hz0 hz1 hz2 rfl (by omega) (.slice va (xs.length + k) vc) (xs.length + k) (eisC (xs ++ ys.take k)) rfl (hO.alloc _) ⟨wr.heap.size,0,none⟩ 1 1 [Value.int .i64 x.1.op,Value.int .i64 x.1.num,Value.string x.1.md,Value.string x.1.nm,Value.slice x.2.np.a x.1.ns.length x.2.np.c,Value.slice ta tn tc] rfl rfl (World.news_of_block (cs:=#[Value.int .i64 x.1.op,Value.int .i64 x.1.num,Value.string x.1.md,Value.string x.1.nm,Value.slice x.2.np.a x.1.ns.length x.2.np.c,Value.slice ta tn tc]) (t:=70) (fr:=(0,0)) (heap_alloc_new wr _)) (by simp [Value.oneCell']) (by omega) (by unfold maxLen;omega) (by omega) (by simp only [World.size_alloc];omega) (wr.heap.size + 1) (by simp) ?_;intro gg cap3 w5 hown3 hg3 hat3 hlt3))
    have HN : Hid (Bw w w5):=below_grown HW.out hg3 (fun b e=>(hO.lt b e).1)
    refine ⟨⟨k + 1,by omega,by go_num,?_,HN⟩,by simp [intOf];omega⟩
    rw [HX.out,<- List.append_assoc,eisC_snoc]
    rw [HCX.out];exact hown3
   have hkn : k = ys.length:=by omega
   subst hkn
   have HF : Hid (wr.ownsRow w.heap.size 70 6 (.slice va (xs.length + ys.length) vc) (xs.length + ys.length) (eisC (xs ++ ys)) /\ ∀ x,x ∈ xs ++ ys -> RiOK 0 wr x):=by
    rw [List.take_length] at hO
    refine ⟨hO,fun x hx=>?_⟩
    rcases List.mem_append.1 hx with z | z
    ·exact (H1.out.below HW.out).ok x z
    ·exact (H2.out.below HW.out).ok x z
   clear hO
   go_wp2
   go_ret
   exact ⟨⟨_,_,_,rfl,lap.symm,HF⟩,HW⟩
theorem j_E {B1 B2 Bi : Nat} (w : World) {a1 a2 : Option Addr} {n1 c1 n2 c2 X1 X2 : Nat} {xs ys : List (EI × EPl)} (h1 : GE B1 Bi w a1 n1 c1 X1 xs) (h2 : GE B2 Bi w a2 n2 c2 X2 ys) (hX : X1 + X2 <= 1000000) :
  Calls Tryz.prog 77 #[.slice a1 n1 c1,.slice a2 n2 c2] w fun e w'=>(∃ va n c,e = .returned (.slice va n c) /\ Hid (GE w.heap.size Bi w' va n c (X1 + X2) (xs ++ ys))) /\ Hid (Bw w w'):=by
 have l1:=h1.le
 have l2:=h2.le
 refine (m_joinE2 w h1.re h2.re (by rw [<- h1.len,<- h2.len];omega)).mono ?_
 rintro e w' ⟨⟨va,n,c,he,hn,HO⟩,HB⟩
 refine ⟨⟨va,n,c,he,⟨HO.out.1,hn,fun x hx=>?_,fun x hx=>?_,?_⟩⟩,HB⟩
 ·rcases List.mem_append.1 hx with z | z
  ·exact (h1.ok x z).kp (below_kp HB.out) (by decide) (by decide)
  ·exact (h2.ok x z).kp (below_kp HB.out) (by decide) (by decide)
 ·rcases List.mem_append.1 hx with z | z
  ·exact h1.sm x z
  ·exact h2.sm x z
 ·rw [List.map_append,cEs_app]
  have:=h1.cost
  have:=h2.cost
  omega
def PE : Nat -> Nat
 | 0=>2
 | d + 1=>10 + 3 * PE d
def XE : Nat -> Nat
 | 0=>25
 | d + 1=>3 * XE d + 300
theorem PE_pos : ∀ d,2 <= PE d
 | 0=>nlr _
 | d + 1=>by show 2 <= 10 + 3 * PE d;omega
theorem XE_pos : ∀ d,25 <= XE d
 | 0=>nlr _
 | d + 1=>by show 25 <= 3 * XE d + 300;omega
def GnE (w : World) (P X p : Nat) (e : Ending) (w' : World) : Prop:=(∃ (va : Option Addr) (n c q : Nat),e = .returned (.tuple #[.slice va n c,.int .i64 (q : Int)]) /\ p <= q /\ q <= p + P /\ Hid (∃ es,GE w.heap.size w.heap.size w' va n c X es)) /\ Hid (Bw w w')
theorem g_E_lit (w : World) (z : Int) {P X : Nat} (hP : 2 <= P) (hX : 25 <= X) {ca : Option Addr} {cb co Ln cc p : Nat} {C : Nat -> Nat} (hC : BytesAt w ca cb co Ln C) (hLn : Ln <= 1048576) (hp : p <= 1000000) {T V M : List ByteArray} {tp vp mp : NPl} (hS : Sc w T V M tp vp mp) (hV : 0 < V.length)
  (hcase : tk C Ln p 20 < 8 \/ z <= 0) :
  Calls Tryz.prog 119 #[.slice ca Ln cc,.int .i64 (p : Int),.agg #[.slice tp.a T.length tp.c,.slice vp.a V.length vp.c,.slice mp.a M.length mp.c],.int .i64 z] w (GnE w P X p):=by
 obtain ⟨W1,hW1⟩:=xe (w.alloc (.cells #[.slice tp.a T.length tp.c,.slice vp.a V.length vp.c,.slice mp.a M.length mp.c] 111))
 have B1 : Bw w W1:=by rw [hW1];exact bel1 _ _
 have HB1 : Hid (Bw w W1):=B1
 have HS1 : Hid (Sc W1 T V M tp vp mp):=hS.below B1
 have C1:=d_take ca cb co Ln cc p 20 C W1 (hC.below B1) hLn (by omega) (by omega)
 have C2:=d_take ca cb co Ln cc (p + 1) 64 C W1 (hC.below B1) hLn (by omega) (by omega)
 obtain ⟨a,ha⟩:=xe (tk C Ln p 20)
 obtain ⟨b,hb⟩:=xe (tk C Ln (p + 1) 64)
 have ha20 : a < 20:=by rw [ha];exact tk_lt (by omega)
 have hb64 : b < 64:=by rw [hb];exact tk_lt (by omega)
 rw [<- ha] at C1 hcase
 rw [<- hb] at C2
 have HX : Hid (W1.rowIs w.heap.size 111 3 (v3 (.slice tp.a T.length tp.c) (.slice vp.a V.length vp.c) (.slice mp.a M.length mp.c))):=by rw [hW1];exact row3 w _ _ _ _
 have x1 : W1.cell? ⟨w.heap.size,1,none⟩ = some (.slice vp.a V.length vp.c):=HX.out.cell (i:=1) (by omega)
 have x2 : W1.cell? ⟨w.heap.size,2,none⟩ = some (.slice mp.a M.length mp.c):=HX.out.cell (i:=2) (by omega)
 clear hC hS ha hb B1
 go_enter Tryz.func119,Tryz.ntmps119
 go_wp2_with fail
 rw [<- hW1]
 clear hW1
 refine C1.mono ?_
 rintro e w' ⟨rfl,rfl⟩
 go_wp2_with fail
 refine C2.mono ?_
 rintro e w' ⟨rfl,rfl⟩
 clear C1 C2
 have HEND : Hid (∀ (op num : Int) (md nm : ByteArray) (V : World),V = W1.alloc (.cells #[.int .i64 op,.int .i64 num,.string md,.string nm,.slice none 0 0,.slice none 0 0] 70) \/ V = (W1.alloc (.cells #[.int .i64 op,.int .i64 num,.string md,.string nm,.slice none 0 0,.slice none 0 0] 70)).drew -> md.size <= 12 -> nm.size <= 12 -> GnE w P X p (.returned (.tuple #[.slice (some ⟨W1.heap.size,0,none⟩) 1 1,.int .i64 ((p + 1 + 1 : Nat) : Int)])) V):=fun op num md nm V hV h1 h2=>by
  have G:=(ge_lit W1 (X:=X) op num (md:=md) (nm:=nm) (by omega)).mono (Bi':=w.heap.size) (Bi:=w.heap.size) HB1.out.size (nlr _) (nlr _)
  have hbw:=HB1.out.alloc HB1.out.size (.cells #[.int .i64 op,.int .i64 num,.string md,.string nm,.slice none 0 0,.slice none 0 0] 70)
  rcases hV with rfl | rfl
  ·exact ⟨⟨_,_,_,p + 1 + 1,rfl,by omega,by omega,_,G⟩,hbw⟩
  ·exact ⟨⟨_,_,_,p + 1 + 1,rfl,by omega,by omega,_,G.drew⟩,hbw.drew⟩
 have q9 : (0 : Int) < (V.length : Int):=by omega
 have hV0 : ¬ (V.length : Int) = 0:=by omega
 by_cases a4 : a < 4 \/ (a < 7 /\ z <= 0)
 ·obtain ⟨k,hk⟩:=xe (b % V.length)
  have hkl : k < V.length:=by rw [hk];exact Nat.mod_lt _ hV
  have m1 : Int.tmod (b : Int) (V.length : Int) = (k : Int):=by rw [tmodN,hk]
  have m2 : (k : Int) < (V.length : Int):=by omega
  have m3 : (0 : Int) <= (k : Int):=by omega
  have ea:=HS1.out.v.at_ hV
  have y0:=HS1.out.v.cell k hkl
  have hgn:=HS1.out.gv (V.getD k e0) (by rw [List.getD_eq_getElem?_getD,List.getElem?_eq_getElem hkl];exact List.getElem_mem hkl)
  obtain ⟨s,hs⟩:=xe (V.getD k e0)
  rw [<- hs] at y0 hgn
  have HGN : Hid (gn s = true):=hgn
  obtain ⟨tl,htl⟩:=xe (V.length)
  have htb : tl <= 1000:=by rw [htl];exact HS1.out.lv.1
  rw [ea] at x1
  rw [<- htl] at x1 q9 hV0 m1 m2
  rw [ea,<- htl]
  clear hk hs ea hgn htl hcase
  by_cases c4 : (a : Int) < 4
  ·clear a4
   go_wp2
   go_region
   all_goals
    go_wp2
    go_ret2
    exact HEND.out 3 0 ⟨#[]⟩ s _ (.inr rfl) (by decide) (gn_12 HGN.out)
  ·have c7 : (a : Int) < 7:=by omega
   have cz : z <= 0:=by omega
   clear a4
   go_wp2
   go_region
   all_goals
    go_wp2
    go_ret2
    exact HEND.out 3 0 ⟨#[]⟩ s _ (.inr rfl) (by decide) (gn_12 HGN.out)
 by_cases a5 : a = 4 /\ 0 < M.length
 ·have cz : ¬ z <= 0:=by omega
  have ea4:=a5.1
  subst ea4
  have q11 : (0 : Int) < (M.length : Int):=by omega
  have hM0 : ¬ (M.length : Int) = 0:=by omega
  obtain ⟨k,hk⟩:=xe ((b / 8) % V.length)
  have hkl : k < V.length:=by rw [hk];exact Nat.mod_lt _ hV
  obtain ⟨b8,hb8⟩:=xe (b / 8)
  have m0 : Int.tdiv (b : Int) 8 = (b8 : Int):=by rw [hb8];exact tdivN b 8
  have m1 : Int.tmod (b8 : Int) (V.length : Int) = (k : Int):=by rw [tmodN,hk,hb8]
  have m2 : (k : Int) < (V.length : Int):=by omega
  have m3 : (0 : Int) <= (k : Int):=by omega
  obtain ⟨l,hlm⟩:=xe (b % M.length)
  have hll : l < M.length:=by rw [hlm];exact Nat.mod_lt _ a5.2
  have m4 : Int.tmod (b : Int) (M.length : Int) = (l : Int):=by rw [tmodN,hlm]
  have m5 : (l : Int) < (M.length : Int):=by omega
  have m6 : (0 : Int) <= (l : Int):=by omega
  have ea:=HS1.out.v.at_ hV
  have ea2:=HS1.out.m.at_ a5.2
  have y0:=HS1.out.v.cell k hkl
  have y1:=HS1.out.m.cell l hll
  have hgn:=HS1.out.gv (V.getD k e0) (by rw [List.getD_eq_getElem?_getD,List.getElem?_eq_getElem hkl];exact List.getElem_mem hkl)
  have hgm:=HS1.out.gm (M.getD l e0) (by rw [List.getD_eq_getElem?_getD,List.getElem?_eq_getElem hll];exact List.getElem_mem hll)
  obtain ⟨s,hs⟩:=xe (V.getD k e0)
  obtain ⟨s2,hs2⟩:=xe (M.getD l e0)
  rw [<- hs] at y0 hgn
  rw [<- hs2] at y1 hgm
  have HGN : Hid (gn s = true /\ gn s2 = true):=⟨hgn,hgm⟩
  obtain ⟨tl,htl⟩:=xe (V.length)
  obtain ⟨ml,hml⟩:=xe (M.length)
  have htb : tl <= 1000:=by rw [htl];exact HS1.out.lv.1
  have hmb : ml <= 1000:=by rw [hml];exact HS1.out.lm.1
  have hb8b : b8 <= 8:=by omega
  rw [ea] at x1
  rw [ea2] at x2
  rw [<- htl] at x1 q9 hV0 m1 m2
  rw [<- hml] at x2 q11 hM0 m4 m5
  rw [ea,ea2,<- htl,<- hml]
  clear hk hs hs2 ea ea2 hgn hgm htl hml hlm hb8 a4 a5 hcase
  go_wp2
  go_region
  all_goals
   go_wp2
   go_ret2
   exact HEND.out 3 0 s2 s _ (.inr rfl) (gn_12 HGN.out.2) (gn_12 HGN.out.1)
 have m3 : Int.tmod (b : Int) 3 = ((b % 3 : Nat) : Int):=tmodN b 3
 obtain ⟨b3,hb3⟩:=xe (b % 3)
 rw [<- hb3] at m3
 have hb33 : b3 < 3:=by omega
 have hbb : b * b <= 64 * 64:=Nat.mul_le_mul (by omega) (by omega)
 obtain ⟨bb,hbbe⟩:=xe (b * b)
 rw [<- hbbe] at hbb
 have hb4 : bb * b3 <= 4096 * 3:=Nat.mul_le_mul (by omega) (by omega)
 have w1 : IntKind.i64.wrap ((b : Int) * (b : Int)) = (bb : Int):=by
  rw [hbbe,IntKind.wrap_i64]
  have : ((b * b : Nat) : Int) = (b : Int) * (b : Int):=by simp
  omega
 have w2 : IntKind.i64.wrap ((bb : Int) * (b3 : Int)) = ((bb * b3 : Nat) : Int):=by
  rw [IntKind.wrap_i64]
  have : ((bb * b3 : Nat) : Int) = (bb : Int) * (b3 : Int):=by simp
  omega
 obtain ⟨nn,hnn⟩ : ∃ nn : Int,nn = ((bb * b3 : Nat) : Int):=⟨_,rfl⟩
 rw [<- hnn] at w2
 clear hb3 hbbe hnn hbb hb4
 by_cases a7 : a < 7 \/ z <= 0
 ·by_cases c4 : (a : Int) < 4 <;> by_cases c7 : (a : Int) < 7 <;> by_cases cz : z <= 0 <;> by_cases ce : a = 4 <;> by_cases cM : (0 : Int) < (M.length : Int)
  all_goals first
   | (exfalso;omega)
   | (subst ce;clear a4 a5 a7 hcase;go_wp2;go_ret2;exact HEND.out 1 nn ⟨#[]⟩ ⟨#[]⟩ _ (.inl rfl) (by decide) (by decide))
   | (have ce2 : ((a : Int) == 4) = false:=bn2 (by omega);clear a4 a5 a7 hcase ce;go_wp2;go_ret2;exact HEND.out 1 nn ⟨#[]⟩ ⟨#[]⟩ _ (.inl rfl) (by decide) (by decide))
 ·have e7 : a = 7:=by omega
  subst e7
  have cz : ¬ z <= 0:=by omega
  have m2 : Int.tmod (b : Int) 2 = ((b % 2 : Nat) : Int):=tmodN b 2
  obtain ⟨b2,hb2⟩:=xe (b % 2)
  rw [<- hb2] at m2
  clear hb2 a4 a5 a7 hcase
  go_wp2
  go_ret2
  exact HEND.out 2 b2 ⟨#[]⟩ ⟨#[]⟩ _ (.inl rfl) (by decide) (by decide)
theorem XP_le {d : Nat} (h : d <= 3) : XE d <= 5000 /\ PE d <= 200:=by
 match d,h with
 | 0,_=>decide
 | 1,_=>decide
 | 2,_=>decide
 | 3,_=>decide
def IhE (d N : Nat) (ca : Option Addr) (cb co Ln cc : Nat) (C : Nat -> Nat) (T M : List ByteArray) (tp mp : NPl) : Prop:=∀ (W : World) (V : List ByteArray) (vp : NPl) (q : Nat),BytesAt W ca cb co Ln C -> Sc W T V M tp vp mp -> 0 < V.length -> V.length + d <= 1000 -> q <= N -> Calls Tryz.prog 119 #[.slice ca Ln cc,.int .i64 (q : Int),.agg #[.slice tp.a T.length tp.c,.slice vp.a V.length vp.c,.slice mp.a M.length mp.c],.int .i64 (d : Int)] W (GnE W (PE d) (XE d) q)
theorem e_pre (w : World) (d : Nat) {ca : Option Addr} {cb co Ln cc p : Nat} {C : Nat -> Nat} (hC : BytesAt w ca cb co Ln C) (hLn : Ln <= 1048576) (hp : p <= 1000000) {T V M : List ByteArray} {tp vp mp : NPl} (hS : Sc w T V M tp vp mp) :
  ∃ (W1 W2 : World) (a b : Nat),W1 = w.alloc (.cells #[.slice tp.a T.length tp.c,.slice vp.a V.length vp.c,.slice mp.a M.length mp.c] 111) /\ W2 = W1.alloc (.cells #[] 70) /\ Hid (Bw w W1) /\ Hid (Bw W1 W2) /\ (Calls Tryz.prog 42 #[.slice ca Ln cc,.int .i64 (p : Int),.int .i64 20] W1 fun e w'=>e = .returned (.tuple #[.int .i64 (a : Int),.int .i64 ((p + 1 : Nat) : Int)]) /\ W1 = w') /\ (Calls Tryz.prog 42 #[.slice ca Ln cc,.int .i64 ((p + 1 : Nat) : Int),.int .i64 64] W1 fun e w'=>e = .returned (.tuple #[.int .i64 (b : Int),.int .i64 ((p + 1 + 1 : Nat) : Int)]) /\ W1 = w') /\ a = tk C Ln p 20 /\ a < 20 /\ b < 64 /\
    Hid (∀ W,Bw W1 W -> W.cell? ⟨w.heap.size,0,none⟩ = some (.slice tp.a T.length tp.c) /\ W.cell? ⟨w.heap.size,1,none⟩ = some (.slice vp.a V.length vp.c) /\ W.cell? ⟨w.heap.size,2,none⟩ = some (.slice mp.a M.length mp.c)) /\ Hid (∀ W,Bw W1 W -> BytesAt W ca cb co Ln C /\ Sc W T V M tp vp mp) /\ Hid (GE W1.heap.size W1.heap.size W2 (some ⟨W1.heap.size,0,none⟩) 0 0 0 []) /\ Hid (PE (d + 1) = 10 + 3 * PE d /\ XE (d + 1) = 3 * XE d + 300):=by
 obtain ⟨W1,hW1⟩:=xe (w.alloc (.cells #[.slice tp.a T.length tp.c,.slice vp.a V.length vp.c,.slice mp.a M.length mp.c] 111))
 have B1 : Bw w W1:=by rw [hW1];exact bel1 _ _
 have HX : W1.rowIs w.heap.size 111 3 (v3 (.slice tp.a T.length tp.c) (.slice vp.a V.length vp.c) (.slice mp.a M.length mp.c)):=by rw [hW1];exact row3 w _ _ _ _
 refine ⟨W1,W1.alloc (.cells #[] 70),_,_,hW1,rfl,B1,bel1 _ _,d_take ca cb co Ln cc p 20 C W1 (hC.below B1) hLn (by omega) (by omega),d_take ca cb co Ln cc (p + 1) 64 C W1 (hC.below B1) hLn (by omega) (by omega),rfl,tk_lt (by omega),tk_lt (by omega),fun W hb=>?_,fun W hb=>?_,ge_nil W1,⟨rfl,rfl⟩⟩
 ·have r:=HX.of_block (hb.block _ HX.lt)
  exact ⟨r.cell (i:=0) (by omega),r.cell (i:=1) (by omega),r.cell (i:=2) (by omega)⟩
 ·have h:=B1.trans (hb.mono B1.size)
  exact ⟨hC.below h,hS.below h⟩
theorem g_E_get (w : World) (d : Nat) {ca : Option Addr} {cb co Ln cc p : Nat} {C : Nat -> Nat} (hC : BytesAt w ca cb co Ln C) (hLn : Ln <= 1048576) (hd : d <= 3) {Nq : Nat} (hp : p + 2000 <= Nq) (hNq : Nq <= 1000000) {T V M : List ByteArray} {tp vp mp : NPl} (hS : Sc w T V M tp vp mp) (hV : 0 < V.length) (hVd : V.length + d + 1 <= 1000) (ih : IhE d Nq ca cb co Ln cc C T M tp mp)
  (hca : 10 <= tk C Ln p 20 /\ tk C Ln p 20 < 12) :
  Calls Tryz.prog 119 #[.slice ca Ln cc,.int .i64 (p : Int),.agg #[.slice tp.a T.length tp.c,.slice vp.a V.length vp.c,.slice mp.a M.length mp.c],.int .i64 ((d : Int) + 1)] w (GnE w (PE (d + 1)) (XE (d + 1)) p):=by
 obtain ⟨i0,hi0,hz0,hz1,hz2⟩:=info_parts Tryz.infoEI
 obtain ⟨i9,hi9,hy0,hy1,hy2⟩:=info_parts Tryz.info9
 obtain ⟨hXd,hPd⟩:=XP_le hd
 obtain ⟨W1,W2,a,b,hW1,hW2,HB1,HB2,C1,C2,ha,ha20,hb64,HCX,HBS,HN2,HPX⟩:=e_pre w d hC (cc:=cc) (p:=p) hLn (by omega) hS
 rw [<- ha] at hca
 obtain ⟨x0,x1,x2⟩:=HCX.out W1 (Below.refl _ _)
 have HIH : Hid (∀ W q,Bw W1 W -> q <= Nq -> Calls Tryz.prog 119 #[.slice ca Ln cc,.int .i64 (q : Int),.agg #[.slice tp.a T.length tp.c,.slice vp.a V.length vp.c,.slice mp.a M.length mp.c],.int .i64 (d : Int)] W (GnE W (PE d) (XE d) q)):=fun W q hb hq=>ih W V vp q (HBS.out W hb).1 (HBS.out W hb).2 hV (by omega) hq
 obtain ⟨y0,y1,y2⟩:=HCX.out W2 HB2.out
 rw [hW2] at y0 y1 y2
 have dd : IntKind.i64.wrap ((d : Int) + 1 - 1) = (d : Int):=wk (by omega)
 have d0 : ¬ ((d : Int) + 1) <= 0:=by omega
 have q3 : ¬ (a : Int) < 4:=by omega
 have q4 : ((a : Int) == 4) = false:=bn2 (by omega)
 have q6 : ¬ (a : Int) < 7:=by omega
 have q7 : ((a : Int) == 7) = false:=bn2 (by omega)
 have q10 : ¬ (a : Int) < 10:=by omega
 have q12 : (a : Int) < 12:=by omega
 have C3:=HIH.out W2 (p + 1 + 1) HB2.out (by omega)
 have m3 : Int.tmod (b : Int) 3 = ((b % 3 : Nat) : Int):=tmodN b 3
 obtain ⟨b3,hb3⟩:=xe (b % 3)
 rw [<- hb3] at m3
 clear hb3
 clear hC hS ha hV ih hca
 go_enter Tryz.func119,Tryz.ntmps119
 go_wp2_with fail
 rw [<- hW1]
 clear hW1
 refine C1.mono ?_
 rintro e w' ⟨rfl,rfl⟩
 go_wp2_with fail
 refine C2.mono ?_
 rintro e w' ⟨rfl,rfl⟩
 clear C1 C2
 go_wp2_with fail
 rw [<- hW2]
 clear hW2 y0 y1 y2 x0 x1 x2
 refine C3.mono ?_
 rintro e w3 ⟨⟨va,n,c,q,rfl,hq1,hq2,HG⟩,HB3⟩
 clear C3
 obtain ⟨es,G⟩:=HG.out
 have OWN:=G.own
 have hnl:=G.le
 have HGE : Hid (GE W2.heap.size w.heap.size w3 va n c (XE d) es):=G.mono (nlr _) (Nat.le_trans HB1.out.size HB2.out.size) (nlr _)
 have C4:=d_field b b3 w3
 have HS : Hid ((fldN b b3).size <= 12):=gn_12 (fldN_ok b b3).1
 obtain ⟨s,hs⟩:=xe (fldN b b3)
 rw [<- hs] at C4 HS
 clear hs G HG
 have h23:=HB3.out.size
 have h12:=HB2.out.size
 go_wp2_with (first | (go_at_call 118;refine C4.mono ?_;rintro e w5 ⟨rfl,rfl⟩) | (at_builtin;refine wpList_append_lies _ rfl _ _ 44 rfl W2.heap.size 70 i0 _ 6 96 Tryz.underlying44 hi0 hz0 hz1 hz2 rfl (by omega) (.slice va n c) n (eisC es) rfl (OWN.alloc _) ⟨w5.heap.size,0,none⟩ 1 1 [.int .i64 5,.int .i64 0,.string ⟨#[]⟩,.string s,.slice none 0 0,.slice none 0 0] rfl rfl (World.news_of_block (cs:=#[.int .i64 5,.int .i64 0,.string ⟨#[]⟩,.string s,.slice none 0 0,.slice none 0 0]) (t:=70) (fr:=(0,0)) (heap_alloc_new w5 _)) (by simp [Value.oneCell']) (by omega) (by unfold maxLen;omega) (by omega) (by simp only [World.size_alloc];omega) (w5.heap.size + 1) (by simp) ?_;intro gg cap3 w7 hown3 hg3 hat hlt3))
 go_ret2
 have hcE : cE (⟨5,0,e0,s,[],[]⟩ : EI) = e0.size + s.size:=cE_bare
 have e00 : e0.size = 0:=rfl
 have P:=HGE.out.push (x:=((⟨5,0,e0,s,[],[]⟩ : EI),ep0)) (X':=XE (d + 1)) hown3 hg3 (ri_bare _) sm_bare (by show XE d + 1 + cE (⟨5,0,e0,s,[],[]⟩ : EI) <= _;have:=HS.out;have:=HPX.out.2;omega)
 refine ⟨⟨some ⟨gg,0,none⟩,n + 1,cap3,q,rfl,by omega,by have:=HPX.out.1;omega,_,P.mono (Nat.le_trans HB1.out.size HB2.out.size) (nlr _) (nlr _)⟩,?_⟩
 exact below_grown (HB1.out.trans ((HB2.out.trans (HB3.out.mono HB2.out.size)).mono HB1.out.size)) hg3 (fun j e=>Nat.le_trans (Nat.le_trans HB1.out.size HB2.out.size) (OWN.lt j e).1)
end Go.Proofs.YtcehppndpccldaaGreatDoor
