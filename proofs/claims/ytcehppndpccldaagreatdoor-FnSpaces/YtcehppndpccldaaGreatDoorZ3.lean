/-
  QeB0 QeB
-/
import Derived.Test.YtcehppndpccldaaGreatDoorZ2
set_option maxHeartbeats 4000000
set_option maxRecDepth 100000
namespace Go.Proofs.YtcehppndpccldaaGreatDoor
open Go.RowKit
def pkv (D : Nat -> Nat) (n i : Nat) : Nat:=if n = 0 then i else D (i % n)
theorem l_pick (w : World) {ma : Option Addr} {mb mo Mn mc : Nat} {D : Nat -> Nat} (h : BytesAt w ma mb mo Mn D) {i : Nat} (_hi : i <= 1048576) :
  Calls Tryz.prog 19 #[.slice ma Mn mc,.int .i64 (i : Int)] w fun e w'=>e = .returned (.int .i64 (pkv D Mn i : Int)) /\ w = w':=by
 by_cases h0 : Mn = 0
 ·subst h0
  have HE : Hid (pkv D 0 i = i):=by show _ = _;unfold pkv;rw [if_pos rfl]
  clear h
  go_enter Tryz.func19,Tryz.ntmps19
  go_wp2
  go_ret
  exact ⟨by rw [HE.out];rfl,rfl⟩
 ·have e1:=h.at_ (by omega)
  have hl:=h.len
  subst e1
  obtain ⟨q,hq⟩:=xe (i % Mn)
  have hqn : q < Mn:=by rw [hq];exact Nat.mod_lt _ (by omega)
  have c0:=h.cell q hqn
  have hr:=h.rng q hqn
  have HE : Hid (pkv D Mn i = D q):=by show _ = _;unfold pkv;rw [if_neg h0,hq]
  obtain ⟨x,hx⟩:=xe (D q)
  rw [<- hx] at c0 hr HE
  clear h hx
  have hm1 : Int.tmod (i : Int) (Mn : Int) = (q : Int):=by rw [hq];rfl
  have hq1 : (q : Int) < (Mn : Int):=by omega
  have hq2 : (0 : Int) <= (q : Int):=by omega
  have hne : ¬ (Mn : Int) = 0:=by omega
  clear hq
  go_enter Tryz.func19,Tryz.ntmps19
  go_wp2
  go_ret
  exact ⟨by rw [HE.out];rfl,rfl⟩
theorem d_ptoks (s : ByteArray) (m : Int) (w : World) (hs : s.size <= 9223372036854775807) (hm : w.cell? ⟨1,0,none⟩ = some (.int .i64 m)) : Calls Tryz.prog 18 #[.string s] w fun e w'=>∃ (ao : Option Addr) (c tb : Nat),e = .returned (.slice ao (toks s).length c) /\ Hid (∀ W,Bw w' W -> MS W tb 0 ao (toks s)) /\ Hid (Bw w w'):=by
 refine (c6 s m w hs hm).mono ?_
 rintro e w3 ⟨v0,rfl,hO⟩
 have hl:=toks_len s
 obtain ⟨ao,c,rfl⟩:=own_form hO.own
 obtain ⟨tb,hms⟩ : ∃ tb,MS w3 tb 0 ao (toks s):=by
  by_cases hp : 0 < (toks s).length
  ·obtain ⟨g,c',e,_⟩:=own_blk hO.own hp
   cases e
   exact ⟨g,TkAt.of_own hO,fun _=>rfl⟩
  ·exact ⟨0,⟨fun j hj=>absurd hj (by omega),fun j hj=>absurd hj (by omega),fun j hj=>absurd hj (by omega),by omega,fun j hj=>absurd hj (by omega),fun j hj=>absurd hj (by omega)⟩,fun z=>absurd z hp⟩
 exact ⟨ao,c,tb,rfl,fun W hb=>hms.below hb,hO.below⟩
theorem s_module (w : World) {B1 B2 : Nat} {a1 a2 : Option Addr} {c1 c2 : Nat} {xs zs : List (DC × DPl)} (h1 : RD B1 w (.slice a1 zs.length c1) zs) (h2 : RD B2 w (.slice a2 xs.length c2) xs) (he : zs.map Prod.fst = xs.map Prod.fst) (hsm : ∀ d,d ∈ xs.map Prod.fst -> SmD 1000 d) (hl : zs.length <= 1000) :
  Calls Tryz.prog 15 #[.agg #[.slice a1 zs.length c1],.agg #[.slice a2 xs.length c2]] w fun e w'=>e = .returned (.bool true) /\ Bw w w':=by
 have hxl : xs.length = zs.length:=by have:=congrArg List.length he;rw [List.length_map,List.length_map] at this;exact this.symm
 obtain ⟨nz,hnz⟩:=xe (zs.length)
 have HZ : Hid (∀ W,Bw w W -> RD B1 W (.slice a1 zs.length c1) zs /\ RD B2 W (.slice a2 xs.length c2) xs):=fun W hb=>⟨h1.below hb,h2.below hb⟩
 have HNZ : Hid (nz = zs.length /\ nz = xs.length /\ zs.map Prod.fst = xs.map Prod.fst):=⟨hnz,by omega,he⟩
 have HSM : Hid (∀ d,d ∈ xs.map Prod.fst -> SmD 1000 d):=hsm
 rw [hxl,<- hnz]
 rw [<- hnz] at hl
 obtain ⟨W2,hW2⟩:=xe ((w.alloc (.cells #[.slice a1 nz c1] 24)).alloc (.cells #[.slice a2 nz c2] 24))
 have HB2 : Hid (Bw w W2):=by rw [hW2];exact bel2 _ _ _
 have HR1 : Hid (W2.rowIs w.heap.size 24 1 (fun _=>.slice a1 nz c1)):=by rw [hW2];exact (row1 w _ _).alloc _
 have HR2 : Hid (W2.rowIs (w.heap.size + 1) 24 1 (fun _=>.slice a2 nz c2)):=by
  rw [hW2]
  have h:=row1 (w.alloc (.cells #[.slice a1 nz c1] 24)) (.slice a2 nz c2) 24
  rw [World.size_alloc] at h
  exact h
 have HCL : Hid (∀ W,Bw W2 W -> W.cell? ⟨w.heap.size,0,none⟩ = some (.slice a1 nz c1) /\ W.cell? ⟨w.heap.size + 1,0,none⟩ = some (.slice a2 nz c2)):=fun W hb=>⟨(HR1.out.of_block (hb.block _ HR1.out.lt)).cell (i:=0) (by omega),(HR2.out.of_block (hb.block _ HR2.out.lt)).cell (i:=0) (by omega)⟩
 obtain ⟨z1,z2⟩:=HCL.out W2 (Below.refl _ _)
 have nez : ((nz : Int) != (nz : Int)) = false:=by simp
 clear h1 h2 he hsm hxl hnz
 go_enter Tryz.func15,Tryz.ntmps15
 go_upto_region 1 with fail
 rw [<- hW2]
 clear hW2
 go_wp2
 clear z1 z2
 go_loopw [5] (fun i wr=>∃ k : Nat,k <= nz /\ i = .int .i64 k /\ Hid (Bw W2 wr)) (fun i _=>nz - (intOf i).toNat)
 case atStart=>exact ⟨0,Nat.zero_le _,rfl,Below.refl _ _⟩
 case round=>
  obtain ⟨k,hk,rfl,HW⟩:=hrel
  obtain ⟨z1,z2⟩:=HCL.out wr HW.out
  have HWw : Hid (Bw w wr):=HB2.out.trans (HW.out.mono HB2.out.size)
  by_cases hlt : k < nz
  ·have lk : (k : Int) < (nz : Int):=by omega
   have lk0 : (0 : Int) <= (k : Int):=by omega
   obtain ⟨g1,d1,p1,ta1,tn1,tc1,ea1,en1,ec1,ez,u0,u1,u2,u3,et1,ee1,ok1,at1⟩:=rd_cells (HZ.out wr HWw.out).1 HNZ.out.1 hlt
   obtain ⟨g2,d2,p2,ta2,tn2,tc2,ea2,en2,ec2,ex,q0,q1,q2,q3,et2,ee2,ok2,at2⟩:=rd_cells (HZ.out wr HWw.out).2 HNZ.out.2.1 hlt
   have e12 : d2 = d1:=by
    rw [HNZ.out.2.2,at2] at at1
    exact Option.some.inj at1
   subst e12
   have sm : SmD 1000000 d2:=(HSM.out d2 (List.mem_of_getElem? at2)).mono (by omega)
   have C8:=s_decl wr.drew (ok1.below (Below.refl _ _).drew) (ok2.below (Below.refl _ _).drew) sm
   rw [et1,ee1,et2,ee2] at C8
   obtain ⟨kd,hkd⟩:=xe (d2.kind)
   obtain ⟨nm,hnm⟩:=xe (d2.nm)
   rw [<- hkd,<- hnm] at C8
   rw [<- hkd] at u0 q0
   rw [<- hnm] at u1 q1
   have HC8:=hidF C8
   rw [ez] at z1
   rw [ex] at z2
   have HCC : Hid (∀ W,Bw wr W -> W.cell? ⟨w.heap.size,0,none⟩ = some (.slice (some ⟨g1,0,none⟩) nz c1) /\ W.cell? ⟨w.heap.size + 1,0,none⟩ = some (.slice (some ⟨g2,0,none⟩) nz c2) /\ W.cell? ⟨g1,k * 4,none⟩ = some (.int .i64 kd) /\ W.cell? ⟨g1,k * 4 + 1,none⟩ = some (.string nm) /\ W.cell? ⟨g1,k * 4 + 2,none⟩ = some (.slice ta1 tn1 tc1) /\ W.cell? ⟨g1,k * 4 + 3,none⟩ = some (.slice ea1 en1 ec1) /\ W.cell? ⟨g2,k * 4,none⟩ = some (.int .i64 kd) /\ W.cell? ⟨g2,k * 4 + 1,none⟩ = some (.string nm) /\ W.cell? ⟨g2,k * 4 + 2,none⟩ = some (.slice ta2 tn2 tc2) /\ W.cell? ⟨g2,k * 4 + 3,none⟩ = some (.slice ea2 en2 ec2)):=fun W hb=>by
    have cp : ∀ {b o : Nat} {v : Value},wr.cell? ⟨b,o,none⟩ = some v -> W.cell? ⟨b,o,none⟩ = some v:=fun {b o v} h=>(hb.cell (p:=⟨b,o,none⟩) (blt h)).trans h
    exact ⟨cp z1,cp z2,cp u0,cp u1,cp u2,cp u3,cp q0,cp q1,cp q2,cp q3⟩
   clear C8 sm ok1 ok2 et1 ee1 et2 ee2 at1 at2 hkd hnm ez ex
   go_wp2
   go_region_held3 (fun wq=>wq.cell? ⟨w.heap.size,0,none⟩ = some (.slice (some ⟨g1,0,none⟩) nz c1) /\ wq.cell? ⟨w.heap.size + 1,0,none⟩ = some (.slice (some ⟨g2,0,none⟩) nz c2) /\ wq.cell? ⟨g1,k * 4,none⟩ = some (.int .i64 kd) /\ wq.cell? ⟨g1,k * 4 + 1,none⟩ = some (.string nm) /\ wq.cell? ⟨g1,k * 4 + 2,none⟩ = some (.slice ta1 tn1 tc1) /\ wq.cell? ⟨g1,k * 4 + 3,none⟩ = some (.slice ea1 en1 ec1) /\ wq.cell? ⟨g2,k * 4,none⟩ = some (.int .i64 kd) /\ wq.cell? ⟨g2,k * 4 + 1,none⟩ = some (.string nm) /\ wq.cell? ⟨g2,k * 4 + 2,none⟩ = some (.slice ta2 tn2 tc2) /\ wq.cell? ⟨g2,k * 4 + 3,none⟩ = some (.slice ea2 en2 ec2)) (go_keep) ((go_at_call 22;(with_reducible refine HC8.out.mono ?_);rintro e9 w9 ⟨rfl,hb9⟩;have HB9 : Hid (Bw wr w9):=(Below.refl _ _).drew.trans hb9;clear hb9;obtain ⟨r8,r9,r0,r1,r2,r3,r4,r5,r6,r7⟩:=HCC.out w9 HB9.out))
   all_goals
    clear r0 r1 r2 r3 r4 r5 r6 r7 r8 r9
    have HW9 : Hid (Bw W2 w9):=HW.out.trans (HB9.out.mono HW.out.size)
    go_wp2
    refine ⟨⟨k + 1,by omega,by go_num,HW9⟩,by simp [intOf];omega⟩
  ·have lk : ¬ (k : Int) < (nz : Int):=by omega
   go_wp2
   go_ret
   exact ⟨rfl,HWw.out⟩
theorem MS.all {w : World} {tb : Nat} {ao : Option Addr} {ts : List TK} (h : MS w tb 0 ao ts) {k : Nat} (hk : k < ts.length) : ao = some ⟨tb,0,none⟩ /\ w.cell? ⟨tb,k * 3,none⟩ = some (.int .i64 (tkA ts k).cls) /\ w.cell? ⟨tb,k * 3 + 1,none⟩ = some (.string (tkA ts k).txt) /\ w.cell? ⟨tb,k * 3 + 2,none⟩ = some (.int .i64 ((tkA ts k).loc : Int)):=by
 have h0:=h.1.c0 k hk
 have h1:=h.1.c1 k hk
 have h2:=h.1.c2 k hk
 rw [Nat.zero_add] at h0 h1 h2
 exact ⟨h.2 (by omega),h0,h1,h2⟩
structure Spc (ts : List TK) (k : Nat) (y : ByteArray) (bd : Bool) (l : List (TK × ByteArray)) : Prop where
 is : l.map Prod.fst = ts.take k
 text : y = spc l
 sep : ∀ x,x ∈ l -> Sep x.2
 cls : bd = false -> ∀ x,x ∈ l -> x.1.cls ≠ 0
theorem Spc.step {ts : List TK} {k : Nat} {y x : ByteArray} {bd bd' : Bool} {l : List (TK × ByteArray)} (h : Spc ts k y bd l) (hk : k < ts.length) (hx : Sep x) (hb : bd' = false -> bd = false /\ (tkA ts k).cls ≠ 0) : Spc ts (k + 1) (y ++ (tkA ts k).txt ++ x) bd' (l ++ [(tkA ts k,x)]):=by
 have e : tkA ts k = ts[k]:=by unfold tkA;rw [List.getD_eq_getElem?_getD,List.getElem?_eq_getElem hk];rfl
 refine ⟨?_,?_,fun z hz=>?_,fun hf z hz=>?_⟩
 ·rw [List.map_append,h.is,List.take_add_one,List.getElem?_eq_getElem hk,e];rfl
 ·rw [spc_snoc,h.text]
 ·rcases List.mem_append.1 hz with a | a
  ·exact h.sep z a
  ·rw [ms1 a];exact hx
 ·rcases List.mem_append.1 hz with a | a
  ·exact h.cls (hb hf).1 z a
  ·rw [ms1 a];exact (hb hf).2
theorem er_at {a b : List TK} (h : er a = er b) {k : Nat} (hk : k < b.length) : k < a.length /\ (tkA a k).cls = (tkA b k).cls /\ (tkA a k).txt = (tkA b k).txt:=by
 have hl : a.length = b.length:=by have:=congrArg List.length h;rw [er_len,er_len] at this;exact this
 have hka : k < a.length:=by omega
 have e:=congrArg (fun l=>l[k]?) h
 simp only [er_get,List.getElem?_eq_getElem hka,List.getElem?_eq_getElem hk,Option.map_some,Option.some.injEq,TK.mk.injEq] at e
 refine ⟨hka,?_,?_⟩
 ·unfold tkA
  rw [List.getD_eq_getElem?_getD,List.getD_eq_getElem?_getD,List.getElem?_eq_getElem hka,List.getElem?_eq_getElem hk]
  exact e.1
 ·unfold tkA
  rw [List.getD_eq_getElem?_getD,List.getD_eq_getElem?_getD,List.getElem?_eq_getElem hka,List.getElem?_eq_getElem hk]
  exact e.2.1
theorem l_Spaces (w : World) {ca ma : Option Addr} {cb co Ln cc mb mo Mn mc : Nat} {C D : Nat -> Nat} (hC : BytesAt w ca cb co Ln C) (hD : BytesAt w ma mb mo Mn D) (m : Int) (hm : w.cell? ⟨1,0,none⟩ = some (.int .i64 m)) {eT : TypeId} {eV : Value} (hev : w.cell? ⟨0,0,none⟩ = some (.iface eT eV)) :
  Calls Tryz.prog 5 #[.slice ca Ln cc,.slice ma Mn mc] w fun e w'=>e = .returned (.bool true) /\ Bw w w':=by
 have lC:=hC.len
 have lD:=hD.len
 by_cases hb1 : (1048576 : Int) < (Ln : Int)
 ·clear hC hD hm hev
  go_enter Tryz.func5,Tryz.ntmps5
  go_wp2
  go_ret
  exact ⟨rfl,Below.refl _ _⟩
 by_cases hb2 : (1048576 : Int) < (Mn : Int)
 ·clear hC hD hm hev
  go_enter Tryz.func5,Tryz.ntmps5
  go_wp2
  go_ret
  exact ⟨rfl,Below.refl _ _⟩
 have h0:=blt hev
 have h1:=blt hm
 have CP : Hid (∀ s W,s.size <= 2000 -> Bw w W -> Calls Tryz.prog 8 #[.string s] W (ModR W (decs true ((toks s).length + 1) (toks s)))):=fun s W hs hb=>p_parse s m W (by omega) ((hb.cell (p:=⟨1,0,none⟩) h1).trans hm) (eT:=eT) (eV:=eV) ((hb.cell (p:=⟨0,0,none⟩) h0).trans hev)
 have CT : Hid (∀ s W,s.size <= 2000 -> Bw w W -> Calls Tryz.prog 18 #[.string s] W fun e w'=>∃ (ao : Option Addr) (c tb : Nat),e = .returned (.slice ao (toks s).length c) /\ Hid (∀ W,Bw w' W -> MS W tb 0 ao (toks s)) /\ Hid (Bw W w')):=fun s W hs hb=>d_ptoks s m W (by omega) ((hb.cell (p:=⟨1,0,none⟩) h1).trans hm)
 have HDD : Hid (∀ W,Bw w W -> BytesAt W ma mb mo Mn D):=fun W hb=>hD.below hb
 have C1:=d_tokens w hC (cc:=cc) (by omega)
 clear hC hD hm hev h0 h1
 go_enter Tryz.func5,Tryz.ntmps5
 go_wp2_with fail
 refine C1.mono ?_
 rintro e w1 ⟨⟨s,rfl,hs⟩,HB1⟩
 clear C1
 have C2:=d_toks s w1 (by omega)
 have HOK : Hid (TkOK (toks s)):=toks_ok s
 have HSM : Hid (∀ d,d ∈ decs false ((toks s).length + 1) (toks s) -> SmD 1000 d):=fun d hd=>((decs_sm false _ _).2 d hd).mono (toks_len s)
 have HFW : Hid ((decs false ((toks s).length + 1) (toks s)).length <= 1000):=Nat.le_trans (decs_sm false _ _).1 (toks_len s)
 have hl:=toks_len s
 obtain ⟨ts,hts⟩:=xe (toks s)
 have HTS : Hid (ts = toks s):=hts
 rw [<- hts] at C2 HOK hl
 clear hts
 go_wp2_with fail
 refine C2.mono ?_
 rintro e w2 ⟨ao,c2,tb,rfl,HM1,HB12⟩
 have HB2 : Hid (Bw w w2):=HB1.out.trans (HB12.out.mono HB1.out.size)
 clear C2
 have C3:=CT.out s w2 hs HB2.out
 rw [<- HTS.out] at C3
 go_wp2_with fail
 refine C3.mono ?_
 rintro e w3 ⟨ao2,c3,tb2,rfl,HM2,HB23⟩
 have HB3 : Hid (Bw w w3):=HB2.out.trans (HB23.out.mono HB2.out.size)
 clear C3
 obtain ⟨N,hN⟩:=xe (ts.length)
 have HN : Hid (N = ts.length):=hN
 rw [<- hN] at hl
 rw [<- hN]
 have nez : ((N : Int) != (N : Int)) = false:=by simp
 clear hN
 go_wp2
 go_loopw [8,9,10] (fun v bv i wr=>∃ (k : Nat) (y : ByteArray) (bd : Bool),k <= N /\ i = .int .i64 k /\ v = .string y /\ bv = .bool bd /\ y.size <= k * 1010 /\ Hid (∃ l,Spc ts k y bd l) /\ Hid (Bw w3 wr)) (fun _ _ i _=>N - (intOf i).toNat)
 case atStart=>exact ⟨0,⟨#[]⟩,false,Nat.zero_le _,rfl,rfl,rfl,by decide,⟨[],rfl,rfl,(fun x hx=>by cases hx),(fun _ x hx=>by cases hx)⟩,Below.refl _ _⟩
 case round=>
  obtain ⟨k,y,bd,hk,rfl,rfl,rfl,hyk,HSP,HW⟩:=hrel
  have hk2 : k * 1010 <= 1000 * 1010:=Nat.mul_le_mul_right _ (by omega)
  have hk3 : (k + 1) * 1010 = k * 1010 + 1010:=Nat.succ_mul _ _
  have HWw : Hid (Bw w wr):=HB3.out.trans (HW.out.mono HB3.out.size)
  by_cases hlt : k < N
  ·have lk : (k : Int) < (N : Int):=by omega
   have lk0 : (0 : Int) <= (k : Int):=by omega
   have hkt : k < ts.length:=by have:=HN.out;omega
   obtain ⟨ea,p0,p1,p2⟩:=(HM1.out wr (HB23.out.trans (HW.out.mono HB23.out.size))).all hkt
   obtain ⟨eb,r0,r1,r2⟩:=(HM2.out wr HW.out).all hkt
   have g1 : tkA ts k ∈ ts:=by unfold tkA;rw [List.getD_eq_getElem?_getD,List.getElem?_eq_getElem hkt];exact List.getElem_mem hkt
   have sx:=HOK.out.sz _ g1
   obtain ⟨cl,hcl⟩:=xe ((tkA ts k).cls)
   obtain ⟨x,hx⟩:=xe ((tkA ts k).txt)
   obtain ⟨lc,hlc⟩:=xe (((tkA ts k).loc : Int))
   rw [<- hcl] at p0 r0
   rw [<- hx] at p1 r1 sx
   rw [<- hlc] at p2 r2
   have HST : Hid (∀ (z : ByteArray) (bd' : Bool),Sep z -> (bd' = false -> bd = false /\ cl ≠ 0) -> ∃ l,Spc ts (k + 1) (y ++ x ++ z) bd' l):=fun z bd' hz hb=>by
    obtain ⟨l,S⟩:=HSP.out
    exact ⟨_,by rw [hx];exact S.step hkt hz (by rw [<- hcl];exact hb)⟩
   have CK:=l_pick wr (HDD.out wr HWw.out) (mc:=mc) (i:=k) (by omega)
   have HKP : Hid (∀ j,Calls Tryz.prog 19 #[.slice ma Mn mc,.int .i64 (k : Int)] (wr.drewN j) fun e w'=>e = .returned (.int .i64 (pkv D Mn k : Int)) /\ wr.drewN j = w'):=fun j=>l_pick (wr.drewN j) ((HDD.out wr HWw.out).below (below_dn _ _)) (mc:=mc) (i:=k) (by omega)
   obtain ⟨pk,hpk⟩:=xe (pkv D Mn k)
   rw [<- hpk] at HKP
   have m4 : Int.tmod (pk : Int) 4 = ((pk % 4 : Nat) : Int):=tmodN pk 4
   obtain ⟨p4,hp4⟩:=xe (pk % 4)
   rw [<- hp4] at m4
   have s1 : (⟨#[35,59,10]⟩ : ByteArray).size = 3:=rfl
   have s2 : (⟨#[10]⟩ : ByteArray).size = 1:=rfl
   have s3 : (⟨#[32]⟩ : ByteArray).size = 1:=rfl
   have a1:=rsa y x (by omega)
   have sy2 : (y ++ x).size <= k * 1010 + 1000:=by rw [bsa];omega
   obtain ⟨y2,hy2⟩:=xe (y ++ x)
   rw [<- hy2] at a1 sy2 HST
   have a2:=rsa y2 (⟨#[35,59,10]⟩ : ByteArray) (by rw [s1];omega)
   have a3:=rsa y2 (⟨#[10]⟩ : ByteArray) (by rw [s2];omega)
   have a4:=rsa y2 (⟨#[32]⟩ : ByteArray) (by rw [s3];omega)
   rw [ea,eb]
   clear g1 hcl hx hlc hpk hp4 hy2 CK ea eb
   have HEND : Hid (∀ (z : ByteArray) (bd' : Bool) (W : World),Sep z -> z.size <= 3 -> (bd' = false -> bd = false /\ cl ≠ 0) -> Bw wr W -> (∃ (k' : Nat) (y' : ByteArray) (b' : Bool),k' <= N /\ Value.int .i64 ((k : Int) + 1) = .int .i64 k' /\ Value.string (y2 ++ z) = .string y' /\ Value.bool bd' = .bool b' /\ y'.size <= k' * 1010 /\ Hid (∃ l,Spc ts k' y' b' l) /\ Hid (Bw w3 W)) /\ N - (k + 1) < N - k):=fun z bd' W hz hz3 hb hB=>⟨⟨k + 1,y2 ++ z,bd',by omega,by go_num,rfl,rfl,by rw [bsa];omega,HST.out z bd' hz hb,HW.out.trans (hB.mono HW.out.size)⟩,by omega⟩
   go_wp2
   go_quiet (fail)
   obtain ⟨w4,hw4⟩:=xe (wr.drewN nq)
   have CK4:=HKP.out nq
   rw [<- hw4] at CK4
   rw [<- hw4]
   have HB4 : Hid (Bw wr w4):=by rw [hw4];exact below_dn _ _
   clear hw4 HKP r0 r1 r2
   have cp : ∀ {b o : Nat} {v : Value},wr.cell? ⟨b,o,none⟩ = some v -> w4.cell? ⟨b,o,none⟩ = some v:=fun {b o v} h=>(HB4.out.cell (p:=⟨b,o,none⟩) (blt h)).trans h
   have p0':=cp p0
   have p1':=cp p1
   clear cp p0 p1 p2
   by_cases hc0 : cl = 0
   ·have bc : (cl == 0) = true:=beq_iff_eq.2 hc0
    clear hc0
    by_cases h0 : p4 = 0
    ·subst h0
     go_wp2_with (first | (go_at_call 19;refine CK4.mono ?_;rintro e w5 ⟨rfl,rfl⟩))
     exact HEND.out _ true _ (Or.inr (Or.inr rfl)) (by decide) (fun h=>by cases h) HB4.out
    ·have b0 : ((p4 : Int) == 0) = false:=bn2 (by omega)
     by_cases h1 : p4 = 1
     ·subst h1
      clear h0
      go_wp2_with (first | (go_at_call 19;refine CK4.mono ?_;rintro e w5 ⟨rfl,rfl⟩))
      exact HEND.out _ true _ (Or.inr (Or.inl rfl)) (by decide) (fun h=>by cases h) HB4.out
     ·have b1 : ((p4 : Int) == 1) = false:=bn2 (by omega)
      clear h0 h1
      go_wp2_with (first | (go_at_call 19;refine CK4.mono ?_;rintro e w5 ⟨rfl,rfl⟩))
      exact HEND.out _ true _ (Or.inl rfl) (by decide) (fun h=>by cases h) HB4.out
   ·have bc : (cl == 0) = false:=bn2 hc0
    have HC0 : Hid (cl ≠ 0):=hc0
    clear hc0
    by_cases h0 : p4 = 0
    ·subst h0
     go_wp2_with (first | (go_at_call 19;refine CK4.mono ?_;rintro e w5 ⟨rfl,rfl⟩))
     exact HEND.out _ bd _ (Or.inr (Or.inr rfl)) (by decide) (fun h=>⟨h,HC0.out⟩) HB4.out
    ·have b0 : ((p4 : Int) == 0) = false:=bn2 (by omega)
     by_cases h1 : p4 = 1
     ·subst h1
      clear h0
      go_wp2_with (first | (go_at_call 19;refine CK4.mono ?_;rintro e w5 ⟨rfl,rfl⟩))
      exact HEND.out _ bd _ (Or.inr (Or.inl rfl)) (by decide) (fun h=>⟨h,HC0.out⟩) HB4.out
     ·have b1 : ((p4 : Int) == 1) = false:=bn2 (by omega)
      clear h0 h1
      go_wp2_with (first | (go_at_call 19;refine CK4.mono ?_;rintro e w5 ⟨rfl,rfl⟩))
      exact HEND.out _ bd _ (Or.inl rfl) (by decide) (fun h=>⟨h,HC0.out⟩) HB4.out
  ·have lk : ¬ (k : Int) < (N : Int):=by omega
   have hkn : k = N:=by omega
   subst hkn
   clear hlt
   have hys : y.size <= 1010000:=by omega
   have HD2 : Hid (decs true ((toks s).length + 1) (toks s) = decs false ((toks s).length + 1) (toks s)):=decs_same _ _
   have C5:=s_parse s wr (by omega)
   obtain ⟨ds,hds⟩:=xe (decs false ((toks s).length + 1) (toks s))
   have HDS : Hid (ds = decs false ((toks s).length + 1) (toks s)):=hds
   rw [<- hds] at C5 HSM HFW HD2
   clear hds
   go_wp2_with fail
   refine C5.mono ?_
   rintro e w5 ⟨b5,v5,xs,rfl,r5,e5⟩
   obtain ⟨xa,xc,rfl⟩:=own_form r5.own
   obtain ⟨nx,hnx⟩:=xe (xs.length)
   obtain ⟨W6,hW6⟩:=xe (w5.alloc (.cells #[.slice xa nx xc] 24))
   have HB56 : Hid (Bw w5 W6):=by rw [hW6];exact bel1 _ _
   have HBr5 : Hid (Bw wr w5):=b5
   have HB6 : Hid (Bw w W6):=HWw.out.trans ((b5.trans (HB56.out.mono b5.size)).mono HWw.out.size)
   have HRX : Hid (W6.rowIs w5.heap.size 24 1 (fun _=>.slice xa nx xc)):=by rw [hW6];exact row1 _ _ _
   have HMC : Hid (∀ W,Bw W6 W -> W.cell? ⟨w5.heap.size,0,none⟩ = some (.slice xa nx xc)):=fun W hb=>(HRX.out.of_block (hb.block _ HRX.out.lt)).cell (i:=0) (by omega)
   have HSA : Hid (∀ (W : World) (B : Nat) (za : Option Addr) (zc : Nat) (zs : List (DC × DPl)),Bw W6 W -> RD B W (.slice za zs.length zc) zs -> zs.map Prod.fst = ds -> Calls Tryz.prog 15 #[.agg #[.slice za zs.length zc],.agg #[.slice xa nx xc]] W fun e w'=>e = .returned (.bool true) /\ Bw W w'):=fun W B za zc zs hb hz he=>by
    rw [hnx]
    exact s_module W hz (r5.below (HB56.out.trans (hb.mono HB56.out.size))) (he.trans e5.symm) (by rw [e5];exact HSM.out) (by have h:=congrArg List.length he;rw [List.length_map] at h;rw [h];exact HFW.out)
   rw [<- hnx]
   clear C5 b5 r5 e5 hnx HSM HFW
   go_upto_region 24 with fail
   rw [<- hW6]
   clear hW6
   have CP1 : Hid (Calls Tryz.prog 8 #[.string s] W6.drew (ModR W6.drew ds)):=by
    have h:=CP.out s W6.drew hs HB6.out.drew
    rw [HD2.out] at h
    exact h
   have z0:=HMC.out W6 (Below.refl _ _)
   go_region_held3 (fun wq=>wq.cell? ⟨w5.heap.size,0,none⟩ = some (.slice xa nx xc)) (go_keep) (first
    | (go_at_call 8;(with_reducible refine CP1.out.mono ?_);rintro e7 w7 ⟨b7,v7,zs,rfl,o7,e7⟩;obtain ⟨za,zc,rfl⟩:=own_form o7.own;have HB67 : Hid (Bw W6 w7):=(Below.refl _ _).drew.trans b7;have z7:=HMC.out w7 HB67.out;have CS7:=hidF (HSA.out w7 _ za zc zs HB67.out o7.rd e7);clear b7 o7 e7)
    | (go_at_call 15;(with_reducible refine CS7.out.mono ?_);rintro e8 w8 ⟨rfl,b8⟩;have HB68 : Hid (Bw W6 w8):=HB67.out.trans (b8.mono HB67.out.size);have z8:=HMC.out w8 HB68.out;clear b8))
   all_goals
    have HB8 : Hid (Bw w w8):=HB6.out.trans (HB68.out.mono HB6.out.size)
    clear CS7 z7 CP1 z0
    cases bd
    case true=>
     go_wp2
     go_ret
     exact ⟨rfl,HB8.out⟩
    case false=>
     by_cases hbig : (1000 : Int) < (y.size : Int)
     ·go_wp2
      go_ret
      exact ⟨rfl,HB8.out⟩
     ·have hy1 : y.size <= 1000:=by omega
      have HER : Hid (er (toks y) = er ts /\ decs true ((toks y).length + 1) (toks y) = ds):=by
       obtain ⟨l,S⟩:=HSP.out
       have his:=S.is
       rw [HN.out,List.take_length,HTS.out] at his
       have h:=spc_same true his S.text hy1 (S.cls rfl) S.sep
       rw [HTS.out,h.2,HD2.out]
       exact ⟨h.1,rfl⟩
      have hly : (toks y).length = k:=by
       have h:=congrArg List.length HER.out.1
       rw [er_len,er_len] at h
       rw [h,HN.out]
      have C9:=CT.out y w8 (by omega) HB8.out
      rw [hly] at C9
      go_wp2_with fail
      refine C9.mono ?_
      rintro e9 w9 ⟨ao9,c9,tb9,rfl,HM9,HB89⟩
      have HB9 : Hid (Bw w w9):=HB8.out.trans (HB89.out.mono HB8.out.size)
      have HB69 : Hid (Bw W6 w9):=HB68.out.trans (HB89.out.mono HB68.out.size)
      have HW9 : Hid (Bw w2 w9):=by
       have h3 : Bw w3 W6:=HW.out.trans ((HBr5.out.trans (HB56.out.mono HBr5.out.size)).mono HW.out.size)
       exact HB23.out.trans ((h3.trans (HB69.out.mono h3.size)).mono HB23.out.size)
      have HLY : Hid ((toks y).length = k):=hly
      clear C9 z8 hly
      go_wp2
      go_loopw [13] (fun i wr=>∃ j : Nat,j <= k /\ i = .int .i64 j /\ Hid (Bw w9 wr)) (fun i _=>k - (intOf i).toNat)
      case atStart=>exact ⟨0,Nat.zero_le _,rfl,Below.refl _ _⟩
      case round=>
       rename World=>wr
       obtain ⟨j,hj,rfl,HV⟩:=hrel
       by_cases hlt : j < k
       ·have lj : (j : Int) < (k : Int):=by omega
        have lj0 : (0 : Int) <= (j : Int):=by omega
        have hjt : j < ts.length:=by have:=HN.out;omega
        obtain ⟨hja,ecl,ett⟩:=er_at HER.out.1 hjt
        obtain ⟨ea,p0,p1,p2⟩:=(HM1.out wr (HW9.out.trans (HV.out.mono HW9.out.size))).all hjt
        obtain ⟨eb,r0,r1,r2⟩:=(HM9.out wr HV.out).all hja
        rw [ecl] at r0
        rw [ett] at r1
        obtain ⟨cl,hcl⟩:=xe ((tkA ts j).cls)
        obtain ⟨x,hx⟩:=xe ((tkA ts j).txt)
        rw [<- hcl] at p0 r0
        rw [<- hx] at p1 r1
        rw [ea,eb]
        clear p2 r2 hcl hx ecl ett ea eb
        go_wp2
        go_quiet (fail)
        go_wp2
        refine ⟨⟨j + 1,by omega,by go_num,HV.out.trans ((below_dn _ _).mono HV.out.size)⟩,by simp [intOf];omega⟩
       ·have lj : ¬ (j : Int) < (k : Int):=by omega
        have HBV : Hid (Bw w wr):=HB9.out.trans (HV.out.mono HB9.out.size)
        have HB6V : Hid (Bw W6 wr):=HB69.out.trans (HV.out.mono HB69.out.size)
        have CP2 : Hid (Calls Tryz.prog 8 #[.string y] wr.drew (ModR wr.drew ds)):=by
         have h:=CP.out y wr.drew (by omega) HBV.out.drew
         rw [HER.out.2] at h
         exact h
        have z0:=HMC.out wr HB6V.out
        go_wp2
        go_region_held3 (fun wq=>wq.cell? ⟨w5.heap.size,0,none⟩ = some (.slice xa nx xc)) (go_keep) (first
         | (go_at_call 8;(with_reducible refine CP2.out.mono ?_);rintro eA wA ⟨bA,vA,us,rfl,oA,eA⟩;obtain ⟨ua,uc,rfl⟩:=own_form oA.own;have HBA : Hid (Bw W6 wA):=HB6V.out.drew.trans (bA.mono HB6V.out.size);have HBAw : Hid (Bw w wA):=HBV.out.drew.trans (bA.mono HBV.out.size);have zA:=HMC.out wA HBA.out;have CSA:=hidF (HSA.out wA _ ua uc us HBA.out oA.rd eA);clear bA oA eA)
         | (go_at_call 15;(with_reducible refine CSA.out.mono ?_);rintro eB wB ⟨rfl,bB⟩;have HBB : Hid (Bw w wB):=HBAw.out.trans (bB.mono HBAw.out.size);have zB:=HMC.out wB (HBA.out.trans (bB.mono HBA.out.size));clear bB))
        all_goals
         go_wp2
         go_ret
         exact ⟨rfl,HBB.out⟩
end Go.Proofs.YtcehppndpccldaaGreatDoor
