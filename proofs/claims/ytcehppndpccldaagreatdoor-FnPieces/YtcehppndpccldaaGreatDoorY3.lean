/-
  QeA
-/
import Derived.Test.YtcehppndpccldaaGreatDoorY1
import Derived.Test.YtcehppndpccldaaGreatDoorY2
set_option maxHeartbeats 4000000
set_option maxRecDepth 100000
namespace Go.Proofs.YtcehppndpccldaaGreatDoor
open Go.RowKit
theorem rd_cells {B : Nat} {w : World} {a : Option Addr} {c n : Nat} {xs : List (DC × DPl)} (h : RD B w (.slice a xs.length c) xs) (hn : n = xs.length) {k : Nat} (hk : k < n) : ∃ (g : Nat) (d : DC) (p : DPl) (ta : Option Addr) (tn tc : Nat) (ea : Option Addr) (en ec : Nat),a = some ⟨g,0,none⟩ /\ w.cell? ⟨g,k * 4,none⟩ = some (.int .i64 d.kind) /\ w.cell? ⟨g,k * 4 + 1,none⟩ = some (.string d.nm) /\ w.cell? ⟨g,k * 4 + 2,none⟩ = some (.slice ta tn tc) /\ w.cell? ⟨g,k * 4 + 3,none⟩ = some (.slice ea en ec) /\ p.tv = .slice ta tn tc /\ p.ev = .slice ea en ec /\ RdOK B w d p /\ (xs.map Prod.fst)[k]? = some d:=by
 subst hn
 obtain ⟨g,gc,ev,_⟩:=own_blk h.own (show 0 < xs.length by omega)
 simp only [Value.slice.injEq] at ev
 obtain ⟨rfl,-,rfl⟩:=ev
 have hx:=List.getElem_mem hk
 have ok:=h.ok _ hx
 obtain ⟨ta,tc,e1⟩:=own_form ok.ty.own
 obtain ⟨ea,ec,e2⟩:=own_form ok.ex.own
 refine ⟨g,xs[k].1,xs[k].2,ta,_,tc,ea,_,ec,rfl,own_at (f:=dcC) dcC_len h.own (j:=k) (r:=0) rfl hk (by omega) rfl,own_at (f:=dcC) dcC_len h.own rfl hk (by omega) rfl,own_at (f:=dcC) dcC_len h.own rfl hk (by omega) (by rw [<- e1];rfl),own_at (f:=dcC) dcC_len h.own rfl hk (by omega) (by rw [<- e2];rfl),e1,e2,ok,?_⟩
 rw [List.getElem?_map,List.getElem?_eq_getElem hk]
 rfl
theorem ended_size (s : ByteArray) : (ended s).size <= s.size + 2:=by
 unfold ended
 split
 ·rw [bsa];show s.size + 1 <= _;omega
 ·rw [bsa];show s.size + 2 <= _;omega
theorem l_Pieces (w : World) {ca ma : Option Addr} {cb co Ln cc mb mo Mn mc : Nat} {C D : Nat -> Nat} (hC : BytesAt w ca cb co Ln C) (hD : BytesAt w ma mb mo Mn D) (m : Int) (hm : w.cell? ⟨1,0,none⟩ = some (.int .i64 m)) {eT : TypeId} {eV : Value} (hev : w.cell? ⟨0,0,none⟩ = some (.iface eT eV)) :
  Calls Tryz.prog 6 #[.slice ca Ln cc,.slice ma Mn mc] w fun e w'=>e = .returned (.bool true) /\ Bw w w':=by
 have lC:=hC.len
 have lD:=hD.len
 by_cases hb1 : (1048576 : Int) < (Ln : Int)
 ·clear hC hD hm hev
  go_enter Tryz.func6,Tryz.ntmps6
  go_wp2
  go_ret
  exact ⟨rfl,Below.refl _ _⟩
 by_cases hb2 : (1048576 : Int) < (Mn : Int)
 ·clear hC hD hm hev
  go_enter Tryz.func6,Tryz.ntmps6
  go_wp2
  go_ret
  exact ⟨rfl,Below.refl _ _⟩
 have h0:=blt hev
 have h1:=blt hm
 have CP : Hid (∀ s W,s.size <= 1000 -> Bw w W -> Calls Tryz.prog 8 #[.string s] W (ModR W (decs true ((toks s).length + 1) (toks s)))):=fun s W hs hb=>p_parse s m W (by omega) ((hb.cell (p:=⟨1,0,none⟩) h1).trans hm) (eT:=eT) (eV:=eV) ((hb.cell (p:=⟨0,0,none⟩) h0).trans hev)
 have HCD : Hid (∀ W,Bw w W -> BytesAt W ca cb co Ln C /\ BytesAt W ma mb mo Mn D):=fun W hb=>⟨hC.below hb,hD.below hb⟩
 have C1:=d_parse w hC (cc:=cc) (by omega)
 clear hC hD hm hev h0 h1
 go_enter Tryz.func6,Tryz.ntmps6
 go_wp2_with fail
 refine C1.mono ?_
 rintro e w1 ⟨⟨s,rfl,hs⟩,HB1⟩
 clear C1
 have C2:=l_ended w1 s (by omega)
 go_wp2_with fail
 refine C2.mono ?_
 rintro e w2 ⟨rfl,hb2'⟩
 have HB2 : Hid (Bw w w2):=HB1.out.trans (hb2'.mono HB1.out.size)
 clear C2 hb2'
 have zA:=ended_size s
 obtain ⟨A,hA⟩:=xe (ended s)
 have HA : Hid (A = ended s):=hA
 rw [<- hA] at zA
 rw [<- hA]
 clear hA
 have C3:=d_parse w2 (HCD.out w2 HB2.out).2 (cc:=mc) (by omega)
 go_wp2_with fail
 refine C3.mono ?_
 rintro e w3 ⟨⟨t,rfl,ht⟩,HB3⟩
 clear C3
 have C4:=l_ended w3 t (by omega)
 go_wp2_with fail
 refine C4.mono ?_
 rintro e w4 ⟨rfl,hb4⟩
 have HB4 : Hid (Bw w w4):=HB2.out.trans ((HB3.out.trans (hb4.mono HB3.out.size)).mono HB2.out.size)
 clear C4 hb4 HB3 HB1
 have zB:=ended_size t
 obtain ⟨B,hB⟩:=xe (ended t)
 have HBB : Hid (B = ended t):=hB
 rw [<- hB] at zB
 rw [<- hB]
 clear hB
 have ws : IntKind.i64.wrap ((A.size : Int) + (B.size : Int)) = (A.size : Int) + (B.size : Int):=wk (by omega)
 by_cases hbig : (1000 : Int) < (A.size : Int) + (B.size : Int)
 ·go_wp2
  go_ret
  exact ⟨rfl,HB4.out⟩
 have hAB : (A ++ B).size <= 1000:=by rw [bsa];omega
 have HEQ : Hid (decs true ((toks (A ++ B)).length + 1) (toks (A ++ B)) = decs false ((toks A).length + 1) (toks A) ++ decs false ((toks B).length + 1) (toks B)):=by
  show _ = _
  rw [HA.out,HBB.out,decs_pieces true s t (by rw [<- HA.out,<- HBB.out];omega),decs_same,decs_same]
 have HSM : Hid (∀ d,d ∈ decs true ((toks (A ++ B)).length + 1) (toks (A ++ B)) -> SmD 1000 d):=fun d hd=>((decs_sm true _ _).2 d hd).mono (toks_len _)
 have HFW : Hid ((decs true ((toks (A ++ B)).length + 1) (toks (A ++ B))).length <= 1000):=Nat.le_trans (decs_sm true _ _).1 (toks_len _)
 have C5:=s_parse A w4 (by omega)
 obtain ⟨dA,hdA⟩:=xe (decs false ((toks A).length + 1) (toks A))
 obtain ⟨dB,hdB⟩:=xe (decs false ((toks B).length + 1) (toks B))
 have C6 : Hid (∀ W,Calls Tryz.prog 7 #[.string B] W (SModR W dB)):=fun W=>by rw [hdB];exact s_parse B W (by omega)
 rw [<- hdA] at C5 HEQ
 rw [<- hdB] at HEQ
 have a1:=rsa A B (by omega)
 have C7 : Hid (∀ W,Bw w W -> Calls Tryz.prog 8 #[.string (A ++ B)] W (ModR W (dA ++ dB))):=fun W hb=>by
  have h:=CP.out (A ++ B) W hAB hb
  rw [HEQ.out] at h
  exact h
 rw [HEQ.out] at HSM HFW
 clear hdA hdB HEQ CP HA HBB
 go_wp2_with fail
 refine C5.mono ?_
 rintro e w5 ⟨b5,v5,xs,rfl,r5,e5⟩
 obtain ⟨xa,xc,rfl⟩:=own_form r5.own
 obtain ⟨nx,hnx⟩:=xe (xs.length)
 have HX : Hid (∀ W,Bw w5 W -> RD w4.heap.size W (.slice xa xs.length xc) xs):=fun W hb=>r5.below hb
 have HNX : Hid (nx = xs.length /\ xs.map Prod.fst = dA):=⟨hnx,e5⟩
 have HB5 : Hid (Bw w w5):=HB4.out.trans (b5.mono HB4.out.size)
 rw [<- hnx]
 clear C5 b5 r5 e5 hnx
 have fld : ∀ (u : Value) (W : World),(Instr.field 24 (.agg #[u]) 0).run Tryz.prog W = .ok u W:=fun u W=>by kernel_rfl
 go_wp2_with fail
 refine (C6.out _).mono ?_
 rintro e w6 ⟨b6,v6,ys,rfl,r6,e6⟩
 obtain ⟨ya,yc,rfl⟩:=own_form r6.own
 obtain ⟨ny,hny⟩:=xe (ys.length)
 have HY : Hid (∀ W,Bw w6 W -> RD w5.heap.size W (.slice ya ys.length yc) ys):=fun W hb=>r6.below hb
 have HNY : Hid (ny = ys.length /\ ys.map Prod.fst = dB):=⟨hny,e6⟩
 have HB56 : Hid (Bw w5 w6):=b6
 have HB6 : Hid (Bw w w6):=HB5.out.trans (b6.mono HB5.out.size)
 rw [<- hny]
 clear C6 b6 r6 e6 hny
 go_wp2_with fail
 refine (C7.out w6 HB6.out).mono ?_
 rintro e w7 ⟨b7,v7,zs,rfl,o7,e7⟩
 have r7:=o7.rd
 obtain ⟨za,zc,rfl⟩:=own_form r7.own
 obtain ⟨nz,hnz⟩:=xe (zs.length)
 have HZ : Hid (∀ W,Bw w7 W -> RD w6.heap.size W (.slice za zs.length zc) zs):=fun W hb=>r7.below hb
 have HNZ : Hid (nz = zs.length /\ zs.map Prod.fst = dA ++ dB):=⟨hnz,e7⟩
 have HB67 : Hid (Bw w6 w7):=b7
 have HB57 : Hid (Bw w5 w7):=HB56.out.trans (b7.mono HB56.out.size)
 have HB7 : Hid (Bw w w7):=HB6.out.trans (b7.mono HB6.out.size)
 have hsum : nz = nx + ny:=by
  have h:=congrArg List.length HNZ.out.2
  rw [List.length_map,lap,<- HNX.out.2,<- HNY.out.2,List.length_map,List.length_map,<- HNZ.out.1,<- HNX.out.1,<- HNY.out.1] at h
  exact h
 have hz1000 : nz <= 1000:=by
  have h:=HFW.out
  rw [<- HNZ.out.2,List.length_map,<- HNZ.out.1] at h
  exact h
 have wsum : IntKind.i64.wrap ((nx : Int) + (ny : Int)) = (nz : Int):=wk (by omega)
 have nez : ((nz : Int) != (nz : Int)) = false:=by simp
 rw [<- hnz]
 have HSU : Hid (nz = nx + ny):=hsum
 have hxz : nx <= nz:=by omega
 clear C7 b7 r7 o7 e7 hnz hsum
 go_wp2
 go_loopw [10] (fun i wr=>∃ k : Nat,k <= nz /\ i = .int .i64 k /\ Hid (Bw w7 wr)) (fun i _=>nz - (intOf i).toNat)
 case atStart=>exact ⟨0,Nat.zero_le _,rfl,Below.refl _ _⟩
 case round=>
  obtain ⟨k,hk,rfl,HW⟩:=hrel
  by_cases hlt : k < nz
  ·have lk : (k : Int) < (nz : Int):=by omega
   have lk0 : (0 : Int) <= (k : Int):=by omega
   by_cases hkx : k < nx
   ·have lkx : (k : Int) < (nx : Int):=by omega
    have lkd : decide ((k : Int) < (nx : Int)) = true:=decide_eq_true lkx
    have lke : decide ((nx : Int) <= (k : Int)) = false:=decide_eq_false (by omega)
    have lkn : decide (nx <= k) = false:=decide_eq_false (by omega)
    obtain ⟨g1,d1,p1,ta1,tn1,tc1,ea1,en1,ec1,ez,u0,u1,u2,u3,et1,ee1,ok1,at1⟩:=rd_cells (HZ.out wr HW.out) HNZ.out.1 hlt
    obtain ⟨g2,d2,p2,ta2,tn2,tc2,ea2,en2,ec2,ex,q0,q1,q2,q3,et2,ee2,ok2,at2⟩:=rd_cells (HX.out wr (HB57.out.trans (HW.out.mono HB57.out.size))) HNX.out.1 hkx
    have at1s:=at1
    have e12 : d2 = d1:=by
     rw [HNZ.out.2,List.getElem?_append_left (by rw [<- HNX.out.2,List.length_map,<- HNX.out.1];exact hkx),<- HNX.out.2,at2] at at1
     exact Option.some.inj at1
    subst e12
    have sm : SmD 1000000 d2:=(HSM.out d2 (by rw [<- HNZ.out.2];exact List.mem_of_getElem? at1s)).mono (by omega)
    have C8:=s_decl wr.drew (ok1.below (Below.refl _ _).drew) (ok2.below (Below.refl _ _).drew) sm
    rw [et1,ee1,et2,ee2] at C8
    obtain ⟨kd,hkd⟩:=xe (d2.kind)
    obtain ⟨nm,hnm⟩:=xe (d2.nm)
    rw [<- hkd,<- hnm] at C8
    rw [<- hkd] at u0 q0
    rw [<- hnm] at u1 q1
    have HC8:=hidF C8
    have HCC : Hid (∀ W,Bw wr W -> W.cell? ⟨g1,k * 4,none⟩ = some (.int .i64 kd) /\ W.cell? ⟨g1,k * 4 + 1,none⟩ = some (.string nm) /\ W.cell? ⟨g1,k * 4 + 2,none⟩ = some (.slice ta1 tn1 tc1) /\ W.cell? ⟨g1,k * 4 + 3,none⟩ = some (.slice ea1 en1 ec1) /\ W.cell? ⟨g2,k * 4,none⟩ = some (.int .i64 kd) /\ W.cell? ⟨g2,k * 4 + 1,none⟩ = some (.string nm) /\ W.cell? ⟨g2,k * 4 + 2,none⟩ = some (.slice ta2 tn2 tc2) /\ W.cell? ⟨g2,k * 4 + 3,none⟩ = some (.slice ea2 en2 ec2)):=fun W hb=>by
     have cp : ∀ {b o : Nat} {v : Value},wr.cell? ⟨b,o,none⟩ = some v -> W.cell? ⟨b,o,none⟩ = some v:=fun {b o v} h=>(hb.cell (p:=⟨b,o,none⟩) (blt h)).trans h
     exact ⟨cp u0,cp u1,cp u2,cp u3,cp q0,cp q1,cp q2,cp q3⟩
    rw [ez,ex]
    clear C8 sm ok1 ok2 et1 ee1 et2 ee2 at1 at1s at2 hkd hnm ez ex
    go_wp2
    go_region_held3 (fun wq=>wq.cell? ⟨g1,k * 4,none⟩ = some (.int .i64 kd) /\ wq.cell? ⟨g1,k * 4 + 1,none⟩ = some (.string nm) /\ wq.cell? ⟨g1,k * 4 + 2,none⟩ = some (.slice ta1 tn1 tc1) /\ wq.cell? ⟨g1,k * 4 + 3,none⟩ = some (.slice ea1 en1 ec1) /\ wq.cell? ⟨g2,k * 4,none⟩ = some (.int .i64 kd) /\ wq.cell? ⟨g2,k * 4 + 1,none⟩ = some (.string nm) /\ wq.cell? ⟨g2,k * 4 + 2,none⟩ = some (.slice ta2 tn2 tc2) /\ wq.cell? ⟨g2,k * 4 + 3,none⟩ = some (.slice ea2 en2 ec2)) (go_keep) ((go_at_call 22;(with_reducible refine HC8.out.mono ?_);rintro e9 w9 ⟨rfl,hb9⟩;have HB9 : Hid (Bw wr w9):=(Below.refl _ _).drew.trans hb9;clear hb9;obtain ⟨r0,r1,r2,r3,r4,r5,r6,r7⟩:=HCC.out w9 HB9.out))
    all_goals
     clear r0 r1 r2 r3 r4 r5 r6 r7
     have HW9 : Hid (Bw w7 w9):=HW.out.trans (HB9.out.mono HW.out.size)
     go_wp2
     go_quiet (fail)
     go_wp2
     refine ⟨⟨k + 1,by omega,by go_num,HW9.out.trans ((below_dn _ _).mono HW9.out.size)⟩,by simp [intOf];omega⟩
   ·have lkx : ¬ (k : Int) < (nx : Int):=by omega
    have lkd : decide ((k : Int) < (nx : Int)) = false:=decide_eq_false lkx
    have lke : decide ((nx : Int) <= (k : Int)) = true:=decide_eq_true (by omega)
    have lkn : decide (k < nx) = false:=decide_eq_false (by omega)
    have lknn : (nx : Int) <= (k : Int):=by omega
    have hsu:=HSU.out
    obtain ⟨g1,d1,p1,ta1,tn1,tc1,ea1,en1,ec1,ez,u0,u1,u2,u3,et1,ee1,ok1,at1⟩:=rd_cells (HZ.out wr HW.out) HNZ.out.1 hlt
    obtain ⟨g2,d2,p2,ta2,tn2,tc2,ea2,en2,ec2,ex,q0,q1,q2,q3,et2,ee2,ok2,at2⟩:=rd_cells (HY.out wr (HB67.out.trans (HW.out.mono HB67.out.size))) HNY.out.1 (k:=k - nx) (by omega)
    have at1s:=at1
    have e12 : d2 = d1:=by
     have hl : dA.length = nx:=by rw [<- HNX.out.2,List.length_map,<- HNX.out.1]
     rw [HNZ.out.2,List.getElem?_append_right (by omega),hl,<- HNY.out.2,at2] at at1
     exact Option.some.inj at1
    obtain ⟨k2,hk2⟩:=xe (k - nx)
    rw [<- hk2] at q0 q1 q2 q3
    have wk2 : IntKind.i64.wrap ((k : Int) - (nx : Int)) = (k2 : Int):=wk (by omega)
    have lk2 : (k2 : Int) < (ny : Int):=by omega
    have lk20 : (0 : Int) <= (k2 : Int):=by omega
    subst e12
    have sm : SmD 1000000 d2:=(HSM.out d2 (by rw [<- HNZ.out.2];exact List.mem_of_getElem? at1s)).mono (by omega)
    have C8:=fun j=>s_decl (wr.drewN j) (ok1.below (below_dn _ _)) (ok2.below (below_dn _ _)) sm
    simp only [et1,ee1,et2,ee2] at C8
    obtain ⟨kd,hkd⟩:=xe (d2.kind)
    obtain ⟨nm,hnm⟩:=xe (d2.nm)
    simp only [<- hkd,<- hnm] at C8
    rw [<- hkd] at u0 q0
    rw [<- hnm] at u1 q1
    have HC8:=hidF C8
    have HCC : Hid (∀ W,Bw wr W -> W.cell? ⟨g1,k * 4,none⟩ = some (.int .i64 kd) /\ W.cell? ⟨g1,k * 4 + 1,none⟩ = some (.string nm) /\ W.cell? ⟨g1,k * 4 + 2,none⟩ = some (.slice ta1 tn1 tc1) /\ W.cell? ⟨g1,k * 4 + 3,none⟩ = some (.slice ea1 en1 ec1) /\ W.cell? ⟨g2,k2 * 4,none⟩ = some (.int .i64 kd) /\ W.cell? ⟨g2,k2 * 4 + 1,none⟩ = some (.string nm) /\ W.cell? ⟨g2,k2 * 4 + 2,none⟩ = some (.slice ta2 tn2 tc2) /\ W.cell? ⟨g2,k2 * 4 + 3,none⟩ = some (.slice ea2 en2 ec2)):=fun W hb=>by
     have cp : ∀ {b o : Nat} {v : Value},wr.cell? ⟨b,o,none⟩ = some v -> W.cell? ⟨b,o,none⟩ = some v:=fun {b o v} h=>(hb.cell (p:=⟨b,o,none⟩) (blt h)).trans h
     exact ⟨cp u0,cp u1,cp u2,cp u3,cp q0,cp q1,cp q2,cp q3⟩
    rw [ez,ex]
    clear hsu C8 sm ok1 ok2 et1 ee1 et2 ee2 at1 at1s at2 hkd hnm ez ex hk2
    go_wp2
    go_quiet (fail)
    go_wp2
    go_region_held3 (fun wq=>wq.cell? ⟨g1,k * 4,none⟩ = some (.int .i64 kd) /\ wq.cell? ⟨g1,k * 4 + 1,none⟩ = some (.string nm) /\ wq.cell? ⟨g1,k * 4 + 2,none⟩ = some (.slice ta1 tn1 tc1) /\ wq.cell? ⟨g1,k * 4 + 3,none⟩ = some (.slice ea1 en1 ec1) /\ wq.cell? ⟨g2,k2 * 4,none⟩ = some (.int .i64 kd) /\ wq.cell? ⟨g2,k2 * 4 + 1,none⟩ = some (.string nm) /\ wq.cell? ⟨g2,k2 * 4 + 2,none⟩ = some (.slice ta2 tn2 tc2) /\ wq.cell? ⟨g2,k2 * 4 + 3,none⟩ = some (.slice ea2 en2 ec2)) (go_keep) ((go_at_call 22;(with_reducible refine (HC8.out _).mono ?_);rintro e9 w9 ⟨rfl,hb9⟩;have HB9 : Hid (Bw wr w9):=(below_dn _ _).trans hb9;clear hb9;obtain ⟨r0,r1,r2,r3,r4,r5,r6,r7⟩:=HCC.out w9 HB9.out))
    all_goals
     clear r0 r1 r2 r3 r4 r5 r6 r7
     have HW9 : Hid (Bw w7 w9):=HW.out.trans (HB9.out.mono HW.out.size)
     go_wp2
     refine ⟨⟨k + 1,by omega,by go_num,HW9⟩,by simp [intOf];omega⟩
  ·have lk : ¬ (k : Int) < (nz : Int):=by omega
   go_wp2
   go_ret
   exact ⟨rfl,HB7.out.trans (HW.out.mono HB7.out.size)⟩
end Go.Proofs.YtcehppndpccldaaGreatDoor
