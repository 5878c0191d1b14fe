/-
  VcA
-/
import Derived.Test.YtcehppndpccldaaGreatDoorT2
set_option maxHeartbeats 8000000
set_option maxRecDepth 100000
namespace Go.Proofs.YtcehppndpccldaaGreatDoor
open Go.RowKit
structure EiA (w : World) (t : EI) (p : EPl) : Prop where
 ns : NsA w p.np t.ns
 len : t.ns.length <= 1048576
 sz : ∀ k,k < t.ns.length -> (t.ns.getD k e0).size <= 1048576
 cap : t.ns.length <= p.np.c
 md : t.md.size <= 1048576
 nm : t.nm.size <= 1048576
 ty : TsA w p.tv p.zs
 is : p.zs.map Prod.fst = t.ty
def v6 (a b c d e f : Value) : Nat -> Value:=fun i=>if i = 0 then a else if i = 1 then b else if i = 2 then c else if i = 3 then d else if i = 4 then e else f
theorem row6 (w : World) (a b c d e f : Value) (t : TypeId) : (w.alloc (.cells #[a,b,c,d,e,f] t)).rowIs w.heap.size t 6 (v6 a b c d e f):=
 World.rowIs_alloc w #[a,b,c,d,e,f] t _ (fun i hi=>by
  match i,hi with
  | 0,_=>rfl
  | 1,_=>rfl
  | 2,_=>rfl
  | 3,_=>rfl
  | 4,_=>rfl
  | 5,_=>rfl)
theorem v_arE (w : World) {t : EI} {p : EPl} (h : EiA w t p) {ta : Option Addr} {tc : Nat} (htv : p.tv = .slice ta t.ty.length tc) :
  Calls Tryz.prog 99 #[.agg #[.int .i64 t.op,.int .i64 t.num,.string t.md,.string t.nm,.slice p.np.a t.ns.length p.np.c,.slice ta t.ty.length tc]] w fun e w'=>e = .returned (.int .i64 (arI (fE t))) /\ Bw w w':=by
 have CN0 : Hid (∀ W,Bw w W -> Calls Tryz.prog 131 #[.slice p.np.a t.ns.length p.np.c] W fun e w'=>e = .returned (.bool (nmOk t.ns)) /\ ∃ k,w' = W.drewN k):=fun W hb=>v_namesOk W (h.ns.below hb) h.len h.sz rfl h.cap
 have CT0 : Hid (∀ W,Bw w W -> Calls Tryz.prog 63 #[.slice ta t.ty.length tc] W fun e w'=>e = .returned (.bool (okT t.ty)) /\ Bw W w'):=fun W hb=>by
  have:=v_typeOk W (h.ty.below hb) h.is
  rw [htv] at this
  exact this
 obtain ⟨op,hop⟩:=xe (t.op)
 obtain ⟨nu,hnu⟩:=xe (t.num)
 obtain ⟨md,hmd⟩:=xe (t.md)
 obtain ⟨nm,hnm⟩:=xe (t.nm)
 obtain ⟨n,hn⟩:=xe (t.ns.length)
 obtain ⟨m,hm⟩:=xe (t.ty.length)
 have HV : Hid (t.op = op /\ t.num = nu /\ t.md = md /\ t.nm = nm /\ t.ns.length = n /\ t.ty.length = m):=⟨hop.symm,hnu.symm,hmd.symm,hnm.symm,hn.symm,hm.symm⟩
 have zm : md.size <= 9223372036854775807:=by have:=h.md;rw [hmd];omega
 have zn : nm.size <= 9223372036854775807:=by have:=h.nm;rw [hnm];omega
 have zl : n <= 1048576:=by have:=h.len;omega
 have zt : m <= 1048576:=by have:=h.ty.len;have e:=congrArg List.length h.is;rw [List.length_map] at e;omega
 rw [<- hop,<- hnu,<- hmd,<- hnm,<- hn,<- hm]
 rw [<- hn] at CN0
 rw [<- hm] at CT0
 obtain ⟨r,hr⟩:=xe (arI (fE t))
 have HR : Hid (arI (fE t) = r):=hr.symm
 rw [<- hr]
 have CG0 : Hid (∀ W,Calls Tryz.prog 62 #[.string nm] W fun e w'=>e = .returned (.bool (gn nm)) /\ w' = W):=fun W=>c32 nm W zn
 have CM0 : Hid (∀ W,Calls Tryz.prog 62 #[.string md] W fun e w'=>e = .returned (.bool (gn md)) /\ w' = W):=fun W=>c32 md W zm
 clear h hop hnu hmd hnm hn hm hr htv
 go_enter Tryz.func99,Tryz.ntmps99
 by_cases h3 : op = 3
 case pos=>
  have bh3 : (op == 3) = true:=beq_iff_eq.2 h3
  cases hg : gn nm
  case false=>
   have CG:=CG0
   rw [hg] at CG
   have HE : Hid (r = -1):=by
    show _ = _
    obtain ⟨v1,v2,v3,v4,v5,v6⟩:=HV.out
    rw [<- HR.out]
    unfold fE gPth
    rw [v1,v2,v3,v4,v5,v6]
    simp [h3,hg,arI]
   go_wp2_with (first | (go_at_call 62;(with_reducible refine (CG.out _).mono ?_);rintro e w' ⟨rfl,rfl⟩))
   go_ret
   exact ⟨by rw [HE.out];rfl,by first | exact bel1 _ _ | exact below_drewN (bel1 _ _) _ | exact HBT.out | exact below_drewN HBT.out _⟩
  case true=>
   have CG:=CG0
   rw [hg] at CG
   by_cases hz : md.size = 0
   case pos=>
    have emhz : md = ByteArray.empty:=em_zero hz
    subst emhz
    have ezhz : (ByteArray.empty).size = 0:=rfl
    by_cases hu : nu = 0
    case pos=>
     subst hu
     by_cases hn0 : n = 0
     case pos=>
      have lhn0 : ¬ (0 : Int) < (n : Int):=by omega
      by_cases hm0 : m = 0
      case pos=>
       have lhm0 : ¬ (0 : Int) < (m : Int):=by omega
       have HE : Hid (r = 0):=by
        show _ = _
        obtain ⟨v1,v2,v3,v4,v5,v6⟩:=HV.out
        rw [<- HR.out]
        unfold fE gPth
        rw [v1,v2,v3,v4,v5,v6]
        simp [h3,hg,ezhz,hn0,hm0,arI]
       go_wp2_with (first | (go_at_call 62;(with_reducible refine (CG.out _).mono ?_);rintro e w' ⟨rfl,rfl⟩))
       go_ret
       exact ⟨by rw [HE.out];rfl,by first | exact bel1 _ _ | exact below_drewN (bel1 _ _) _ | exact HBT.out | exact below_drewN HBT.out _⟩
      case neg=>
       have lhm0 : (0 : Int) < (m : Int):=by omega
       have HE : Hid (r = -1):=by
        show _ = _
        obtain ⟨v1,v2,v3,v4,v5,v6⟩:=HV.out
        rw [<- HR.out]
        unfold fE gPth
        rw [v1,v2,v3,v4,v5,v6]
        simp [h3,hg,ezhz,hn0,hm0,arI]
       go_wp2_with (first | (go_at_call 62;(with_reducible refine (CG.out _).mono ?_);rintro e w' ⟨rfl,rfl⟩))
       go_ret
       exact ⟨by rw [HE.out];rfl,by first | exact bel1 _ _ | exact below_drewN (bel1 _ _) _ | exact HBT.out | exact below_drewN HBT.out _⟩
     case neg=>
      have lhn0 : (0 : Int) < (n : Int):=by omega
      have HE : Hid (r = -1):=by
       show _ = _
       obtain ⟨v1,v2,v3,v4,v5,v6⟩:=HV.out
       rw [<- HR.out]
       unfold fE gPth
       rw [v1,v2,v3,v4,v5,v6]
       simp [h3,hg,ezhz,hn0,arI]
      go_wp2_with (first | (go_at_call 62;(with_reducible refine (CG.out _).mono ?_);rintro e w' ⟨rfl,rfl⟩))
      go_ret
      exact ⟨by rw [HE.out];rfl,by first | exact bel1 _ _ | exact below_drewN (bel1 _ _) _ | exact HBT.out | exact below_drewN HBT.out _⟩
    case neg=>
     have bhu : (nu != 0) = true:=bne_iff_ne.2 hu
     have HE : Hid (r = -1):=by
      show _ = _
      obtain ⟨v1,v2,v3,v4,v5,v6⟩:=HV.out
      rw [<- HR.out]
      unfold fE gPth
      rw [v1,v2,v3,v4,v5,v6]
      simp [h3,hg,ezhz,hu,arI]
     go_wp2_with (first | (go_at_call 62;(with_reducible refine (CG.out _).mono ?_);rintro e w' ⟨rfl,rfl⟩))
     go_ret
     exact ⟨by rw [HE.out];rfl,by first | exact bel1 _ _ | exact below_drewN (bel1 _ _) _ | exact HBT.out | exact below_drewN HBT.out _⟩
   case neg=>
    have emhz : ¬ md = ByteArray.empty:=em_pos hz
    have lhz : (0 : Int) < (md.size : Int):=by omega
    have khz : 0 < md.size:=by omega
    cases hgm : gn md
    case false=>
     have CM:=CM0
     rw [hgm] at CM
     have HE : Hid (r = -1):=by
      show _ = _
      obtain ⟨v1,v2,v3,v4,v5,v6⟩:=HV.out
      rw [<- HR.out]
      unfold fE gPth
      rw [v1,v2,v3,v4,v5,v6]
      simp [h3,hg,hz,hgm,arI]
     go_wp2_with (first | (go_at_call 62;(with_reducible refine (CG.out _).mono ?_);rintro e w' ⟨rfl,rfl⟩) | (go_at_call 62;(with_reducible refine (CM.out _).mono ?_);rintro e w' ⟨rfl,rfl⟩))
     go_ret
     exact ⟨by rw [HE.out];rfl,by first | exact bel1 _ _ | exact below_drewN (bel1 _ _) _ | exact HBT.out | exact below_drewN HBT.out _⟩
    case true=>
     have CM:=CM0
     rw [hgm] at CM
     by_cases hu : nu = 0
     case pos=>
      subst hu
      by_cases hn0 : n = 0
      case pos=>
       have lhn0 : ¬ (0 : Int) < (n : Int):=by omega
       by_cases hm0 : m = 0
       case pos=>
        have lhm0 : ¬ (0 : Int) < (m : Int):=by omega
        have HE : Hid (r = 0):=by
         show _ = _
         obtain ⟨v1,v2,v3,v4,v5,v6⟩:=HV.out
         rw [<- HR.out]
         unfold fE gPth
         rw [v1,v2,v3,v4,v5,v6]
         simp [h3,hg,hz,hgm,hn0,hm0,arI]
        go_wp2_with (first | (go_at_call 62;(with_reducible refine (CG.out _).mono ?_);rintro e w' ⟨rfl,rfl⟩) | (go_at_call 62;(with_reducible refine (CM.out _).mono ?_);rintro e w' ⟨rfl,rfl⟩))
        go_ret
        exact ⟨by rw [HE.out];rfl,by first | exact bel1 _ _ | exact below_drewN (bel1 _ _) _ | exact HBT.out | exact below_drewN HBT.out _⟩
       case neg=>
        have lhm0 : (0 : Int) < (m : Int):=by omega
        have HE : Hid (r = -1):=by
         show _ = _
         obtain ⟨v1,v2,v3,v4,v5,v6⟩:=HV.out
         rw [<- HR.out]
         unfold fE gPth
         rw [v1,v2,v3,v4,v5,v6]
         simp [h3,hg,hz,hgm,hn0,hm0,arI]
        go_wp2_with (first | (go_at_call 62;(with_reducible refine (CG.out _).mono ?_);rintro e w' ⟨rfl,rfl⟩) | (go_at_call 62;(with_reducible refine (CM.out _).mono ?_);rintro e w' ⟨rfl,rfl⟩))
        go_ret
        exact ⟨by rw [HE.out];rfl,by first | exact bel1 _ _ | exact below_drewN (bel1 _ _) _ | exact HBT.out | exact below_drewN HBT.out _⟩
      case neg=>
       have lhn0 : (0 : Int) < (n : Int):=by omega
       have HE : Hid (r = -1):=by
        show _ = _
        obtain ⟨v1,v2,v3,v4,v5,v6⟩:=HV.out
        rw [<- HR.out]
        unfold fE gPth
        rw [v1,v2,v3,v4,v5,v6]
        simp [h3,hg,hz,hgm,hn0,arI]
       go_wp2_with (first | (go_at_call 62;(with_reducible refine (CG.out _).mono ?_);rintro e w' ⟨rfl,rfl⟩) | (go_at_call 62;(with_reducible refine (CM.out _).mono ?_);rintro e w' ⟨rfl,rfl⟩))
       go_ret
       exact ⟨by rw [HE.out];rfl,by first | exact bel1 _ _ | exact below_drewN (bel1 _ _) _ | exact HBT.out | exact below_drewN HBT.out _⟩
     case neg=>
      have bhu : (nu != 0) = true:=bne_iff_ne.2 hu
      have HE : Hid (r = -1):=by
       show _ = _
       obtain ⟨v1,v2,v3,v4,v5,v6⟩:=HV.out
       rw [<- HR.out]
       unfold fE gPth
       rw [v1,v2,v3,v4,v5,v6]
       simp [h3,hg,hz,hgm,hu,arI]
      go_wp2_with (first | (go_at_call 62;(with_reducible refine (CG.out _).mono ?_);rintro e w' ⟨rfl,rfl⟩) | (go_at_call 62;(with_reducible refine (CM.out _).mono ?_);rintro e w' ⟨rfl,rfl⟩))
      go_ret
      exact ⟨by rw [HE.out];rfl,by first | exact bel1 _ _ | exact below_drewN (bel1 _ _) _ | exact HBT.out | exact below_drewN HBT.out _⟩
 case neg=>
  have bh3 : (op == 3) = false:=bn2 h3
  by_cases hz : md.size = 0
  case pos=>
   have emhz : md = ByteArray.empty:=em_zero hz
   subst emhz
   have ezhz : (ByteArray.empty).size = 0:=rfl
   by_cases h6 : op = 6
   case pos=>
    have bh6 : (op == 6) = true:=beq_iff_eq.2 h6
    have HCE : Hid (∀ (o u : Int) (k : Nat) (w3 : World),Below (w.alloc (.cells #[.int .i64 o,.int .i64 u,.string ByteArray.empty,.string nm,.slice p.np.a k p.np.c,.slice ta m tc] 70)).heap.size (w.alloc (.cells #[.int .i64 o,.int .i64 u,.string ByteArray.empty,.string nm,.slice p.np.a k p.np.c,.slice ta m tc] 70)) w3 -> w3.cell? ⟨w.heap.size,0,none⟩ = some (.int .i64 o) /\ w3.cell? ⟨w.heap.size,1,none⟩ = some (.int .i64 u) /\ w3.cell? ⟨w.heap.size,2,none⟩ = some (.string ByteArray.empty) /\ w3.cell? ⟨w.heap.size,3,none⟩ = some (.string nm) /\ w3.cell? ⟨w.heap.size,4,none⟩ = some (.slice p.np.a k p.np.c) /\ w3.cell? ⟨w.heap.size,5,none⟩ = some (.slice ta m tc)):=fun o u k w3 hb=>by
     have R:=row6 w (.int .i64 o) (.int .i64 u) (.string ByteArray.empty) (.string nm) (.slice p.np.a k p.np.c) (.slice ta m tc) 70
     have R2:=R.of_block (hb.block _ R.lt)
     exact ⟨R2.cell (i:=0) (by omega),R2.cell (i:=1) (by omega),R2.cell (i:=2) (by omega),R2.cell (i:=3) (by omega),R2.cell (i:=4) (by omega),R2.cell (i:=5) (by omega)⟩
    cases hg : gn nm
    case false=>
     have CG:=CG0
     rw [hg] at CG
     have HE : Hid (r = -1):=by
      show _ = _
      obtain ⟨v1,v2,v3,v4,v5,v6⟩:=HV.out
      rw [<- HR.out]
      unfold fE gPth
      rw [v1,v2,v3,v4,v5,v6]
      simp [ezhz,h6,hg,arI]
     go_wp2_with (first | (go_at_call 62;(with_reducible refine (CG.out _).mono ?_);rintro e w' ⟨rfl,rfl⟩))
     go_ret
     exact ⟨by rw [HE.out];rfl,by first | exact bel1 _ _ | exact below_drewN (bel1 _ _) _ | exact HBT.out | exact below_drewN HBT.out _⟩
    case true=>
     have CG:=CG0
     rw [hg] at CG
     cases ht : okT t.ty
     case false=>
      have CT:=CT0
      rw [ht] at CT
      have HE : Hid (r = -1):=by
       show _ = _
       obtain ⟨v1,v2,v3,v4,v5,v6⟩:=HV.out
       rw [<- HR.out]
       unfold fE gPth
       rw [v1,v2,v3,v4,v5,v6]
       simp [ezhz,h6,hg,ht,arI]
      go_wp2_with (first | (go_at_call 62;(with_reducible refine (CG.out _).mono ?_);rintro e w' ⟨rfl,rfl⟩) | (go_at_call 63;(refine (CT.out _ (by first | exact bel1 _ _)).mono ?_);rintro e w3 ⟨rfl,hb3⟩;have HBT : Hid (Bw w w3):=(bel1 _ _).trans (hb3.mono (by simp));obtain ⟨q0,q1,q2,q3,q4,q5⟩:=HCE.out _ _ _ w3 hb3))
      go_ret
      exact ⟨by rw [HE.out];rfl,by first | exact bel1 _ _ | exact below_drewN (bel1 _ _) _ | exact HBT.out | exact below_drewN HBT.out _⟩
     case true=>
      have CT:=CT0
      rw [ht] at CT
      by_cases hu : nu = 0
      case pos=>
       subst hu
       by_cases hn0 : n = 0
       case pos=>
        have lhn0 : ¬ (0 : Int) < (n : Int):=by omega
        have HE : Hid (r = 1):=by
         show _ = _
         obtain ⟨v1,v2,v3,v4,v5,v6⟩:=HV.out
         rw [<- HR.out]
         unfold fE gPth
         rw [v1,v2,v3,v4,v5,v6]
         simp [ezhz,h6,hg,ht,hn0,arI]
        go_wp2_with (first | (go_at_call 62;(with_reducible refine (CG.out _).mono ?_);rintro e w' ⟨rfl,rfl⟩) | (go_at_call 63;(refine (CT.out _ (by first | exact bel1 _ _)).mono ?_);rintro e w3 ⟨rfl,hb3⟩;have HBT : Hid (Bw w w3):=(bel1 _ _).trans (hb3.mono (by simp));obtain ⟨q0,q1,q2,q3,q4,q5⟩:=HCE.out _ _ _ w3 hb3))
        go_ret
        exact ⟨by rw [HE.out];rfl,by first | exact bel1 _ _ | exact below_drewN (bel1 _ _) _ | exact HBT.out | exact below_drewN HBT.out _⟩
       case neg=>
        have lhn0 : (0 : Int) < (n : Int):=by omega
        have HE : Hid (r = -1):=by
         show _ = _
         obtain ⟨v1,v2,v3,v4,v5,v6⟩:=HV.out
         rw [<- HR.out]
         unfold fE gPth
         rw [v1,v2,v3,v4,v5,v6]
         simp [ezhz,h6,hg,ht,hn0,arI]
        go_wp2_with (first | (go_at_call 62;(with_reducible refine (CG.out _).mono ?_);rintro e w' ⟨rfl,rfl⟩) | (go_at_call 63;(refine (CT.out _ (by first | exact bel1 _ _)).mono ?_);rintro e w3 ⟨rfl,hb3⟩;have HBT : Hid (Bw w w3):=(bel1 _ _).trans (hb3.mono (by simp));obtain ⟨q0,q1,q2,q3,q4,q5⟩:=HCE.out _ _ _ w3 hb3))
        go_ret
        exact ⟨by rw [HE.out];rfl,by first | exact bel1 _ _ | exact below_drewN (bel1 _ _) _ | exact HBT.out | exact below_drewN HBT.out _⟩
      case neg=>
       have bhu : (nu != 0) = true:=bne_iff_ne.2 hu
       have HE : Hid (r = -1):=by
        show _ = _
        obtain ⟨v1,v2,v3,v4,v5,v6⟩:=HV.out
        rw [<- HR.out]
        unfold fE gPth
        rw [v1,v2,v3,v4,v5,v6]
        simp [ezhz,h6,hg,ht,hu,arI]
       go_wp2_with (first | (go_at_call 62;(with_reducible refine (CG.out _).mono ?_);rintro e w' ⟨rfl,rfl⟩) | (go_at_call 63;(refine (CT.out _ (by first | exact bel1 _ _)).mono ?_);rintro e w3 ⟨rfl,hb3⟩;have HBT : Hid (Bw w w3):=(bel1 _ _).trans (hb3.mono (by simp));obtain ⟨q0,q1,q2,q3,q4,q5⟩:=HCE.out _ _ _ w3 hb3))
       go_ret
       exact ⟨by rw [HE.out];rfl,by first | exact bel1 _ _ | exact below_drewN (bel1 _ _) _ | exact HBT.out | exact below_drewN HBT.out _⟩
   case neg=>
    have bh6 : (op == 6) = false:=bn2 h6
    by_cases hm0 : m = 0
    case pos=>
     have lhm0 : ¬ (0 : Int) < (m : Int):=by omega
     by_cases h5 : op = 5
     case pos=>
      have bh5 : (op == 5) = true:=beq_iff_eq.2 h5
      cases hg : gn nm
      case false=>
       have CG:=CG0
       rw [hg] at CG
       have HE : Hid (r = -1):=by
        show _ = _
        obtain ⟨v1,v2,v3,v4,v5,v6⟩:=HV.out
        rw [<- HR.out]
        unfold fE gPth
        rw [v1,v2,v3,v4,v5,v6]
        simp [ezhz,hm0,h5,hg,arI]
       go_wp2_with (first | (go_at_call 62;(with_reducible refine (CG.out _).mono ?_);rintro e w' ⟨rfl,rfl⟩))
       go_ret
       exact ⟨by rw [HE.out];rfl,by first | exact bel1 _ _ | exact below_drewN (bel1 _ _) _ | exact HBT.out | exact below_drewN HBT.out _⟩
      case true=>
       have CG:=CG0
       rw [hg] at CG
       by_cases hu : nu = 0
       case pos=>
        subst hu
        by_cases hn0 : n = 0
        case pos=>
         have lhn0 : ¬ (0 : Int) < (n : Int):=by omega
         have HE : Hid (r = 1):=by
          show _ = _
          obtain ⟨v1,v2,v3,v4,v5,v6⟩:=HV.out
          rw [<- HR.out]
          unfold fE gPth
          rw [v1,v2,v3,v4,v5,v6]
          simp [ezhz,hm0,h5,hg,hn0,arI]
         go_wp2_with (first | (go_at_call 62;(with_reducible refine (CG.out _).mono ?_);rintro e w' ⟨rfl,rfl⟩))
         go_ret
         exact ⟨by rw [HE.out];rfl,by first | exact bel1 _ _ | exact below_drewN (bel1 _ _) _ | exact HBT.out | exact below_drewN HBT.out _⟩
        case neg=>
         have lhn0 : (0 : Int) < (n : Int):=by omega
         have HE : Hid (r = -1):=by
          show _ = _
          obtain ⟨v1,v2,v3,v4,v5,v6⟩:=HV.out
          rw [<- HR.out]
          unfold fE gPth
          rw [v1,v2,v3,v4,v5,v6]
          simp [ezhz,hm0,h5,hg,hn0,arI]
         go_wp2_with (first | (go_at_call 62;(with_reducible refine (CG.out _).mono ?_);rintro e w' ⟨rfl,rfl⟩))
         go_ret
         exact ⟨by rw [HE.out];rfl,by first | exact bel1 _ _ | exact below_drewN (bel1 _ _) _ | exact HBT.out | exact below_drewN HBT.out _⟩
       case neg=>
        have bhu : (nu != 0) = true:=bne_iff_ne.2 hu
        have HE : Hid (r = -1):=by
         show _ = _
         obtain ⟨v1,v2,v3,v4,v5,v6⟩:=HV.out
         rw [<- HR.out]
         unfold fE gPth
         rw [v1,v2,v3,v4,v5,v6]
         simp [ezhz,hm0,h5,hg,hu,arI]
        go_wp2_with (first | (go_at_call 62;(with_reducible refine (CG.out _).mono ?_);rintro e w' ⟨rfl,rfl⟩))
        go_ret
        exact ⟨by rw [HE.out];rfl,by first | exact bel1 _ _ | exact below_drewN (bel1 _ _) _ | exact HBT.out | exact below_drewN HBT.out _⟩
     case neg=>
      have bh5 : (op == 5) = false:=bn2 h5
      by_cases hy : nm.size = 0
      case pos=>
       have emhy : nm = ByteArray.empty:=em_zero hy
       subst emhy
       have ezhy : (ByteArray.empty).size = 0:=rfl
       by_cases h4 : op = 4
       case pos=>
        have bh4 : (op == 4) = true:=beq_iff_eq.2 h4
        by_cases hu : nu = 0
        case pos=>
         subst hu
         cases ho : nmOk t.ns
         case false=>
          have CN:=CN0
          rw [ho] at CN
          have HE : Hid (r = -1):=by
           show _ = _
           obtain ⟨v1,v2,v3,v4,v5,v6⟩:=HV.out
           rw [<- HR.out]
           unfold fE gPth
           rw [v1,v2,v3,v4,v5,v6]
           simp [ezhz,hm0,h4,ho,arI]
          go_wp2_with (first | (go_at_call 131;(refine (CN.out _ (by first | exact bel1 _ _ | exact HBT.out)).mono ?_);rintro e w' ⟨rfl,kk,rfl⟩))
          go_ret
          exact ⟨by rw [HE.out];rfl,by first | exact bel1 _ _ | exact below_drewN (bel1 _ _) _ | exact HBT.out | exact below_drewN HBT.out _⟩
         case true=>
          have CN:=CN0
          rw [ho] at CN
          have HE : Hid (r = (n : Int)):=by
           show _ = _
           obtain ⟨v1,v2,v3,v4,v5,v6⟩:=HV.out
           rw [<- HR.out]
           unfold fE gPth
           rw [v1,v2,v3,v4,v6]
           simp [ezhz,hm0,h4,ho,arI]
           rw [(brc_ok _ _ _).2.1,v5]
          go_wp2_with (first | (go_at_call 131;(refine (CN.out _ (by first | exact bel1 _ _ | exact HBT.out)).mono ?_);rintro e w' ⟨rfl,kk,rfl⟩))
          go_ret
          exact ⟨by rw [HE.out];rfl,by first | exact bel1 _ _ | exact below_drewN (bel1 _ _) _⟩
        case neg=>
         have bhu : (nu != 0) = true:=bne_iff_ne.2 hu
         have HE : Hid (r = -1):=by
          show _ = _
          obtain ⟨v1,v2,v3,v4,v5,v6⟩:=HV.out
          rw [<- HR.out]
          unfold fE gPth
          rw [v1,v2,v3,v4,v5,v6]
          simp [ezhz,hm0,h4,hu,arI]
         go_wp2
         go_ret
         exact ⟨by rw [HE.out];rfl,by first | exact bel1 _ _ | exact below_drewN (bel1 _ _) _ | exact HBT.out | exact below_drewN HBT.out _⟩
       case neg=>
        have bh4 : (op == 4) = false:=bn2 h4
        by_cases hn0 : n = 0
        case pos=>
         have lhn0 : ¬ (0 : Int) < (n : Int):=by omega
         by_cases h1 : op = 1
         case pos=>
          have bh1 : (op == 1) = true:=beq_iff_eq.2 h1
          by_cases hge : 0 <= nu
          case pos=>
           by_cases hb9 : nu <= 999999999
           case pos=>
            have HE : Hid (r = 0):=by
             show _ = _
             obtain ⟨v1,v2,v3,v4,v5,v6⟩:=HV.out
             rw [<- HR.out]
             unfold fE gPth
             rw [v1,v2,v3,v4,v5,v6]
             simp [ezhz,hm0,hn0,h1,hge,hb9,arI]
            go_wp2
            go_ret
            exact ⟨by rw [HE.out];rfl,by first | exact bel1 _ _ | exact below_drewN (bel1 _ _) _ | exact HBT.out | exact below_drewN HBT.out _⟩
           case neg=>
            have hnz : ¬ nu = 0:=by omega
            have bnz : (nu != 0) = true:=bne_iff_ne.2 hnz
            have HE : Hid (r = -1):=by
             show _ = _
             obtain ⟨v1,v2,v3,v4,v5,v6⟩:=HV.out
             rw [<- HR.out]
             unfold fE gPth
             rw [v1,v2,v3,v4,v5,v6]
             simp [ezhz,hm0,hn0,h1,hge,hb9,arI]
            go_wp2
            go_ret
            exact ⟨by rw [HE.out];rfl,by first | exact bel1 _ _ | exact below_drewN (bel1 _ _) _ | exact HBT.out | exact below_drewN HBT.out _⟩
          case neg=>
           have hnz : ¬ nu = 0:=by omega
           have bnz : (nu != 0) = true:=bne_iff_ne.2 hnz
           have HE : Hid (r = -1):=by
            show _ = _
            obtain ⟨v1,v2,v3,v4,v5,v6⟩:=HV.out
            rw [<- HR.out]
            unfold fE gPth
            rw [v1,v2,v3,v4,v5,v6]
            simp [ezhz,hm0,hn0,h1,hge,arI]
           go_wp2
           go_ret
           exact ⟨by rw [HE.out];rfl,by first | exact bel1 _ _ | exact below_drewN (bel1 _ _) _ | exact HBT.out | exact below_drewN HBT.out _⟩
         case neg=>
          have bh1 : (op == 1) = false:=bn2 h1
          by_cases h2 : op = 2
          case pos=>
           have bh2 : (op == 2) = true:=beq_iff_eq.2 h2
           by_cases hu : nu = 0
           case pos=>
            subst hu
            have HE : Hid (r = 0):=by
             show _ = _
             obtain ⟨v1,v2,v3,v4,v5,v6⟩:=HV.out
             rw [<- HR.out]
             unfold fE gPth
             rw [v1,v2,v3,v4,v5,v6]
             simp [ezhz,hm0,hn0,h2,arI]
            go_wp2
            go_ret
            exact ⟨by rw [HE.out];rfl,by first | exact bel1 _ _ | exact below_drewN (bel1 _ _) _ | exact HBT.out | exact below_drewN HBT.out _⟩
           case neg=>
            have bhu : (nu != 0) = true:=bne_iff_ne.2 hu
            by_cases hu1 : nu = 1
            case pos=>
             have bhu1 : (nu == 1) = true:=beq_iff_eq.2 hu1
             have HE : Hid (r = 0):=by
              show _ = _
              obtain ⟨v1,v2,v3,v4,v5,v6⟩:=HV.out
              rw [<- HR.out]
              unfold fE gPth
              rw [v1,v2,v3,v4,v5,v6]
              simp [ezhz,hm0,hn0,h2,hu1,arI]
             go_wp2
             go_ret
             exact ⟨by rw [HE.out];rfl,by first | exact bel1 _ _ | exact below_drewN (bel1 _ _) _ | exact HBT.out | exact below_drewN HBT.out _⟩
            case neg=>
             have bhu1 : (nu == 1) = false:=bn2 hu1
             have HE : Hid (r = -1):=by
              show _ = _
              obtain ⟨v1,v2,v3,v4,v5,v6⟩:=HV.out
              rw [<- HR.out]
              unfold fE gPth
              rw [v1,v2,v3,v4,v5,v6]
              simp [ezhz,hm0,hn0,h2,hu,hu1,arI]
             go_wp2
             go_ret
             exact ⟨by rw [HE.out];rfl,by first | exact bel1 _ _ | exact below_drewN (bel1 _ _) _ | exact HBT.out | exact below_drewN HBT.out _⟩
          case neg=>
           have bh2 : (op == 2) = false:=bn2 h2
           by_cases hu : nu = 0
           case pos=>
            subst hu
            by_cases h7 : op = 7
            case pos=>
             have bh7 : (op == 7) = true:=beq_iff_eq.2 h7
             have HE : Hid (r = 2):=by
              show _ = _
              obtain ⟨v1,v2,v3,v4,v5,v6⟩:=HV.out
              rw [<- HR.out]
              unfold fE gPth
              rw [v1,v2,v3,v4,v5,v6]
              simp [ezhz,hm0,hn0,h7,arI]
             go_wp2
             go_ret
             exact ⟨by rw [HE.out];rfl,by first | exact bel1 _ _ | exact below_drewN (bel1 _ _) _ | exact HBT.out | exact below_drewN HBT.out _⟩
            case neg=>
             have bh7 : (op == 7) = false:=bn2 h7
             by_cases h9 : op = 9
             case pos=>
              have bh9 : (op == 9) = true:=beq_iff_eq.2 h9
              have HE : Hid (r = 2):=by
               show _ = _
               obtain ⟨v1,v2,v3,v4,v5,v6⟩:=HV.out
               rw [<- HR.out]
               unfold fE gPth
               rw [v1,v2,v3,v4,v5,v6]
               simp [ezhz,hm0,hn0,h9,arI]
              go_wp2
              go_ret
              exact ⟨by rw [HE.out];rfl,by first | exact bel1 _ _ | exact below_drewN (bel1 _ _) _ | exact HBT.out | exact below_drewN HBT.out _⟩
             case neg=>
              have bh9 : (op == 9) = false:=bn2 h9
              by_cases h10 : op = 10
              case pos=>
               have bh10 : (op == 10) = true:=beq_iff_eq.2 h10
               have HE : Hid (r = 2):=by
                show _ = _
                obtain ⟨v1,v2,v3,v4,v5,v6⟩:=HV.out
                rw [<- HR.out]
                unfold fE gPth
                rw [v1,v2,v3,v4,v5,v6]
                simp [ezhz,hm0,hn0,h10,arI]
               go_wp2
               go_ret
               exact ⟨by rw [HE.out];rfl,by first | exact bel1 _ _ | exact below_drewN (bel1 _ _) _ | exact HBT.out | exact below_drewN HBT.out _⟩
              case neg=>
               have bh10 : (op == 10) = false:=bn2 h10
               by_cases h8 : op = 8
               case pos=>
                have bh8 : (op == 8) = true:=beq_iff_eq.2 h8
                have HE : Hid (r = 3):=by
                 show _ = _
                 obtain ⟨v1,v2,v3,v4,v5,v6⟩:=HV.out
                 rw [<- HR.out]
                 unfold fE gPth
                 rw [v1,v2,v3,v4,v5,v6]
                 simp [ezhz,hm0,hn0,h8,arI]
                go_wp2
                go_ret
                exact ⟨by rw [HE.out];rfl,by first | exact bel1 _ _ | exact below_drewN (bel1 _ _) _ | exact HBT.out | exact below_drewN HBT.out _⟩
               case neg=>
                have bh8 : (op == 8) = false:=bn2 h8
                have HE : Hid (r = -1):=by
                 show _ = _
                 obtain ⟨v1,v2,v3,v4,v5,v6⟩:=HV.out
                 rw [<- HR.out]
                 unfold fE gPth
                 rw [v1,v2,v3,v4,v5,v6]
                 simp [h3,ezhz,h6,hm0,h5,h4,hn0,h1,h2,h7,h9,h10,h8,arI]
                go_wp2
                go_ret
                exact ⟨by rw [HE.out];rfl,by first | exact bel1 _ _ | exact below_drewN (bel1 _ _) _ | exact HBT.out | exact below_drewN HBT.out _⟩
           case neg=>
            have bhu : (nu != 0) = true:=bne_iff_ne.2 hu
            have HE : Hid (r = -1):=by
             show _ = _
             obtain ⟨v1,v2,v3,v4,v5,v6⟩:=HV.out
             rw [<- HR.out]
             unfold fE gPth
             rw [v1,v2,v3,v4,v5,v6]
             simp [h3,ezhz,h6,hm0,h5,h4,hn0,h1,h2,hu,arI]
            go_wp2
            go_ret
            exact ⟨by rw [HE.out];rfl,by first | exact bel1 _ _ | exact below_drewN (bel1 _ _) _ | exact HBT.out | exact below_drewN HBT.out _⟩
        case neg=>
         have lhn0 : (0 : Int) < (n : Int):=by omega
         have HE : Hid (r = -1):=by
          show _ = _
          obtain ⟨v1,v2,v3,v4,v5,v6⟩:=HV.out
          rw [<- HR.out]
          unfold fE gPth
          rw [v1,v2,v3,v4,v5,v6]
          simp [h3,ezhz,h6,hm0,h5,h4,hn0,arI]
         go_wp2
         go_ret
         exact ⟨by rw [HE.out];rfl,by first | exact bel1 _ _ | exact below_drewN (bel1 _ _) _ | exact HBT.out | exact below_drewN HBT.out _⟩
      case neg=>
       have emhy : ¬ nm = ByteArray.empty:=em_pos hy
       have lhy : (0 : Int) < (nm.size : Int):=by omega
       have khy : 0 < nm.size:=by omega
       have HE : Hid (r = -1):=by
        show _ = _
        obtain ⟨v1,v2,v3,v4,v5,v6⟩:=HV.out
        rw [<- HR.out]
        unfold fE gPth
        rw [v1,v2,v3,v4,v5,v6]
        simp [h3,ezhz,h6,hm0,h5,hy,arI]
       go_wp2
       go_ret
       exact ⟨by rw [HE.out];rfl,by first | exact bel1 _ _ | exact below_drewN (bel1 _ _) _ | exact HBT.out | exact below_drewN HBT.out _⟩
    case neg=>
     have lhm0 : (0 : Int) < (m : Int):=by omega
     have HE : Hid (r = -1):=by
      show _ = _
      obtain ⟨v1,v2,v3,v4,v5,v6⟩:=HV.out
      rw [<- HR.out]
      unfold fE gPth
      rw [v1,v2,v3,v4,v5,v6]
      simp [h3,ezhz,h6,hm0,arI]
     go_wp2
     go_ret
     exact ⟨by rw [HE.out];rfl,by first | exact bel1 _ _ | exact below_drewN (bel1 _ _) _ | exact HBT.out | exact below_drewN HBT.out _⟩
  case neg=>
   have emhz : ¬ md = ByteArray.empty:=em_pos hz
   have lhz : (0 : Int) < (md.size : Int):=by omega
   have khz : 0 < md.size:=by omega
   have HE : Hid (r = -1):=by
    show _ = _
    obtain ⟨v1,v2,v3,v4,v5,v6⟩:=HV.out
    rw [<- HR.out]
    unfold fE gPth
    rw [v1,v2,v3,v4,v5,v6]
    simp [h3,hz,arI]
   go_wp2
   go_ret
   exact ⟨by rw [HE.out];rfl,by first | exact bel1 _ _ | exact below_drewN (bel1 _ _) _ | exact HBT.out | exact below_drewN HBT.out _⟩
end Go.Proofs.YtcehppndpccldaaGreatDoor
