/-
  VcA
-/
import Derived.Test.YtihedobejcaapaaGreatDoorB2
set_option maxHeartbeats 8000000
set_option maxRecDepth 100000
namespace Go.Proofs.YtihedobejcaapaaGreatDoor
open Go.RowKit
structure Av (w : World) (t : EI) (p : EPl) : Prop where
 ns : lG w p.np t.ns
 len : t.ns.length <= 1048576
 sz : ∀ k,k < t.ns.length -> (t.ns.getD k e0).size <= 1048576
 cap : t.ns.length <= p.np.c
 md : t.md.size <= 1048576
 nm : t.nm.size <= 1048576
 ty : fq w p.tv p.zs
 is : p.zs.map Prod.fst = t.ty
theorem Av.below {w w' : World} {t : EI} {p : EPl} (h : Av w t p) (hb : Bw w w') : Av w' t p:=⟨h.ns.below hb,h.len,h.sz,h.cap,h.md,h.nm,h.ty.below hb,h.is⟩
def v6 (a b c d e f : Value) : Nat -> Value:=fun i=>if i = 0 then a else if i = 1 then b else if i = 2 then c else if i = 3 then d else if i = 4 then e else f
theorem ls (w : World) (a b c d e f : Value) (t : TypeId) : (w.alloc (.cells #[a,b,c,d,e,f] t)).rowIs w.heap.size t 6 (v6 a b c d e f):=
 World.rowIs_alloc w #[a,b,c,d,e,f] t _ (fun i hi=>by
  match i,hi with
  | 0,_=>rfl
  | 1,_=>rfl
  | 2,_=>rfl
  | 3,_=>rfl
  | 4,_=>rfl
  | 5,_=>rfl)
theorem ux (w : World) {t : EI} {p : EPl} (h : Av w t p) {ta : Option Addr} {tc : Nat} (htv : p.tv = .slice ta t.ty.length tc) :
  Calls Tryz.prog 51 #[.agg #[.int .i64 t.op,.int .i64 t.num,.string t.md,.string t.nm,.slice p.np.a t.ns.length p.np.c,.slice ta t.ty.length tc]] w fun e w'=>e = .returned (.int .i64 (dJ (fE t))) /\ Bw w w':=by
 have ah : Hid (∀ W,Bw w W -> Calls Tryz.prog 78 #[.slice p.np.a t.ns.length p.np.c] W fun e w'=>e = .returned (.bool (dN t.ns)) /\ ∃ k,w' = W.drewN k):=fun W hb=>l9 W (h.ns.below hb) h.len h.sz rfl h.cap
 have ab : Hid (∀ W,Bw w W -> Calls Tryz.prog 24 #[.slice ta t.ty.length tc] W fun e w'=>e = .returned (.bool (dH t.ty)) /\ Bw W w'):=fun W hb=>by
  have:=oz W (h.ty.below hb) h.is;rw [htv] at this;exact this
 obtain ⟨op,Y⟩:=xe (t.op);obtain ⟨A,Z⟩:=xe (t.num);obtain ⟨md,N⟩:=xe (t.md);obtain ⟨nm,L⟩:=xe (t.nm);obtain ⟨n,hn⟩:=xe (t.ns.length);obtain ⟨m,hm⟩:=xe (t.ty.length);have s : Hid (t.op = op /\ t.num = A /\ t.md = md /\ t.nm = nm /\ t.ns.length = n /\ t.ty.length = m):=⟨Y.symm,Z.symm,N.symm,L.symm,hn.symm,hm.symm⟩;have zm : md.size <= 9223372036854775807:=by have:=h.md;rw [N];omega
 have zn : nm.size <= 9223372036854775807:=by have:=h.nm;rw [L];omega
 have zl : n <= 1048576:=by have:=h.len;omega
 have zt : m <= 1048576:=by have:=h.ty.len;have e:=congrArg List.length h.is;rw [List.length_map] at e;omega
 rw [<- Y,<- Z,<- N,<- L,<- hn,<- hm];rw [<- hn] at ah;rw [<- hm] at ab;obtain ⟨r,hr⟩:=xe (dJ (fE t));have v : Hid (dJ (fE t) = r):=hr.symm;rw [<- hr];have G : Hid (∀ W,Calls Tryz.prog 23 #[.string nm] W fun e w'=>e = .returned (.bool (gn nm)) /\ w' = W):=fun W=>Bl nm W zn;have a3 : Hid (∀ W,Calls Tryz.prog 23 #[.string md] W fun e w'=>e = .returned (.bool (gn md)) /\ w' = W):=fun W=>Bl md W zm;clear h Y Z N L hn hm hr htv;go_enter Tryz.func51,Tryz.ntmps51;by_cases D : op = 3
 case pos=>
  have b9 : (op == 3) = true:=beq_iff_eq.2 D;cases hg : gn nm
  case false=>
   have x:=G;rw [hg] at x
   have f : Hid (r = -1):=by
    show _ = _;obtain ⟨g,v2,v3,v4,j,v6⟩:=s.out;rw [<- v.out];unfold fE aI;rw [g,v2,v3,v4,j,v6];simp [D,hg,dJ]
   go_wp2_with (first | (go_at_call 23;(with_reducible refine (x.out _).mono ?_);rintro e w' ⟨rfl,rfl⟩));go_ret;exact ⟨by rw [f.out];rfl,by first | exact bel1 _ _ | exact below_drewN (bel1 _ _) _ | exact b.out | exact below_drewN b.out _⟩
  case true=>
   have x:=G;rw [hg] at x;by_cases J : md.size = 0
   case pos=>
    have F : md = ByteArray.empty:=bJ J;subst F;have d : (ByteArray.empty).size = 0:=rfl;by_cases z : A = 0
    case pos=>
     subst z;by_cases q : n = 0
     case pos=>
      have y : ¬ (0 : Int) < (n : Int):=by omega
      by_cases l : m = 0
      case pos=>
       have E : ¬ (0 : Int) < (m : Int):=by omega
       have f : Hid (r = 0):=by
        show _ = _;obtain ⟨g,v2,v3,v4,j,v6⟩:=s.out;rw [<- v.out];unfold fE aI;rw [g,v2,v3,v4,j,v6];simp [D,hg,d,q,l,dJ]
       go_wp2_with (first | (go_at_call 23;(with_reducible refine (x.out _).mono ?_);rintro e w' ⟨rfl,rfl⟩));go_ret;exact ⟨by rw [f.out];rfl,by first | exact bel1 _ _ | exact below_drewN (bel1 _ _) _ | exact b.out | exact below_drewN b.out _⟩
      case neg=>
       have E : (0 : Int) < (m : Int):=by omega
       have f : Hid (r = -1):=by
        show _ = _;obtain ⟨g,v2,v3,v4,j,v6⟩:=s.out;rw [<- v.out];unfold fE aI;rw [g,v2,v3,v4,j,v6];simp [D,hg,d,q,l,dJ]
       go_wp2_with (first | (go_at_call 23;(with_reducible refine (x.out _).mono ?_);rintro e w' ⟨rfl,rfl⟩));go_ret;exact ⟨by rw [f.out];rfl,by first | exact bel1 _ _ | exact below_drewN (bel1 _ _) _ | exact b.out | exact below_drewN b.out _⟩
     case neg=>
      have y : (0 : Int) < (n : Int):=by omega
      have f : Hid (r = -1):=by
       show _ = _;obtain ⟨g,v2,v3,v4,j,v6⟩:=s.out;rw [<- v.out];unfold fE aI;rw [g,v2,v3,v4,j,v6];simp [D,hg,d,q,dJ]
      go_wp2_with (first | (go_at_call 23;(with_reducible refine (x.out _).mono ?_);rintro e w' ⟨rfl,rfl⟩));go_ret;exact ⟨by rw [f.out];rfl,by first | exact bel1 _ _ | exact below_drewN (bel1 _ _) _ | exact b.out | exact below_drewN b.out _⟩
    case neg=>
     have H : (A != 0) = true:=bne_iff_ne.2 z
     have f : Hid (r = -1):=by
      show _ = _;obtain ⟨g,v2,v3,v4,j,v6⟩:=s.out;rw [<- v.out];unfold fE aI;rw [g,v2,v3,v4,j,v6];simp [D,hg,d,z,dJ]
     go_wp2_with (first | (go_at_call 23;(with_reducible refine (x.out _).mono ?_);rintro e w' ⟨rfl,rfl⟩));go_ret;exact ⟨by rw [f.out];rfl,by first | exact bel1 _ _ | exact below_drewN (bel1 _ _) _ | exact b.out | exact below_drewN b.out _⟩
   case neg=>
    have F : ¬ md = ByteArray.empty:=fZ J;have b3 : (0 : Int) < (md.size : Int):=by omega
    have bs : 0 < md.size:=by omega
    cases hgm : gn md
    case false=>
     have Q:=a3;rw [hgm] at Q
     have f : Hid (r = -1):=by
      show _ = _;obtain ⟨g,v2,v3,v4,j,v6⟩:=s.out;rw [<- v.out];unfold fE aI;rw [g,v2,v3,v4,j,v6];simp [D,hg,J,hgm,dJ]
     go_wp2_with (first | (go_at_call 23;(with_reducible refine (x.out _).mono ?_);rintro e w' ⟨rfl,rfl⟩) | (go_at_call 23;(with_reducible refine (Q.out _).mono ?_);rintro e w' ⟨rfl,rfl⟩));go_ret;exact ⟨by rw [f.out];rfl,by first | exact bel1 _ _ | exact below_drewN (bel1 _ _) _ | exact b.out | exact below_drewN b.out _⟩
    case true=>
     have Q:=a3;rw [hgm] at Q;by_cases z : A = 0
     case pos=>
      subst z;by_cases q : n = 0
      case pos=>
       have y : ¬ (0 : Int) < (n : Int):=by omega
       by_cases l : m = 0
       case pos=>
        have E : ¬ (0 : Int) < (m : Int):=by omega
        have f : Hid (r = 0):=by
         show _ = _;obtain ⟨g,v2,v3,v4,j,v6⟩:=s.out;rw [<- v.out];unfold fE aI;rw [g,v2,v3,v4,j,v6];simp [D,hg,J,hgm,q,l,dJ]
        go_wp2_with (first | (go_at_call 23;(with_reducible refine (x.out _).mono ?_);rintro e w' ⟨rfl,rfl⟩) | (go_at_call 23;(with_reducible refine (Q.out _).mono ?_);rintro e w' ⟨rfl,rfl⟩));go_ret;exact ⟨by rw [f.out];rfl,by first | exact bel1 _ _ | exact below_drewN (bel1 _ _) _ | exact b.out | exact below_drewN b.out _⟩
       case neg=>
        have E : (0 : Int) < (m : Int):=by omega
        have f : Hid (r = -1):=by
         show _ = _;obtain ⟨g,v2,v3,v4,j,v6⟩:=s.out;rw [<- v.out];unfold fE aI;rw [g,v2,v3,v4,j,v6];simp [D,hg,J,hgm,q,l,dJ]
        go_wp2_with (first | (go_at_call 23;(with_reducible refine (x.out _).mono ?_);rintro e w' ⟨rfl,rfl⟩) | (go_at_call 23;(with_reducible refine (Q.out _).mono ?_);rintro e w' ⟨rfl,rfl⟩));go_ret;exact ⟨by rw [f.out];rfl,by first | exact bel1 _ _ | exact below_drewN (bel1 _ _) _ | exact b.out | exact below_drewN b.out _⟩
      case neg=>
       have y : (0 : Int) < (n : Int):=by omega
       have f : Hid (r = -1):=by
        show _ = _;obtain ⟨g,v2,v3,v4,j,v6⟩:=s.out;rw [<- v.out];unfold fE aI;rw [g,v2,v3,v4,j,v6];simp [D,hg,J,hgm,q,dJ]
       go_wp2_with (first | (go_at_call 23;(with_reducible refine (x.out _).mono ?_);rintro e w' ⟨rfl,rfl⟩) | (go_at_call 23;(with_reducible refine (Q.out _).mono ?_);rintro e w' ⟨rfl,rfl⟩));go_ret;exact ⟨by rw [f.out];rfl,by first | exact bel1 _ _ | exact below_drewN (bel1 _ _) _ | exact b.out | exact below_drewN b.out _⟩
     case neg=>
      have H : (A != 0) = true:=bne_iff_ne.2 z
      have f : Hid (r = -1):=by
       show _ = _;obtain ⟨g,v2,v3,v4,j,v6⟩:=s.out;rw [<- v.out];unfold fE aI;rw [g,v2,v3,v4,j,v6];simp [D,hg,J,hgm,z,dJ]
      go_wp2_with (first | (go_at_call 23;(with_reducible refine (x.out _).mono ?_);rintro e w' ⟨rfl,rfl⟩) | (go_at_call 23;(with_reducible refine (Q.out _).mono ?_);rintro e w' ⟨rfl,rfl⟩));go_ret;exact ⟨by rw [f.out];rfl,by first | exact bel1 _ _ | exact below_drewN (bel1 _ _) _ | exact b.out | exact below_drewN b.out _⟩
 case neg=>
  have b9 : (op == 3) = false:=bn2 D;by_cases J : md.size = 0
  case pos=>
   have F : md = ByteArray.empty:=bJ J;subst F;have d : (ByteArray.empty).size = 0:=rfl;by_cases I : op = 6
   case pos=>
    have b0 : (op == 6) = true:=beq_iff_eq.2 I
    have M : Hid (∀ (o u : Int) (k : Nat) (C : World),Below (w.alloc (.cells #[.int .i64 o,.int .i64 u,.string ByteArray.empty,.string nm,.slice p.np.a k p.np.c,.slice ta m tc] 65)).heap.size (w.alloc (.cells #[.int .i64 o,.int .i64 u,.string ByteArray.empty,.string nm,.slice p.np.a k p.np.c,.slice ta m tc] 65)) C -> C.cell? ⟨w.heap.size,0,none⟩ = some (.int .i64 o) /\ C.cell? ⟨w.heap.size,1,none⟩ = some (.int .i64 u) /\ C.cell? ⟨w.heap.size,2,none⟩ = some (.string ByteArray.empty) /\ C.cell? ⟨w.heap.size,3,none⟩ = some (.string nm) /\ C.cell? ⟨w.heap.size,4,none⟩ = some (.slice p.np.a k p.np.c) /\ C.cell? ⟨w.heap.size,5,none⟩ = some (.slice ta m tc)):=fun o u k C hb=>by
     have R:=ls w (.int .i64 o) (.int .i64 u) (.string ByteArray.empty) (.string nm) (.slice p.np.a k p.np.c) (.slice ta m tc) 65;have R2:=R.of_block (hb.block _ R.lt);exact ⟨R2.cell (i:=0) (by omega),R2.cell (i:=1) (by omega),R2.cell (i:=2) (by omega),R2.cell (i:=3) (by omega),R2.cell (i:=4) (by omega),R2.cell (i:=5) (by omega)⟩
    cases hg : gn nm
    case false=>
     have x:=G;rw [hg] at x
     have f : Hid (r = -1):=by
      show _ = _;obtain ⟨g,v2,v3,v4,j,v6⟩:=s.out;rw [<- v.out];unfold fE aI;rw [g,v2,v3,v4,j,v6];simp [d,I,hg,dJ]
     go_wp2_with (first | (go_at_call 23;(with_reducible refine (x.out _).mono ?_);rintro e w' ⟨rfl,rfl⟩));go_ret;exact ⟨by rw [f.out];rfl,by first | exact bel1 _ _ | exact below_drewN (bel1 _ _) _ | exact b.out | exact below_drewN b.out _⟩
    case true=>
     have x:=G;rw [hg] at x;cases ht : dH t.ty
     case false=>
      have CT:=ab;rw [ht] at CT
      have f : Hid (r = -1):=by
       show _ = _;obtain ⟨g,v2,v3,v4,j,v6⟩:=s.out;rw [<- v.out];unfold fE aI;rw [g,v2,v3,v4,j,v6];simp [d,I,hg,ht,dJ]
      go_wp2_with (first | (go_at_call 23;(with_reducible refine (x.out _).mono ?_);rintro e w' ⟨rfl,rfl⟩) | (go_at_call 24;(refine (CT.out _ (by first | exact bel1 _ _)).mono ?_);rintro e C ⟨rfl,B⟩;have b : Hid (Bw w C):=(bel1 _ _).trans (B.mono (by simp));obtain ⟨q0,q1,q2,q3,q4,q5⟩:=M.out _ _ _ C B));go_ret;exact ⟨by rw [f.out];rfl,by first | exact bel1 _ _ | exact below_drewN (bel1 _ _) _ | exact b.out | exact below_drewN b.out _⟩
     case true=>
      have CT:=ab;rw [ht] at CT;by_cases z : A = 0
      case pos=>
       subst z;by_cases q : n = 0
       case pos=>
        have y : ¬ (0 : Int) < (n : Int):=by omega
        have f : Hid (r = 1):=by
         show _ = _;obtain ⟨g,v2,v3,v4,j,v6⟩:=s.out;rw [<- v.out];unfold fE aI;rw [g,v2,v3,v4,j,v6];simp [d,I,hg,ht,q,dJ]
        go_wp2_with (first | (go_at_call 23;(with_reducible refine (x.out _).mono ?_);rintro e w' ⟨rfl,rfl⟩) | (go_at_call 24;(refine (CT.out _ (by first | exact bel1 _ _)).mono ?_);rintro e C ⟨rfl,B⟩;have b : Hid (Bw w C):=(bel1 _ _).trans (B.mono (by simp));obtain ⟨q0,q1,q2,q3,q4,q5⟩:=M.out _ _ _ C B));go_ret;exact ⟨by rw [f.out];rfl,by first | exact bel1 _ _ | exact below_drewN (bel1 _ _) _ | exact b.out | exact below_drewN b.out _⟩
       case neg=>
        have y : (0 : Int) < (n : Int):=by omega
        have f : Hid (r = -1):=by
         show _ = _;obtain ⟨g,v2,v3,v4,j,v6⟩:=s.out;rw [<- v.out];unfold fE aI;rw [g,v2,v3,v4,j,v6];simp [d,I,hg,ht,q,dJ]
        go_wp2_with (first | (go_at_call 23;(with_reducible refine (x.out _).mono ?_);rintro e w' ⟨rfl,rfl⟩) | (go_at_call 24;(refine (CT.out _ (by first | exact bel1 _ _)).mono ?_);rintro e C ⟨rfl,B⟩;have b : Hid (Bw w C):=(bel1 _ _).trans (B.mono (by simp));obtain ⟨q0,q1,q2,q3,q4,q5⟩:=M.out _ _ _ C B));go_ret;exact ⟨by rw [f.out];rfl,by first | exact bel1 _ _ | exact below_drewN (bel1 _ _) _ | exact b.out | exact below_drewN b.out _⟩
      case neg=>
       have H : (A != 0) = true:=bne_iff_ne.2 z
       have f : Hid (r = -1):=by
        show _ = _;obtain ⟨g,v2,v3,v4,j,v6⟩:=s.out;rw [<- v.out];unfold fE aI;rw [g,v2,v3,v4,j,v6];simp [d,I,hg,ht,z,dJ]
       go_wp2_with (first | (go_at_call 23;(with_reducible refine (x.out _).mono ?_);rintro e w' ⟨rfl,rfl⟩) | (go_at_call 24;(refine (CT.out _ (by first | exact bel1 _ _)).mono ?_);rintro e C ⟨rfl,B⟩;have b : Hid (Bw w C):=(bel1 _ _).trans (B.mono (by simp));obtain ⟨q0,q1,q2,q3,q4,q5⟩:=M.out _ _ _ C B));go_ret;exact ⟨by rw [f.out];rfl,by first | exact bel1 _ _ | exact below_drewN (bel1 _ _) _ | exact b.out | exact below_drewN b.out _⟩
   case neg=>
    have b0 : (op == 6) = false:=bn2 I;by_cases l : m = 0
    case pos=>
     have E : ¬ (0 : Int) < (m : Int):=by omega
     by_cases K : op = 5
     case pos=>
      have b7 : (op == 5) = true:=beq_iff_eq.2 K;cases hg : gn nm
      case false=>
       have x:=G;rw [hg] at x
       have f : Hid (r = -1):=by
        show _ = _;obtain ⟨g,v2,v3,v4,j,v6⟩:=s.out;rw [<- v.out];unfold fE aI;rw [g,v2,v3,v4,j,v6];simp [d,l,K,hg,dJ]
       go_wp2_with (first | (go_at_call 23;(with_reducible refine (x.out _).mono ?_);rintro e w' ⟨rfl,rfl⟩));go_ret;exact ⟨by rw [f.out];rfl,by first | exact bel1 _ _ | exact below_drewN (bel1 _ _) _ | exact b.out | exact below_drewN b.out _⟩
      case true=>
       have x:=G;rw [hg] at x;by_cases z : A = 0
       case pos=>
        subst z;by_cases q : n = 0
        case pos=>
         have y : ¬ (0 : Int) < (n : Int):=by omega
         have f : Hid (r = 1):=by
          show _ = _;obtain ⟨g,v2,v3,v4,j,v6⟩:=s.out;rw [<- v.out];unfold fE aI;rw [g,v2,v3,v4,j,v6];simp [d,l,K,hg,q,dJ]
         go_wp2_with (first | (go_at_call 23;(with_reducible refine (x.out _).mono ?_);rintro e w' ⟨rfl,rfl⟩));go_ret;exact ⟨by rw [f.out];rfl,by first | exact bel1 _ _ | exact below_drewN (bel1 _ _) _ | exact b.out | exact below_drewN b.out _⟩
        case neg=>
         have y : (0 : Int) < (n : Int):=by omega
         have f : Hid (r = -1):=by
          show _ = _;obtain ⟨g,v2,v3,v4,j,v6⟩:=s.out;rw [<- v.out];unfold fE aI;rw [g,v2,v3,v4,j,v6];simp [d,l,K,hg,q,dJ]
         go_wp2_with (first | (go_at_call 23;(with_reducible refine (x.out _).mono ?_);rintro e w' ⟨rfl,rfl⟩));go_ret;exact ⟨by rw [f.out];rfl,by first | exact bel1 _ _ | exact below_drewN (bel1 _ _) _ | exact b.out | exact below_drewN b.out _⟩
       case neg=>
        have H : (A != 0) = true:=bne_iff_ne.2 z
        have f : Hid (r = -1):=by
         show _ = _;obtain ⟨g,v2,v3,v4,j,v6⟩:=s.out;rw [<- v.out];unfold fE aI;rw [g,v2,v3,v4,j,v6];simp [d,l,K,hg,z,dJ]
        go_wp2_with (first | (go_at_call 23;(with_reducible refine (x.out _).mono ?_);rintro e w' ⟨rfl,rfl⟩));go_ret;exact ⟨by rw [f.out];rfl,by first | exact bel1 _ _ | exact below_drewN (bel1 _ _) _ | exact b.out | exact below_drewN b.out _⟩
     case neg=>
      have b7 : (op == 5) = false:=bn2 K;by_cases hy : nm.size = 0
      case pos=>
       have S : nm = ByteArray.empty:=bJ hy;subst S;have ca : (ByteArray.empty).size = 0:=rfl;by_cases T : op = 4
       case pos=>
        have b1 : (op == 4) = true:=beq_iff_eq.2 T;by_cases z : A = 0
        case pos=>
         subst z;cases ho : dN t.ns
         case false=>
          have CN:=ah;rw [ho] at CN
          have f : Hid (r = -1):=by
           show _ = _;obtain ⟨g,v2,v3,v4,j,v6⟩:=s.out;rw [<- v.out];unfold fE aI;rw [g,v2,v3,v4,j,v6];simp [d,l,T,ho,dJ]
          go_wp2_with (first | (go_at_call 78;(refine (CN.out _ (by first | exact bel1 _ _ | exact b.out)).mono ?_);rintro e w' ⟨rfl,kk,rfl⟩));go_ret;exact ⟨by rw [f.out];rfl,by first | exact bel1 _ _ | exact below_drewN (bel1 _ _) _ | exact b.out | exact below_drewN b.out _⟩
         case true=>
          have CN:=ah;rw [ho] at CN
          have f : Hid (r = (n : Int)):=by
           show _ = _;obtain ⟨g,v2,v3,v4,j,v6⟩:=s.out;rw [<- v.out];unfold fE aI;rw [g,v2,v3,v4,v6];simp [d,l,T,ho,dJ];rw [(bq _ _ _).2.1,j]
          go_wp2_with (first | (go_at_call 78;(refine (CN.out _ (by first | exact bel1 _ _ | exact b.out)).mono ?_);rintro e w' ⟨rfl,kk,rfl⟩));go_ret;exact ⟨by rw [f.out];rfl,by first | exact bel1 _ _ | exact below_drewN (bel1 _ _) _⟩
        case neg=>
         have H : (A != 0) = true:=bne_iff_ne.2 z
         have f : Hid (r = -1):=by
          show _ = _;obtain ⟨g,v2,v3,v4,j,v6⟩:=s.out;rw [<- v.out];unfold fE aI;rw [g,v2,v3,v4,j,v6];simp [d,l,T,z,dJ]
         go_wp2;go_ret;exact ⟨by rw [f.out];rfl,by first | exact bel1 _ _ | exact below_drewN (bel1 _ _) _ | exact b.out | exact below_drewN b.out _⟩
       case neg=>
        have b1 : (op == 4) = false:=bn2 T;by_cases q : n = 0
        case pos=>
         have y : ¬ (0 : Int) < (n : Int):=by omega
         by_cases U : op = 1
         case pos=>
          have bv : (op == 1) = true:=beq_iff_eq.2 U;by_cases V : 0 <= A
          case pos=>
           by_cases a2 : A <= 999999999
           case pos=>
            have f : Hid (r = 0):=by
             show _ = _;obtain ⟨g,v2,v3,v4,j,v6⟩:=s.out;rw [<- v.out];unfold fE aI;rw [g,v2,v3,v4,j,v6];simp [d,l,q,U,V,a2,dJ]
            go_wp2;go_ret;exact ⟨by rw [f.out];rfl,by first | exact bel1 _ _ | exact below_drewN (bel1 _ _) _ | exact b.out | exact below_drewN b.out _⟩
           case neg=>
            have ao : ¬ A = 0:=by omega
            have b5 : (A != 0) = true:=bne_iff_ne.2 ao
            have f : Hid (r = -1):=by
             show _ = _;obtain ⟨g,v2,v3,v4,j,v6⟩:=s.out;rw [<- v.out];unfold fE aI;rw [g,v2,v3,v4,j,v6];simp [d,l,q,U,V,a2,dJ]
            go_wp2;go_ret;exact ⟨by rw [f.out];rfl,by first | exact bel1 _ _ | exact below_drewN (bel1 _ _) _ | exact b.out | exact below_drewN b.out _⟩
          case neg=>
           have ao : ¬ A = 0:=by omega
           have b5 : (A != 0) = true:=bne_iff_ne.2 ao
           have f : Hid (r = -1):=by
            show _ = _;obtain ⟨g,v2,v3,v4,j,v6⟩:=s.out;rw [<- v.out];unfold fE aI;rw [g,v2,v3,v4,j,v6];simp [d,l,q,U,V,dJ]
           go_wp2;go_ret;exact ⟨by rw [f.out];rfl,by first | exact bel1 _ _ | exact below_drewN (bel1 _ _) _ | exact b.out | exact below_drewN b.out _⟩
         case neg=>
          have bv : (op == 1) = false:=bn2 U;by_cases X : op = 2
          case pos=>
           have bf : (op == 2) = true:=beq_iff_eq.2 X;by_cases z : A = 0
           case pos=>
            subst z
            have f : Hid (r = 0):=by
             show _ = _;obtain ⟨g,v2,v3,v4,j,v6⟩:=s.out;rw [<- v.out];unfold fE aI;rw [g,v2,v3,v4,j,v6];simp [d,l,q,X,dJ]
            go_wp2;go_ret;exact ⟨by rw [f.out];rfl,by first | exact bel1 _ _ | exact below_drewN (bel1 _ _) _ | exact b.out | exact below_drewN b.out _⟩
           case neg=>
            have H : (A != 0) = true:=bne_iff_ne.2 z;by_cases P : A = 1
            case pos=>
             have a1 : (A == 1) = true:=beq_iff_eq.2 P
             have f : Hid (r = 0):=by
              show _ = _;obtain ⟨g,v2,v3,v4,j,v6⟩:=s.out;rw [<- v.out];unfold fE aI;rw [g,v2,v3,v4,j,v6];simp [d,l,q,X,P,dJ]
             go_wp2;go_ret;exact ⟨by rw [f.out];rfl,by first | exact bel1 _ _ | exact below_drewN (bel1 _ _) _ | exact b.out | exact below_drewN b.out _⟩
            case neg=>
             have a1 : (A == 1) = false:=bn2 P
             have f : Hid (r = -1):=by
              show _ = _;obtain ⟨g,v2,v3,v4,j,v6⟩:=s.out;rw [<- v.out];unfold fE aI;rw [g,v2,v3,v4,j,v6];simp [d,l,q,X,z,P,dJ]
             go_wp2;go_ret;exact ⟨by rw [f.out];rfl,by first | exact bel1 _ _ | exact below_drewN (bel1 _ _) _ | exact b.out | exact below_drewN b.out _⟩
          case neg=>
           have bf : (op == 2) = false:=bn2 X;by_cases z : A = 0
           case pos=>
            subst z;by_cases h7 : op = 7
            case pos=>
             have b8 : (op == 7) = true:=beq_iff_eq.2 h7
             have f : Hid (r = 2):=by
              show _ = _;obtain ⟨g,v2,v3,v4,j,v6⟩:=s.out;rw [<- v.out];unfold fE aI;rw [g,v2,v3,v4,j,v6];simp [d,l,q,h7,dJ]
             go_wp2;go_ret;exact ⟨by rw [f.out];rfl,by first | exact bel1 _ _ | exact below_drewN (bel1 _ _) _ | exact b.out | exact below_drewN b.out _⟩
            case neg=>
             have b8 : (op == 7) = false:=bn2 h7;by_cases h9 : op = 9
             case pos=>
              have bb : (op == 9) = true:=beq_iff_eq.2 h9
              have f : Hid (r = 2):=by
               show _ = _;obtain ⟨g,v2,v3,v4,j,v6⟩:=s.out;rw [<- v.out];unfold fE aI;rw [g,v2,v3,v4,j,v6];simp [d,l,q,h9,dJ]
              go_wp2;go_ret;exact ⟨by rw [f.out];rfl,by first | exact bel1 _ _ | exact below_drewN (bel1 _ _) _ | exact b.out | exact below_drewN b.out _⟩
             case neg=>
              have bb : (op == 9) = false:=bn2 h9;by_cases O : op = 10
              case pos=>
               have a0 : (op == 10) = true:=beq_iff_eq.2 O
               have f : Hid (r = 2):=by
                show _ = _;obtain ⟨g,v2,v3,v4,j,v6⟩:=s.out;rw [<- v.out];unfold fE aI;rw [g,v2,v3,v4,j,v6];simp [d,l,q,O,dJ]
               go_wp2;go_ret;exact ⟨by rw [f.out];rfl,by first | exact bel1 _ _ | exact below_drewN (bel1 _ _) _ | exact b.out | exact below_drewN b.out _⟩
              case neg=>
               have a0 : (op == 10) = false:=bn2 O;by_cases h8 : op = 8
               case pos=>
                have b2 : (op == 8) = true:=beq_iff_eq.2 h8
                have f : Hid (r = 3):=by
                 show _ = _;obtain ⟨g,v2,v3,v4,j,v6⟩:=s.out;rw [<- v.out];unfold fE aI;rw [g,v2,v3,v4,j,v6];simp [d,l,q,h8,dJ]
                go_wp2;go_ret;exact ⟨by rw [f.out];rfl,by first | exact bel1 _ _ | exact below_drewN (bel1 _ _) _ | exact b.out | exact below_drewN b.out _⟩
               case neg=>
                have b2 : (op == 8) = false:=bn2 h8
                have f : Hid (r = -1):=by
                 show _ = _;obtain ⟨g,v2,v3,v4,j,v6⟩:=s.out;rw [<- v.out];unfold fE aI;rw [g,v2,v3,v4,j,v6];simp [D,d,I,l,K,T,q,U,X,h7,h9,O,h8,dJ]
                go_wp2;go_ret;exact ⟨by rw [f.out];rfl,by first | exact bel1 _ _ | exact below_drewN (bel1 _ _) _ | exact b.out | exact below_drewN b.out _⟩
           case neg=>
            have H : (A != 0) = true:=bne_iff_ne.2 z
            have f : Hid (r = -1):=by
             show _ = _;obtain ⟨g,v2,v3,v4,j,v6⟩:=s.out;rw [<- v.out];unfold fE aI;rw [g,v2,v3,v4,j,v6];simp [D,d,I,l,K,T,q,U,X,z,dJ]
            go_wp2;go_ret;exact ⟨by rw [f.out];rfl,by first | exact bel1 _ _ | exact below_drewN (bel1 _ _) _ | exact b.out | exact below_drewN b.out _⟩
        case neg=>
         have y : (0 : Int) < (n : Int):=by omega
         have f : Hid (r = -1):=by
          show _ = _;obtain ⟨g,v2,v3,v4,j,v6⟩:=s.out;rw [<- v.out];unfold fE aI;rw [g,v2,v3,v4,j,v6];simp [D,d,I,l,K,T,q,dJ]
         go_wp2;go_ret;exact ⟨by rw [f.out];rfl,by first | exact bel1 _ _ | exact below_drewN (bel1 _ _) _ | exact b.out | exact below_drewN b.out _⟩
      case neg=>
       have S : ¬ nm = ByteArray.empty:=fZ hy;have cb : (0 : Int) < (nm.size : Int):=by omega
       have cc : 0 < nm.size:=by omega
       have f : Hid (r = -1):=by
        show _ = _;obtain ⟨g,v2,v3,v4,j,v6⟩:=s.out;rw [<- v.out];unfold fE aI;rw [g,v2,v3,v4,j,v6];simp [D,d,I,l,K,hy,dJ]
       go_wp2;go_ret;exact ⟨by rw [f.out];rfl,by first | exact bel1 _ _ | exact below_drewN (bel1 _ _) _ | exact b.out | exact below_drewN b.out _⟩
    case neg=>
     have E : (0 : Int) < (m : Int):=by omega
     have f : Hid (r = -1):=by
      show _ = _;obtain ⟨g,v2,v3,v4,j,v6⟩:=s.out;rw [<- v.out];unfold fE aI;rw [g,v2,v3,v4,j,v6];simp [D,d,I,l,dJ]
     go_wp2;go_ret;exact ⟨by rw [f.out];rfl,by first | exact bel1 _ _ | exact below_drewN (bel1 _ _) _ | exact b.out | exact below_drewN b.out _⟩
  case neg=>
   have F : ¬ md = ByteArray.empty:=fZ J;have b3 : (0 : Int) < (md.size : Int):=by omega
   have bs : 0 < md.size:=by omega
   have f : Hid (r = -1):=by
    show _ = _;obtain ⟨g,v2,v3,v4,j,v6⟩:=s.out;rw [<- v.out];unfold fE aI;rw [g,v2,v3,v4,j,v6];simp [D,J,dJ]
   go_wp2;go_ret;exact ⟨by rw [f.out];rfl,by first | exact bel1 _ _ | exact below_drewN (bel1 _ _) _ | exact b.out | exact below_drewN b.out _⟩
end Go.Proofs.YtihedobejcaapaaGreatDoor
