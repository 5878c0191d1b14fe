/-
  SpL SpP
-/
import Derived.Test.YtihedobejcaapaaGreatDoorF6
import Derived.Test.YtihedobejcaapaaGreatDoorG1
import Derived.Test.YtihedobejcaapaaGreatDoorE6
import Derived.Test.YtihedobejcaapaaGreatDoorH1
import Derived.Deep.RegionHeld3
import Derived.Test.YtihedobejcaapaaGreatDoorRows
import Derived.Test.YtihedobejcaapaaGreatDoorTie
import Derived.Test.YtihedobejcaapaaGreatDoorCards
import Derived.WalkKit
import Derived.ProofKit
import Derived.OpenShut
import Derived.ChangeOld
import Derived.Below
import Derived.Deep.Slices
import Derived.LaidMore
import Derived.Lay
import Derived.SevenTiedAt
import Derived.Stop.Joined
import Derived.Stop.LaidErr
import Derived.OpenVars
import Derived.Shelf.Vars
import Derived.HandedShaped
import Derived.Lib.LaidTab
set_option maxHeartbeats 4000000
set_option maxRecDepth 100000
namespace Go.Proofs.YtihedobejcaapaaGreatDoor
open Go.RowKit
theorem fV.rd {w : World} {v : Value} {xs : List (DC × DPl)} (h : fV w v xs) : ∃ B,RD B w v xs:=by
 obtain ⟨a,r⟩:=h.own;exact ⟨0,aq r (Nat.zero_le _),fun x hx=>(h.ok x hx).rdok⟩
theorem xT {ds : List DC} (h : fS ds = false) : (pD ds).size = 0:=by
 unfold pD;rw [h];rfl
theorem zG (l : List DC) : (pD l).size <= 1000:=by
 unfold pD
 split
 ·rename_i h
  unfold fS at h;simp only [Bool.and_eq_true,decide_eq_true_eq] at h;exact h.2
 ·show (0 : Nat) <= 1000
  omega
theorem CC {p : Prop} (h : p) : Hid p:=h
theorem ym (w : World) {ca : Option Addr} {cb co Ln cc : Nat} {C : Nat -> Nat} (hC : am w ca cb co Ln C) (m : Int) (hm : w.cell? ⟨1,0,none⟩ = some (.int .i64 m)) {eT : TypeId} {eV : Value} (hev : w.cell? ⟨0,0,none⟩ = some (.iface eT eV)) (hten : sq w) :
  Calls Tryz.prog 3 #[.slice ca Ln cc] w fun e w'=>e = .returned (.bool true) /\ Bw w w':=by
 by_cases b9 : (1048576 : Int) < (Ln : Int)
 ·clear hC hm hev hten
  go_enter Tryz.func3,Tryz.ntmps3;go_wp2;go_ret;exact ⟨rfl,Below.refl _ _⟩
 have bp : Ln <= 1048576:=by omega
 obtain ⟨b,X⟩:=xe (oQ C Ln)
 have ab : Hid (∀ W,Bw w W -> Calls Tryz.prog 4 #[.slice ca Ln cc] W fun e w'=>wL W b e w' /\ ig b):=fun W hb=>by
  rw [X];exact vY W (hC.below hb) bp
 have bL : Hid (∀ (s : ByteArray) (W : World),s.size <= 1000 -> Bw w W -> Calls Tryz.prog 8 #[.string s] W (xd W (cF true ((bB s).length + 1) (bB s)))):=fun s W S hb=>yg s m W (by omega) ((hb.cell (p:=⟨1,0,none⟩) (blt hm)).trans hm) ((hb.cell (p:=⟨0,0,none⟩) (blt hev)).trans hev);have bo : Hid (∀ W,Bw w W -> sq W):=fun W hb=>hten.below hb;have C1:=ab.out w (Below.refl _ _);clear hC hm hev hten X;go_enter Tryz.func3,Tryz.ntmps3;go_wp2_with fail;refine C1.mono ?_;rintro e w1 ⟨⟨⟨va,O,T,rfl,Z⟩,ah⟩,f⟩;clear C1;have bs : Hid (ig b):=f;clear f;obtain ⟨Q,y⟩:=xe (w1.alloc (.cells #[.slice va O T] 25));have k : Hid (Bw w1 Q):=by rw [y];exact bel1 _ _
 have J : Hid (Bw w Q):=ah.out.trans (k.out.mono ah.out.size)
 have a0 : Hid (∀ W,Bw Q W -> W.cell? ⟨w1.heap.size,0,none⟩ = some (.slice va O T) /\ ∃ g,fV W (.slice va O T) g /\ O = g.length /\ g.map Prod.fst = b):=fun W hb=>by
  have r : Q.rowIs w1.heap.size 25 1 (fun _=>.slice va O T):=by rw [y];exact aK _ _ _
  obtain ⟨g,q,D,t⟩:=Z.out;exact ⟨(r.of_block (hb.block _ r.lt)).cell (i:=0) (by omega),g,q.below (k.out.trans (hb.mono k.out.size)),D,t⟩
 have C2:=ab.out Q J.out;clear Z;go_upto_region 4 with fail;rw [<- y];clear y;go_wp2_with fail;refine C2.mono ?_;rintro e P ⟨⟨⟨F,x,E,rfl,ao⟩,A⟩,f⟩;clear C2 f;obtain ⟨a,v⟩:=xe (P.alloc (.cells #[.slice F x E] 25));have n : Hid (Bw P a):=by rw [v];exact bel1 _ _
 have l : Hid (Bw Q a):=A.out.trans (n.out.mono A.out.size);have K : Hid (Bw w a):=J.out.trans (l.out.mono J.out.size)
 have z : Hid (∀ W,Bw a W -> W.cell? ⟨P.heap.size,0,none⟩ = some (.slice F x E) /\ ∃ g,fV W (.slice F x E) g /\ x = g.length /\ g.map Prod.fst = b):=fun W hb=>by
  have r : a.rowIs P.heap.size 25 1 (fun _=>.slice F x E):=by rw [v];exact aK _ _ _
  obtain ⟨g,q,D,t⟩:=ao.out;exact ⟨(r.of_block (hb.block _ r.lt)).cell (i:=0) (by omega),g,q.below (n.out.trans (hb.mono n.out.size)),D,t⟩
 clear ao;go_upto_region 5 with fail;rw [<- v];clear v;have z1:=(a0.out a l.out).1
 have C3 : Calls Tryz.prog 5 #[.agg #[.slice va O T]] a fun e w'=>e = .returned (.string (pD b)) /\ Bw a w':=by
  obtain ⟨g,q,D,t⟩:=(a0.out a l.out).2;rw [D] at q ⊢;exact yc a q t bs.out (bo.out a K.out)
 obtain ⟨s,S⟩:=xe (pD b);have L : Hid (s = pD b /\ s.size <= 1000):=⟨S,by rw [S];exact zG _⟩;rw [<- S] at C3;clear S;go_wp2_with fail;refine C3.mono ?_;rintro e N ⟨rfl,b5⟩;have j : Hid (Bw a N):=b5;have an : Hid (Bw w N):=K.out.trans (b5.mono K.out.size);clear C3 b5 z1;have z3:=(z.out N j.out).1
 have C4 : Calls Tryz.prog 6 #[.agg #[.slice F x E]] N fun e w'=>e = .returned (.bool (fS b)) /\ Bw N w':=by
  obtain ⟨g,q,D,t⟩:=(z.out N j.out).2;exact qK N q t
 obtain ⟨ok,M⟩:=xe (fS b);have a2 : Hid (ok = fS b):=M;rw [<- M] at C4;clear M;go_wp2_with fail;refine C4.mono ?_;rintro e R ⟨rfl,b6⟩;have o : Hid (Bw a R):=j.out.trans (b6.mono j.out.size);have u : Hid (Bw w R):=an.out.trans (b6.mono an.out.size);clear C4 b6 z3;cases ok
 case false=>
  have bv : s.size = 0:=by rw [L.out.1];exact xT a2.out.symm
  have cn : ((s.size : Int) == 0) = true:=beq_iff_eq.2 (by omega);clear bv;go_wp2;go_ret;exact ⟨rfl,u.out⟩
 case true=>
  have G : Hid (cF true ((bB s).length + 1) (bB s) = b):=by rw [L.out.1];exact oS true a2.out.symm
  have bx : Hid (Calls Tryz.prog 8 #[.string s] R.drew (xd R.drew b)):=by
   have h:=bL.out s R.drew L.out.2 u.out.drew;rw [G.out] at h;exact h
  have b3 : Hid (∀ d,d ∈ b -> ur 1000 d):=fun d hd=>by
   have h:=(nG true ((bB s).length + 1) (bB s)).2 d (by rw [G.out];exact hd);exact h.mono (i6 s)
  have a8 : Hid (b.length <= 1000):=by
   have h:=(nG true ((bB s).length + 1) (bB s)).1;rw [G.out] at h;exact Nat.le_trans h (i6 s)
  have bn : Hid (∀ (W : World) (B : Nat) (U : Option Addr) (zc : Nat) (H : List (DC × DPl)),Bw a W -> RD B W (.slice U H.length zc) H -> H.map Prod.fst = b -> Calls Tryz.prog 7 #[.agg #[.slice U H.length zc],.agg #[.slice F x E]] W fun e w'=>e = .returned (.bool true) /\ Bw W w'):=fun W B U zc H hb hz he=>by
   obtain ⟨g,q,D,t⟩:=(z.out W hb).2;obtain ⟨B2,r2⟩:=q.rd;rw [D] at r2 ⊢;exact un W hz r2 (he.trans t.symm) (by rw [t];exact b3.out) (by have h:=congrArg List.length he;rw [List.length_map] at h;rw [h];exact a8.out)
  have I : Hid (∀ W,Bw a W -> W.cell? ⟨P.heap.size,0,none⟩ = some (.slice F x E)):=fun W hb=>(z.out W hb).1;have z0:=I.out R o.out;go_wp2
  go_region_held3 (fun wq=>wq.cell? ⟨P.heap.size,0,none⟩ = some (.slice F x E)) (go_keep) (first
   | (go_at_call 8;(with_reducible refine bx.out.mono ?_);rintro e7 w7 ⟨b7,v7,H,rfl,o7,e7⟩;obtain ⟨U,zc,rfl⟩:=ad o7.own;have c : Hid (Bw a w7):=o.out.drew.trans (b7.mono o.out.size);have V : Hid (Bw w w7):=u.out.drew.trans (b7.mono u.out.size);have z7:=I.out w7 c.out;have bf:=CC (bn.out w7 _ U zc H c.out o7.rd e7);clear b7 o7 e7)
   | (go_at_call 7;(with_reducible refine bf.out.mono ?_);rintro e8 w8 ⟨rfl,b8⟩;have Y : Hid (Bw a w8):=c.out.trans (b8.mono c.out.size);have b4 : Hid (Bw w w8):=V.out.trans (b8.mono V.out.size);have z8:=I.out w8 Y.out;clear b8))
  all_goals
   go_wp2;go_ret;exact ⟨rfl,b4.out⟩
end Go.Proofs.YtihedobejcaapaaGreatDoor
namespace Go.Proofs.YtihedobejcaapaaGreatDoor
open Go Go.ChangeShapes Go.WideShapes Go.ChangeAt Go.RowKit Go.Deep
open Go.ChangeMaps (open_string shut_string)
theorem Tryz.own : ownKnob Tryz.prog.godebug = none:=by kernel_rfl
theorem Tryz.laidOut : laidOutB Tryz.prog = true:=by kernel_rfl
theorem yM : Tryz.prog.globalNamed "loop.example/s15618/impl.errBadPiece" = some 0:=by kernel_rfl
theorem AU : (Tryz.prog.globals[0]?).map (·.type) = some 74:=by kernel_rfl
theorem BC : Tryz.prog.cellsOf 179 = 1:=by kernel_rfl
theorem BQ : Tryz.prog.cellsOf 9 = 1:=by kernel_rfl
theorem yQ : "*" ++ "errors.errorString" = "*errors.errorString":=by decide
theorem yj (u : TypeId) (h : Tryz.prog.typeName? 3 u = some "*errors.errorString") : u = 177:=
 typeName_ptr_named (nm:= "errors.errorString") (by rw [yQ];kernel_rfl) (by kernel_rfl) (by decide) u (by rw [yQ];exact h)
theorem sH {W : World} (h : W.ShapedOpen Tryz.prog) : ∃ m,W.cell? ⟨1,0,none⟩ = some (.int .i64 m):=
 cell_of_shapedOpen_int (zero:=#[.int .i64 0]) (t:=3) h (of_decide_eq_true (by kernel_rfl)) (by kernel_rfl) rfl (by kernel_rfl) (by kernel_rfl) Tryz.underlying3
theorem AV {W : World} (h : laidMetH Tryz.prog Rows.fnPrintRow.laid W) : ∃ eT eV,W.cell? ⟨0,0,none⟩ = some (.iface eT eV):=by
 rw [MakeChecks.laidMetH_plain _ _ _ (by kernel_rfl)] at h;have b:=h.tail.tail.tail.tail.tail;obtain ⟨c,d,a,-,-,-⟩:=laid_sentinel b yM AU Tryz.underlying74 yj Tryz.underlying177 Tryz.underlying179 rfl rfl Tryz.underlying9 BC BQ;exact ⟨_,_,by simpa using World.var?_cell yM a 0⟩
theorem BN : Tryz.prog.globalNamed "internal/strconv.uint64pow10" = some 2:=by kernel_rfl
theorem AJ : (Tryz.prog.globals[2]?).map (·.type) = some 154:=by kernel_rfl
theorem zV {W : World} (h : laidMetH Tryz.prog Rows.fnPrintRow.laid W) : sq W:=by
 rw [MakeChecks.laidMetH_plain _ _ _ (by kernel_rfl)] at h;have b:=h.tail.tail;have e : (Rows.laid_internal_strconv_uint64pow10 : DataW Unit) = Lib.tabData .u64 Lib.pow10Tab:=by kernel_rfl
 have a : laidMet Tryz.prog (("internal/strconv.uint64pow10",(Rows.laid_internal_strconv_uint64pow10 : DataW Unit)) :: _) W:=b;rw [e] at a;exact Lib.tabIs_of_head BN AJ Tryz.underlying154 Tryz.underlying146 (by kernel_rfl) (by kernel_rfl) a
theorem Tryz.cells5 : Tryz.prog.cellsOf 5 = 1:=by kernel_rfl
theorem qJ {w : World} {a : Addr} {v : Value} (h : w.cell? (a.add 0) = some v) : a = ⟨a.block,a.off,none⟩:=by
 obtain ⟨b,o,s⟩:=a;have c : s = none:=by simpa [Addr.add] using World.cell?_spot h
 subst c;rfl
theorem vK {w : World} {a : Addr} {v : Value} {i : Nat} (hp : a = ⟨a.block,a.off,none⟩) (h : w.cell? (a.add i) = some v) : w.cell? ⟨a.block,a.off + i,none⟩ = some v:=by
 rw [hp,Go.WideShapes.add_plain] at h;exact h
theorem pY {n : Int} (h : (Lit.int .u8 n).wf = true) : 0 <= n /\ n <= 255:=by
 unfold Lit.wf at h;rw [Bool.and_eq_true,decide_eq_true_iff,decide_eq_true_iff] at h;exact h
theorem qC {H : Type} {enc : TypeId × Value -> H} {W : World} {held : Bool} {fuel : Nat} {cs : List Value} {x : DataW H × List MemPlace} (h : DataW.trod enc Tryz.prog W 0 (fun _=>true) held fuel 22 cs = some x) :
  ∃ ao b o n c C,cs = [.slice ao n c] /\ am W ao b o n C:=by
 rcases open_slice1 Tryz.underlying22 Tryz.cells5 h with ⟨rfl,_⟩ | ⟨a,len,t,m,n,V,D,u,rfl,_,v,s,g,_,r⟩
 ·exact ⟨none,0,0,0,0,fun _=>0,rfl,⟨fun h=>absurd h (Nat.lt_irrefl _),fun i h=>absurd h (Nat.not_lt_zero _),fun i h=>absurd h (Nat.not_lt_zero _),by omega⟩⟩
 ·simp only [if_true] at g
  subst g
  have f : ∀ i,i < m -> ∃ y : Int,W.cell? (a.add i) = some (.int .u8 y) /\ 0 <= y /\ y <= 255:=by
   intro i k;obtain ⟨l,p⟩:=r i k;obtain ⟨y,d,_,q⟩:=DataW.trod_int Tryz.underlying5 p;simp only [List.cons.injEq,and_true] at d;rw [d] at l;exact ⟨y,l,pY q⟩
  obtain ⟨y,d⟩:=choose_lt f;unfold maxLen at s;have j : 0 < len -> a = ⟨a.block,a.off,none⟩:=fun j=>qJ (d 0 (by omega)).1;refine ⟨some a,a.block,a.off,len,m,fun i=>(y i).toNat,rfl,⟨fun h=>congrArg some (j h),fun i k=>?_,fun i k=>?_,by omega⟩⟩
  ·have e : (((y i).toNat : Nat) : Int) = y i:=by have:=(d i (by omega)).2;omega
   show W.cell? _ = some (.int .u8 (((y i).toNat : Nat) : Int));rw [e];exact vK (j (by omega)) (d i (by omega)).1
  ·have:=(d i (by omega)).2
   show (y i).toNat <= 255;omega
theorem sC {H : Type} {enc : TypeId × Value -> H} {W : World} {held : Bool} {r : Reach} {b0 : Nat} {v : Value} {d : DataW H} {q : List MemPlace}
  (hv : Value.okWide Tryz.prog W r b0 22 v) (h : DataW.Trod enc Tryz.prog W 0 (fun _=>true) held 22 v d q) :
  ∃ ao b o n c C,v = .slice ao n c /\ am W ao b o n C:=by
 obtain ⟨a,l,j,rfl⟩:=okWide_slice Tryz.underlying22 hv;obtain ⟨f,i⟩:=h;obtain ⟨ao,b,o,n,c,C,e,g⟩:=qC i;simp [Value.cells] at e;obtain ⟨rfl,rfl,rfl⟩:=e;exact ⟨_,b,o,_,_,C,rfl,g⟩
theorem nF {H : Type} {enc : TypeId × Value -> H} {C : Checked} {os : Os} {f : FuncId} {fn : Func} {s : ChangeSpec} {conds : List PathCond} {apart fresh handsOn again : Bool} {X : World -> Array Value -> Prop}
  (hX : ∀ (w w' : World) (args : Array Value),w.heap = w'.heap -> X w args -> X w' args) (own : ownKnob C.prog.godebug = none) (started : os.Started) (noInit : C.prog.inits.idxOf? f = none) (hfn : C.prog.funcs[f]? = some fn)
  (witness : ∃ (w : World) (tape : Tape) (i : Input),w.os = os /\ (w.forCall tape i).Shaped C.prog /\ i.vars = [] /\ Input.okWide C.prog (w.forCall tape i) .any w.heap.size f i /\
   ((s.pre enc C.prog fn conds apart (w.forCall tape i).memory i.args /\ X (w.forCall tape i).memory i.args) /\ sizedMet enc C.prog fn (OpenSpec.ofChange s) apart (w.forCall tape i).memory i.args) /\ ({} : Assume).holds C.prog (lone (Frame.enter C.prog f i.args .normal) [] (w.forCall tape i)))
  (contract : ∀ (W : World) (base : Nat) (args : Array Value) (ds gs : List (DataW H)) (before : List MemPlace),(∀ (j : Nat) t v,fn.params[j]? = some t -> args[j]? = some v -> Value.okWide C.prog W .any base t v) ->
   DataW.Whole enc C.prog fn.params.toList s.vars apart W args.toList ds gs before -> W.ShapedOpen C.prog -> X W args ->
   Calls C.prog f args W fun e W'=>∃ v,e = .returned v /\ s.post enc C.prog fn apart fresh handsOn again W args v W') :
  ReturnsInHanded {} C os f .any (fun w args=>(s.pre enc C.prog fn conds apart w args /\ X w args) /\ sizedMet enc C.prog fn (OpenSpec.ofChange s) apart w args) (s.post enc C.prog fn apart fresh handsOn again):=by
 refine returnsInHanded_of_calls own started noInit witness ?_;intro w tape i _ g _ d c _;obtain ⟨_,_,_,h,a,_,_,_,_,b⟩:=d;obtain rfl : h = fn:=Option.some.inj (a.symm.trans hfn);obtain ⟨⟨⟨ds,gs,before,l,_⟩,k⟩,_⟩:=c;refine (contract (w.forCall tape i) w.heap.size i.args ds gs before b (DataW.Whole.of_heap (w':=w.forCall tape i) (by rfl) l) g (hX (w.forCall tape i).memory _ _ rfl k)).mono fun e W' ⟨v,he,hp⟩=>?_;subst he;exact ChangeSpec.post_blind hp
theorem nJ (os : Os) (started : os.Started) (H : Type) (enc : TypeId × Value -> H) :
  ReturnsInHanded {} Tryz.checked os 3 .any (fun w args=>(Rows.fnPrintSpec.pre enc Tryz.prog Tryz.f3 Rows.fnPrintRow.domain false w args /\ laidMetH Tryz.prog Rows.fnPrintRow.laid w) /\ sizedMet enc Tryz.prog Tryz.f3 (OpenSpec.ofChange Rows.fnPrintSpec) false w args)
   (Rows.fnPrintSpec.post enc Tryz.prog Tryz.f3 false true false false):=by
 refine nF (C:=Tryz.checked) (X:=fun w _=>laidMetH Tryz.prog Rows.fnPrintRow.laid w) (fun _ _ _ hh h=>h.of_heap hh) Tryz.own started (by kernel_rfl) Tryz.func3
  (ChangeSpec.witness_shaped (enc:=enc) (C:=Tryz.checked) (os:=os) (X:=fun w _=>laidMetH Tryz.prog Rows.fnPrintRow.laid w) false (World.laidAll Tryz.prog os Rows.fnPrintRow.laid) #[.slice none 0 0] 8 (World.laidAll_os _ _ _)
   (World.shaped_of_ZipB (by kernel_rfl) (by kernel_rfl)) (by kernel_rfl) (by kernel_rfl) (by kernel_rfl)
   (by rw [MakeChecks.laidMetH_plain _ _ _ (by kernel_rfl)];exact laidMet_laidAll _ (by kernel_rfl) (by kernel_rfl))) ?_
 intro W base args P Q k a F y B;have f : ∀ (j : Nat) t v,Tryz.f3.params[j]? = some t -> args[j]? = some v -> Value.okWide Tryz.prog W .any base t v:=a;have z:=F;obtain ⟨p,q,i,A,rfl,M,N⟩:=F;have D : DataW.TrodAll enc Tryz.prog W 0 (fun _=>true) true Tryz.f3.params.toList args.toList P p:=i;rw [Tryz.params3] at D f;obtain ⟨L,U,rfl,rfl,I⟩:=trodAll_one D;have G:=I;have u : ∀ x ∈ p,x.block < W.heap.size:=by obtain ⟨m,s⟩:=G;exact DataW.trod_lt m _ _ _ s
 obtain ⟨R,b,o,n,c,C,rfl,O⟩:=sC (f 0 22 L rfl rfl) I;clear i a;obtain ⟨m,s⟩:=sH y;obtain ⟨T,V,r⟩:=AV B;obtain ⟨g,t,Z,J,d,p',l,Y,ht,E,S,K⟩:=trodVars_one A;subst l;refine (ym W (cc:=c) O m s r (zV B)).mono fun e W' ⟨he,bel⟩=>?_;subst he;exact ⟨_,rfl,_,_,_,[],_,_,z,trodAll_mk1 (shut_bool Tryz.underlying4 _),(trodAll_mk1 (Below.trod Tryz.laidOut (by kernel_rfl) (of_decide_eq_true (by kernel_rfl)) G bel u)),Below.trodVars Tryz.laidOut bel (by kernel_rfl) A,bel.frame _,fun h=>by cases h⟩
theorem pq : Rows.FnPrintSaid:=
 OpenClaim.holds_of_wide 3 Tryz.f3 rfl rfl rfl rfl rfl rfl rfl ⟨rfl,rfl,rfl,rfl,rfl⟩ rfl rfl rfl rfl rfl (by kernel_rfl) Tryz.func3 (by kernel_rfl)
  (of_decide_eq_true (by kernel_rfl)) (by unfold Func.isWrapper;first | (rw [if_pos (by decide +kernel)];kernel_rfl) | (rw [if_neg (by decide +kernel)];exact ⟨rfl,rfl⟩))
  (fun os started H enc _=>nJ os started H enc)
theorem print_card : Rows.FnPrintCardSaid:=
 Claim7.holds_tied_plain_at .later [] [.data,.data,.data,.sentinel,.sentinel,.sentinel] true (true,"9772f08605ba332ba9c480f4c59edc5b1b0a499c16bca15c7ff496365c7f7a9e") true pq (fun _ h=>by cases h) (by kernel_rfl) (fun _ h=>by cases h) fnPrint_row_tie rfl ⟨rfl,rfl⟩ (by kernel_rfl) rfl
  (fun f fn hf hfn=>by
   obtain rfl : f = 3:=Option.some.inj ((show Tryz.prog.funcNamed "loop.example/s15618/laws.FnPrint" = some 3 by kernel_rfl).symm.trans hf) |>.symm
   obtain rfl : fn = Tryz.f3:=(Option.some.inj (Tryz.func3.symm.trans hfn)).symm
   exact ⟨by kernel_rfl,fun j t ht=>by
    rw [Tryz.params3] at ht;have hm : t ∈ [22]:=by simpa using Array.mem_of_getElem? ht
    have hall : ([22].all fun u=>!Tryz.prog.wantsStandIn u) = true:=by kernel_rfl
    exact (show Tryz.prog.wantsStandIn t = false by simpa using List.all_eq_true.1 hall t hm)⟩)
  (by kernel_rfl)
#print axioms print_card
end Go.Proofs.YtihedobejcaapaaGreatDoor
