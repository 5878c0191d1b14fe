/-
  YeD YeE YeF YeG
-/
import Derived.Test.YtihedobejcaapaaGreatDoorE1
import Derived.Test.YtihedobejcaapaaGreatDoorShelf
import Derived.Lib.Builder
import Derived.Lib.AppendStr
import Derived.Lib.OthersKept
import Derived.WalkKit
import Derived.Laws.Externs
set_option maxHeartbeats 4000000
set_option maxRecDepth 100000
namespace Go.Proofs.YtihedobejcaapaaGreatDoor
open Go.RowKit Go.Lib
theorem oR {o : Option TypeInfo} {z : Value} {s b : Nat} (h : o.map (fun i=>(i.zero,i.size,i.bytes)) = some (some z,s,b)) : ∃ i,o = some i /\ i.zero = some z /\ i.size = s /\ i.bytes = b:=by
 obtain ⟨i,c,a⟩:=Option.map_eq_some_iff.1 h;simp only [Prod.mk.injEq] at a;exact ⟨i,c,a.1,a.2.1,a.2.2⟩
theorem xZ {w w' : World} {base : Nat} {e : TypeId} {size : Nat} {v : Value} {n : Nat} {xs : List Value} (h : w.ownsRow base e size v n xs) (hb : Bw w w') : w'.ownsRow base e size v n xs:=by
 refine ⟨h.1,?_⟩;rcases h.2 with a | ⟨g,c,b,rfl,f,a,i⟩
 ·exact Or.inl a
 ·refine Or.inr ⟨g,c,b,rfl,f,?_,i⟩
  rw [hb.block g ?_];exact a;rcases Nat.lt_or_ge g w.heap.size with d | d
  ·exact d
  ·rw [Array.getElem?_eq_none d] at a;simp at a
theorem Tryz.sizeB : (Tryz.prog.info? 127).map (·.size) = some 2:=by kernel_rfl
theorem Tryz.liesB : liesAt Tryz.prog Tryz.prog.depth 127 (2 / Tryz.prog.cellsOf 127) 0 127 1 = true:=by kernel_rfl
theorem mW (b : Nat) (w : World) (h0 : w.cell? ⟨b,0,none⟩ = some (.pointer (some ⟨b,0,none⟩))) :
  Calls Tryz.prog 99 #[.pointer (some ⟨b,0,none⟩)] w fun e w'=>e = .returned (.tuple #[]) /\ w' = w:=by
 obtain ⟨j,a,_⟩:=Option.map_eq_some_iff.1 Tryz.sizeB;go_enter Tryz.func99,Tryz.ntmps99;go_wp2;rw [Lib.run_neq_ptr_same w _ Tryz.underlying125 a];go_wp2
 go_end0
 exact ⟨rfl,rfl⟩
theorem ou (b : Nat) (w : World) (h0 : w.cell? ⟨b,0,none⟩ = some (.pointer none)) (hsh : w.shape? b = some (127,2)) (hfz : w.frozen? ⟨b,0,none⟩ = false) :
  Calls Tryz.prog 99 #[.pointer (some ⟨b,0,none⟩)] w fun e w'=>e = .returned (.tuple #[]) /\ w' = w.setCell ⟨b,0,none⟩ (.pointer (some ⟨b,0,none⟩)):=by
 obtain ⟨j,c,a⟩:=Option.map_eq_some_iff.1 Tryz.sizeB;go_enter Tryz.func99,Tryz.ntmps99;go_wp2;rw [Lib.run_to_unsafe w ⟨b,0,none⟩ Tryz.underlying125 Tryz.underlying143 c (by rw [a];decide) hsh (Nat.zero_lt_succ 1)];simp only [Result.andThen];rw [Oper.upon_value];go_wp2;rw [run_callFunc_extern Tryz.func103 (by kernel_rfl) (by kernel_rfl) (by kernel_rfl) (e:=Extern.AbiNoEscape.same) (by kernel_rfl)];rw [Lib.run_noEscape];simp only [Result.andThen];rw [Oper.upon_value];go_wp2;rw [Lib.run_from_unsafe w ⟨b,0,none⟩ Tryz.underlying143 Tryz.underlying125 c hsh Tryz.liesB];simp only [Result.andThen];rw [Oper.upon_value];go_wp2
 go_end0
 exact ⟨rfl,rfl⟩
theorem xu (B b : Nat) (bs : List Value) (w : World) (h : Lib.IsBuilder 127 5 B b bs w) :
  Calls Tryz.prog 99 #[.pointer (some ⟨b,0,none⟩)] w fun e w'=>e = .returned (.tuple #[]) /\ Lib.BuilderAt 127 5 B b (.pointer (some ⟨b,0,none⟩)) bs w' /\ Below B w w' /\ Lib.OthersKept 5 (some b) w w':=by
 rcases h with h | h
 ·refine (ou b w h.cell0 h.shape h.frozen0).mono ?_
  rintro e w' ⟨rfl,rfl⟩;exact ⟨rfl,h.used _,(Below.refl B w).setCell (p:=⟨b,0,none⟩) h.1 _,(Lib.OthersKept.refl _ _ w).setCell ⟨b,0,none⟩ rfl _⟩
 ·refine (mW b w h.cell0).mono ?_
  rintro e w' ⟨rfl,rfl⟩;exact ⟨rfl,h,Below.refl _ _,Lib.OthersKept.refl _ _ _⟩
theorem yE (B b : Nat) (bs : List Value) (s : ByteArray) (w : World) (h : Lib.IsBuilder 127 5 B b bs w) (hlen : bs.length + s.size <= 140737488355328) (hBw : B <= w.heap.size) :
  Calls Tryz.prog 89 #[.pointer (some ⟨b,0,none⟩),.string s] w fun e w'=>e = .returned (.tuple #[.int .i64 s.size,.nilIface]) /\ Lib.BuilderAt 127 5 B b (.pointer (some ⟨b,0,none⟩)) (bs ++ Lib.strCells s) w' /\ Below B w w' /\ Lib.OthersKept 5 (some b) w w':=by
 obtain ⟨K,J,x,t,r⟩:=oR Tryz.info5;go_enter Tryz.func89,Tryz.ntmps89;go_wp2_with (go_at_call 99;refine (xu B b bs _ h).mono ?_);rintro e q ⟨rfl,G,j,A⟩;obtain ⟨D,v,i,d,z⟩:=G;have R : q.cell? ⟨b,0,none⟩ = some (.pointer (some ⟨b,0,none⟩)):=by rw [Lib.cell_of_heap i];rfl
 have M : q.cell? ⟨b,1,none⟩ = some v:=by rw [Lib.cell_of_heap i];rfl
 go_wp2_with (at_builtin;refine Lib.wpList_append_own_string _ rfl _ _ 22 9 rfl B 5 K Tryz.underlying22 Tryz.underlying9 J x t r _ _ _ rfl d s rfl ?c3 ?c4 ?c5 ?_)
 case c3=>unfold maxLen;omega
 case c4=>omega
 case c5=>have:=j.size;omega
 intro I o c a _
 have y : b < q.heap.size:=by
  rcases Nat.lt_or_ge b q.heap.size with u | u
  ·exact u
  ·simp [Array.getElem?_eq_none u] at i
 have f : o.heap[b]? = some (.cells #[.pointer (some ⟨b,0,none⟩),v] 127 (0,0)):=by
  rw [a.block b y (fun e=>z e.symm)];exact i
 have N : o.cell? ⟨b,0,none⟩ = some (.pointer (some ⟨b,0,none⟩)):=by rw [Lib.cell_of_heap f];rfl
 have Q : o.cell? ⟨b,1,none⟩ = some v:=by rw [Lib.cell_of_heap f];rfl
 have O : o.frozen? ⟨b,1,none⟩ = false:=Lib.frozen_of_heap f 1
 obtain ⟨C,E,l,rfl⟩ : ∃ C E l,I = .slice C E l:=by
  rcases c.2 with ⟨m,_⟩ | ⟨g,l,L,m,_⟩
  ·exact ⟨_,_,_,m⟩
  ·exact ⟨_,_,_,m⟩
 go_wp2;go_ret2;refine ⟨rfl,?_,?_,?_⟩
 ·exact Lib.BuilderAt.put (T:=127) (e:=5) D f (bs':=bs ++ Lib.strCells s) (by simpa [Lib.strCells_length] using c) (by decide)
 ·exact (j.grown a (by have:=j.size;omega) (fun k hk=>(d.lt k hk).1)).setCell (p:=⟨b,1,none⟩) D _
 ·refine (A.grown a (fun g hg=>?_)).setCell ⟨b,1,none⟩ rfl _
  rcases d.2 with ⟨m,_⟩ | ⟨P,F,n,m,_,H,_⟩
  ·subst m;cases hg
  ·subst m;cases hg;exact ⟨n,(0,0),H⟩
def pH (W : World) (b : Nat) (x : ByteArray) : Prop:=Lib.IsBuilder 127 5 b b (Lib.strCells x) W
theorem pH.below {W W' : World} {b : Nat} {x : ByteArray} (h : pH W b x) (hb : Bw W W') : pH W' b x:=by
 have one : ∀ p,Lib.BuilderAt 127 5 b b p (Lib.strCells x) W -> Lib.BuilderAt 127 5 b b p (Lib.strCells x) W':=by
  rintro p ⟨e,v,a,d,f⟩;refine ⟨e,v,?_,xZ d hb,f⟩;rw [hb.block b ?_];exact a;rcases Nat.lt_or_ge b W.heap.size with c | c
  ·exact c
  ·rw [Array.getElem?_eq_none c] at a;simp at a
 rcases h with h | h
 ·exact Or.inl (one _ h)
 ·exact Or.inr (one _ h)
theorem pH.new (w : World) : pH (w.alloc (.cells #[.pointer none,.slice none 0 0] 127)) w.heap.size ⟨#[]⟩:=Lib.fresh_isBuilder _ _ w
theorem su (x y : ByteArray) : Lib.strCells x ++ Lib.strCells y = Lib.strCells (x ++ y):=by
 unfold Lib.strCells;rw [<- List.map_append,ByteArray.data_append,Array.toList_append]
theorem rf (b : Nat) (x s : ByteArray) (w : World) (h : pH w b x) (hlen : x.size + s.size <= 140000000000000) (hBw : b <= w.heap.size) :
  Calls Tryz.prog 89 #[.pointer (some ⟨b,0,none⟩),.string s] w fun e w'=>e = .returned (.tuple #[.int .i64 s.size,.nilIface]) /\ pH w' b (x ++ s) /\ Below b w w' /\ Lib.OthersKept 5 (some b) w w':=by
 refine (yE b b (Lib.strCells x) s w h (by rw [Lib.strCells_length];omega) hBw).mono ?_;rintro e w' ⟨f,c,d,a⟩;refine ⟨f,Or.inr ?_,d,a⟩;rw [<- su];exact c
theorem vR (b : Nat) (x : ByteArray) (w : World) (h : pH w b x) (hBw : b <= w.heap.size) :
  Calls Tryz.prog 90 #[.pointer (some ⟨b,0,none⟩)] w fun e w'=>e = .returned (.string x) /\ Below b w w':=by
 have C:=Tryz.Builder_String_any b b x.data.toList w h hBw;have e : (⟨x.data.toList.toArray⟩ : ByteArray) = x:=by simp
 rw [e] at C;exact C
theorem qB {e t : TypeId} {b k : Nat} {w w' : World} {cs : Array Value} {fr : Nat × Nat} (h : Lib.OthersKept e (some b) w w') (hk : w.heap[k]? = some (.cells cs t fr)) (hb : k ≠ b) (ht : t ≠ e) : w'.heap[k]? = w.heap[k]?:=by
 rw [h k _ hk (fun h'=>hb (Option.some.inj h')) (fun c fz h'=>ht (by injection h')),hk]
end Go.Proofs.YtihedobejcaapaaGreatDoor
namespace Go.Proofs.YtihedobejcaapaaGreatDoor
open Go.RowKit
structure jT (w : World) (f : Fm) (na ta : Option Addr) (nb tb : Nat) : Prop where
 nAt : 0 < f.needs.length -> na = some ⟨nb,0,none⟩
 need : ∀ k (h : k < f.needs.length),w.cell? ⟨nb,k,none⟩ = some (.int .i64 (f.needs[k] : Int))
 tAt : 0 < f.texts.length -> ta = some ⟨tb,0,none⟩
 text : ∀ k (h : k < f.texts.length),w.cell? ⟨tb,k,none⟩ = some (.string f.texts[k])
theorem jT.below {w w' : World} {f : Fm} {na ta : Option Addr} {nb tb : Nat} (h : jT w f na ta nb tb) (hb : Bw w w') : jT w' f na ta nb tb:=
 ⟨h.nAt,fun k hk=>(hb.cell (p:=⟨nb,k,none⟩) (blt (h.need k hk))).trans (h.need k hk),h.tAt,fun k hk=>(hb.cell (p:=⟨tb,k,none⟩) (blt (h.text k hk))).trans (h.text k hk)⟩
def y8 (f : Fm) (na ta : Option Addr) (nc tc : Nat) : Value:=.agg #[.int .i64 f.lev,.slice na f.needs.length nc,.slice ta f.texts.length tc]
theorem xW {ns : List Nat} {ts : List ByteArray} {ps : List Wh} {k : Nat} (h1 : k < ns.length) (h2 : k < ts.length) (h3 : k < ps.length) : aC (ns.drop k) (ts.drop k) (ps.drop k) = ts[k] ++ brk ns[k] ps[k] ++ aC (ns.drop (k + 1)) (ts.drop (k + 1)) (ps.drop (k + 1)):=by
 rw [List.drop_eq_getElem_cons h1,List.drop_eq_getElem_cons h2,List.drop_eq_getElem_cons h3,aC]
theorem xp {ns : List Nat} {ts : List ByteArray} {ps : List Wh} {k : Nat} (h1 : ns.length = k) (h2 : ts.length = k + 1) : aC (ns.drop k) (ts.drop k) (ps.drop k) = ts[k]'(by omega):=by
 rw [List.drop_eq_nil_of_le (by omega),List.drop_eq_getElem_cons (by omega)];cases ps.drop k <;> rfl
theorem AE {W : World} {X : Nat} {f : Nat -> Value} (R : W.rowIs X 115 2 f) (a b : Value) (tmps : Array Value) (h4 : tmps[4]?.getD undef = .pointer (some ⟨X,0,none⟩)) :
  (results Tryz.f69 tmps).run Tryz.prog ((W.setCell ⟨X,0,none⟩ a).setCell ⟨X,1,none⟩ b) = .ok (.agg #[a,b]) ((W.setCell ⟨X,0,none⟩ a).setCell ⟨X,1,none⟩ b):=by
 have r:=(R.set 0 a).set 1 b;obtain ⟨V,c⟩:=xe ((W.setCell ⟨X,0,none⟩ a).setCell ⟨X,1,none⟩ b);rw [<- c] at r ⊢;clear c R;have e : V.cell? ⟨X,0,none⟩ = some a:=r.cell (i:=0) (by omega);have d : V.cell? ⟨X,1,none⟩ = some b:=r.cell (i:=1) (by omega);unfold results;rw [show Tryz.f69.results = #[.cell 4 115] from rfl];simp [go_sem,h4,e,d]
theorem oP (w : World) {f : Fm} {na ta a : Option Addr} {nb tb nc tc g o c : Nat} {ps : List Wh} (hf : jT w f na ta nb tb) (hp : tB w a g o ps) (hn : ps.length = f.needs.length) (ht : f.texts.length = f.needs.length + 1) (hl : ps.length <= 1048576) (hlc : f.needs.length <= nc) (hltc : f.texts.length <= tc) (hc : ps.length <= c) (hR : (aC f.needs f.texts ps).size <= 1000000000) :
  Calls Tryz.prog 69 #[y8 f na ta nc tc,.slice a ps.length c] w fun e w'=>e = .returned (.agg #[.string (aC f.needs f.texts ps),.int .i64 f.lev]) /\ Bw w w':=by
 obtain ⟨R,L⟩:=xe (aC f.needs f.texts ps);rw [<- L] at hR ⊢;unfold y8;obtain ⟨n,G⟩:=xe (ps.length);have y : f.needs.length = n:=by omega
 have u : f.texts.length = n + 1:=by omega
 have HF : Hid (∀ W,Bw w W -> jT W f na ta nb tb):=fun W hb=>hf.below hb;have HP : Hid (∀ W,Bw w W -> tB W a g o ps):=fun W hb=>hp.below hb
 have bn : Hid (∀ k (h1 : k < f.needs.length) (h2 : k < f.texts.length) (h3 : k < ps.length) (x : ByteArray),x ++ aC (f.needs.drop k) (f.texts.drop k) (ps.drop k) = R -> (x ++ f.texts[k]) ++ brk f.needs[k] ps[k] ++ aC (f.needs.drop (k + 1)) (f.texts.drop (k + 1)) (ps.drop (k + 1)) = R):=fun k h1 h2 h3 x hx=>by
  rw [<- hx,xW h1 h2 h3];simp only [ByteArray.append_assoc]
 have bs : Hid (∀ (h2 : n < f.texts.length) (x : ByteArray),x ++ aC (f.needs.drop n) (f.texts.drop n) (ps.drop n) = R -> x ++ f.texts[n] = R):=fun h2 x hx=>by
  rw [<- hx,xp y u]
 have b9 : Hid (ps.length = n):=G.symm;rw [y,u,<- G];rw [y] at hlc;rw [u] at hltc;rw [<- G] at hc;have b1:=hQx y;have ar:=hQx u;have H0 : Hid (e0 ++ aC (f.needs.drop 0) (f.texts.drop 0) (ps.drop 0) = R):=by show _ = _;rw [L];exact gI _
 have d2 : n <= 1048576:=by omega
 clear L hf hp hn ht hl G y u;obtain ⟨lev,K⟩ : ∃ l : Nat,l = f.lev:=⟨_,rfl⟩;rw [<- K];clear K;obtain ⟨Z,hZ⟩:=xe (((w.alloc (.cells #[.int .i64 lev,.slice na n nc,.slice ta (n + 1) tc] 112)).alloc (.cells #[.string ⟨#[]⟩,.int .i64 0] 115)).alloc (.cells #[.pointer none,.slice none 0 0] 127));go_enter Tryz.func69,Tryz.ntmps69;go_wp2;rw [<- hZ];obtain ⟨B,hB⟩:=xe (w.heap.size + 1 + 1);have cb : Z.heap.size = B + 1:=by rw [hZ,hB];simp
 have U : Hid (Bw w Z):=by rw [hZ];exact (eM w _ _).alloc (by simp;omega) _
 have a4 : Hid (pH Z B ⟨#[]⟩):=by
  have:=pH.new ((w.alloc (.cells #[.int .i64 lev,.slice na n nc,.slice ta (n + 1) tc] 112)).alloc (.cells #[.string ⟨#[]⟩,.int .i64 0] 115));rw [<- hZ] at this;have e : ((w.alloc (.cells #[.int .i64 lev,.slice na n nc,.slice ta (n + 1) tc] 112)).alloc (.cells #[.string ⟨#[]⟩,.int .i64 0] 115)).heap.size = B:=by rw [hB];simp
  rw [e] at this;exact this
 have z : Hid (∀ W,Below B Z W -> W.cell? ⟨w.heap.size,0,none⟩ = some (.int .i64 (lev : Int)) /\ W.cell? ⟨w.heap.size,1,none⟩ = some (.slice na n nc) /\ W.cell? ⟨w.heap.size,2,none⟩ = some (.slice ta (n + 1) tc)):=fun W hb=>by
  have r3:=World.rowIs_alloc w #[.int .i64 lev,.slice na n nc,.slice ta (n + 1) tc] 112 (fun i=>if i = 0 then .int .i64 lev else if i = 1 then .slice na n nc else .slice ta (n + 1) tc) (fun i hi=>by
   match i,hi with
   | 0,_=>rfl
   | 1,_=>rfl
   | 2,_=>rfl)
  have r4:=r3.of_block ((eM (w.alloc (.cells #[.int .i64 lev,.slice na n nc,.slice ta (n + 1) tc] 112)) (.cells #[.string ⟨#[]⟩,.int .i64 0] 115) (.cells #[.pointer none,.slice none 0 0] 127)).block _ r3.lt);rw [<- hZ] at r4;have r5:=r4.of_block (hb.block _ (by omega));exact ⟨r5.cell (i:=0) (by show 0 < 3;omega),r5.cell (i:=1) (by show 1 < 3;omega),r5.cell (i:=2) (by show 2 < 3;omega)⟩
 have b2 : Hid (Z.rowIs (w.heap.size + 1) 115 2 (v2 (.string ⟨#[]⟩) (.int .i64 0))):=by
  have r2:=ol (w.alloc (.cells #[.int .i64 lev,.slice na n nc,.slice ta (n + 1) tc] 112)) (.string ⟨#[]⟩) (.int .i64 0) 115;have r4:=r2.of_block ((bel1 ((w.alloc (.cells #[.int .i64 lev,.slice na n nc,.slice ta (n + 1) tc] 112)).alloc (.cells #[.string ⟨#[]⟩,.int .i64 0] 115)) (.cells #[.pointer none,.slice none 0 0] 127)).block _ r2.lt);rw [<- hZ] at r4;have e : (w.alloc (.cells #[.int .i64 lev,.slice na n nc,.slice ta (n + 1) tc] 112)).heap.size = w.heap.size + 1:=by simp
  rw [e] at r4;exact r4
 rw [<- hB];have ef : w.heap.size + 1 < B:=by omega
 have de : B + 1 <= Z.heap.size:=by omega
 clear hZ hB cb
 go_loopw [10] (fun i wr=>∃ (k : Nat) (x : ByteArray),k <= n /\ i = .int .i64 k /\ Hid (x ++ aC (f.needs.drop k) (f.texts.drop k) (ps.drop k) = R) /\ Hid (pH wr (B) x) /\ Hid (Below (B) Z wr)) (fun i _=>n - (intOf i).toNat)
 case atStart=>exact ⟨0,_,Nat.zero_le _,rfl,H0,a4,Below.refl _ _⟩
 case round=>
  clear H0 a4;obtain ⟨k,x,hk,rfl,HX,HB,J⟩:=hrel;obtain ⟨y0,y1,y2⟩:=z.out wr J.out;have C : Hid (Bw w wr):=U.out.trans (J.out.mono (by omega));have F:=HF.out wr C.out;have d3 : B < wr.heap.size:=by have:=J.out.size;omega
  by_cases u : k < n
  ·have l1:=b1.out
   have l2:=ar.out;have l3:=b9.out;have P:=HP.out wr C.out;have ch:=F.nAt (by omega);have S:=F.tAt (by omega);have bL:=P.at_ (by omega);have q0:=F.need k (by omega);have Y:=F.text k (by omega);have q2:=P.txt k (by omega);have q3:=P.lev k (by omega);have N:=bn.out k (by omega) (by omega) (by omega) x HX.out;obtain ⟨r,D⟩:=xe (f.needs[k]'(by omega));obtain ⟨t,q⟩:=xe (f.texts[k]'(by omega));obtain ⟨X,hX⟩:=xe (ps[k]'(by omega));rw [<- D,<- q,<- hX] at N;rw [<- D] at q0;rw [<- q] at Y;rw [<- hX] at q2 q3;have s : Hid (((x ++ t) ++ brk r X) ++ aC (f.needs.drop (k + 1)) (f.texts.drop (k + 1)) (ps.drop (k + 1)) = R):=N
   have a2 : (x ++ t).size + (brk r X).size <= 1000000000:=by
    rw [<- s.out,bsa,bsa] at hR;omega
   have b0 : x.size + t.size <= 1000000000:=by rw [bsa] at a2;omega
   have b7 : (k : Int) < (n : Int):=by omega
   have c4 : (k : Int) < (n : Int) + 1:=by omega
   have b4 : (0 : Int) <= (k : Int):=by omega
   have a3 : Hid (∀ W,Bw w W -> W.cell? ⟨nb,k,none⟩ = some (.int .i64 (r : Int))):=fun W hb=>by rw [D];exact (HF.out W hb).need k (by omega)
   clear D q hX N F P l1 l2 l3;subst ch S bL;have BX:=ol wr (.string X.1) (.int .i64 (X.2 : Int)) 115;obtain ⟨T,m⟩:=xe (wr.alloc (.cells #[.string X.1,.int .i64 (X.2 : Int)] 115));have M : Hid (Below B Z T):=by rw [m];exact J.out.alloc (by omega) _
   have H : Hid (pH T B x):=by rw [m];exact HB.out.below (bel1 _ _)
   have ee : wr.heap.size + 1 <= T.heap.size:=by rw [m];simp
   rw [<- m] at BX;have C1:=rf B x t T H.out (by omega) (by omega)
   have HQ : Hid (∀ W,Below B T W -> Lib.OthersKept 5 (some B) T W -> Hid (Below B Z W) /\ W.cell? ⟨w.heap.size,1,none⟩ = some (.slice (some ⟨nb,0,none⟩) n nc) /\ W.cell? ⟨nb,k,none⟩ = some (.int .i64 (r : Int)) /\ W.cell? ⟨wr.heap.size,0,none⟩ = some (.string X.1) /\ W.cell? ⟨wr.heap.size,1,none⟩ = some (.int .i64 (X.2 : Int))):=fun W hb ho=>by
    have Q : Below B Z W:=M.out.trans (hb.mono (nlr _));obtain ⟨cs,ca,_⟩:=id BX;have kb:=qB ho ca (by omega) (by decide);have BW:=BX.of_block kb;refine ⟨Q,(z.out W Q).2.1,?_,BW.cell (i:=0) (by omega),BW.cell (i:=1) (by omega)⟩;have b8 : Bw w W:=U.out.trans (Q.mono (by omega));exact a3.out W b8
   have q4 : (wr.alloc (.cells #[.string X.1,.int .i64 (X.2 : Int)] 115)).cell? ⟨w.heap.size,2,none⟩ = some (.slice (some ⟨tb,0,none⟩) (n + 1) tc):=by rw [<- m];exact (z.out T M.out).2.2
   have q5 : (wr.alloc (.cells #[.string X.1,.int .i64 (X.2 : Int)] 115)).cell? ⟨tb,k,none⟩ = some (.string t):=((bel1 wr _).cell (p:=⟨tb,k,none⟩) (blt Y)).trans Y;go_wp2_with fail;rw [<- m];refine C1.mono ?_;rintro e b ⟨rfl,D2,I,O2⟩;obtain ⟨v,g0,g1,g2,g3⟩:=HQ.out b I O2;have A : Hid (pH b B (x ++ t)):=D2;have b6 : B < b.heap.size:=by have:=I.size;omega
   clear C1 BX m M H D2 I O2 HQ q0 Y q2 q3 q4 q5 y0 y1 y2 HB J C;by_cases E : X.2 < r
   ·have d : Hid (brk r X = ((⟨#[40]⟩ : ByteArray) ++ X.1) ++ (⟨#[41]⟩ : ByteArray)):=by show _ = _;unfold brk;rw [if_pos E];rfl
    have z0 : (⟨#[40]⟩ : ByteArray).size = 1:=rfl;have z1 : (⟨#[41]⟩ : ByteArray).size = 1:=rfl;have a1:=a2;simp only [d.out,bsa,z0,z1] at a1;have c1:=rsa (⟨#[40]⟩ : ByteArray) X.1 (by rw [z0];omega);have c2:=rsa ((⟨#[40]⟩ : ByteArray) ++ X.1) (⟨#[41]⟩ : ByteArray) (by rw [bsa,z0,z1];omega);clear a1;have li : (X.2 : Int) < (r : Int):=by omega
    have CP : Hid (∀ j,Calls Tryz.prog 89 #[.pointer (some ⟨B,0,none⟩),.string (((⟨#[40]⟩ : ByteArray) ++ X.1) ++ (⟨#[41]⟩ : ByteArray))] (b.drewN j) fun e w'=>e = .returned (.tuple #[.int .i64 (((⟨#[40]⟩ : ByteArray) ++ X.1) ++ (⟨#[41]⟩ : ByteArray)).size,.nilIface]) /\ Hid (pH w' B ((x ++ t) ++ brk r X)) /\ Hid (Below B Z w')):=fun j=>by
     have h0:=rf B (x ++ t) (((⟨#[40]⟩ : ByteArray) ++ X.1) ++ (⟨#[41]⟩ : ByteArray)) (b.drewN j) (A.out.below (bh _ _)) (by rw [<- d.out];omega) (by show B <= b.heap.size;omega);rw [d.out];exact h0.mono fun e w' h=>⟨h.1,h.2.1,v.out.trans ((below_drewN (Below.refl _ _) j).trans h.2.2.1)⟩
    clear d E;go_wp2;go_quiet (fail);go_wp2_with fail;refine (CP.out _).mono ?_;rintro e w3 ⟨rfl,O,V⟩;clear CP;go_wp2
    go_roundw
    case rel=>exact ⟨k + 1,(x ++ t) ++ brk r X,by omega,by go_num,s,O,V⟩
    case measure=>simp [intOf];omega
   ·have d : Hid (brk r X = X.1):=by show _ = _;unfold brk;rw [if_neg E]
    have li : ¬ (X.2 : Int) < (r : Int):=by omega
    have CP : Hid (∀ j,Calls Tryz.prog 89 #[.pointer (some ⟨B,0,none⟩),.string X.1] (b.drewN j) fun e w'=>e = .returned (.tuple #[.int .i64 X.1.size,.nilIface]) /\ Hid (pH w' B ((x ++ t) ++ brk r X)) /\ Hid (Below B Z w')):=fun j=>by
     have h0:=rf B (x ++ t) X.1 (b.drewN j) (A.out.below (bh _ _)) (by rw [<- d.out];omega) (by show B <= b.heap.size;omega);rw [d.out];exact h0.mono fun e w' h=>⟨h.1,h.2.1,v.out.trans ((below_drewN (Below.refl _ _) j).trans h.2.2.1)⟩
    clear d E;go_wp2;go_quiet (fail);go_wp2_with fail;refine (CP.out _).mono ?_;rintro e w3 ⟨rfl,O,V⟩;clear CP;go_wp2
    go_roundw
    case rel=>exact ⟨k + 1,(x ++ t) ++ brk r X,by omega,by go_num,s,O,V⟩
    case measure=>simp [intOf];omega
  ·have ck : k = n:=by omega
   subst ck;have l2:=ar.out;have S:=F.tAt (by omega);have Y:=F.text k (by omega);have N:=bs.out (by omega) x HX.out;obtain ⟨t,q⟩:=xe (f.texts[k]'(by omega));rw [<- q] at N Y;have s : Hid (x ++ t = R):=N;have b0 : x.size + t.size <= 1000000000:=by rw [<- s.out,bsa] at hR;exact hR
   have C1:=rf B x t wr HB.out (by omega) (by omega);have a0 : Hid (wr.rowIs (w.heap.size + 1) 115 2 (v2 (.string ⟨#[]⟩) (.int .i64 0))):=b2.out.of_block (J.out.block _ (by omega));have b7 : (k : Int) < (k : Int) + 1:=by omega
   have b4 : (0 : Int) <= (k : Int):=by omega
   clear q N F l2;subst S;go_wp2_with fail;refine C1.mono ?_;rintro e b ⟨rfl,D2,I,O2⟩;have v : Hid (Below B Z b):=J.out.trans I;have A : Hid (pH b B R):=by rw [<- s.out];exact D2
   have b5 : Hid (b.rowIs (w.heap.size + 1) 115 2 (v2 (.string ⟨#[]⟩) (.int .i64 0))):=a0.out.of_block (I.block _ (by omega));have b6 : B < b.heap.size:=by have:=I.size;omega
   have g0:=(z.out b v.out).1;clear C1 D2 I O2 Y y0 y1 y2 HB J C a0;have CS : Hid (Calls Tryz.prog 90 #[.pointer (some ⟨B,0,none⟩)] b.drew fun e w'=>e = .returned (.string R) /\ Below B b w'):=(vR B R b.drew (A.out.below (Below.refl _ _).drew) (by show B <= b.heap.size;omega)).mono fun e w' h=>⟨h.1,(Below.refl B b).drew.trans h.2⟩;have a5:=CS.out;go_wp2
   go_region_held3 (fun w'=>w'.cell? ⟨w.heap.size,0,none⟩ = some (.int .i64 (lev : Int))) (go_keep) (first
    | (go_at_call 90;(with_reducible refine a5.mono ?_);rintro r0 u0 ⟨rfl,V0⟩;have m0:=(z.out u0 (v.out.trans V0)).1;have R0:=b5.out.of_block (V0.block _ (by omega));have r0:=R0.cell (i:=0) (by omega);have r1:=R0.cell (i:=1) (by omega);have f0:=R0.frozen 0;have f1:=R0.frozen 1))
   all_goals
    have bv : Hid (Bw w u0):=U.out.trans ((v.out.trans V0).mono (by omega));have cc : Hid (u0.rowIs (w.heap.size + 1) 115 2 (v2 (.string ⟨#[]⟩) (.int .i64 0))):=R0;clear V0 R0 m0 r0 r1 f0 f1 CS a5 g0;go_wp2;refine bodyPost_ret (AE cc.out _ _ _ rfl) rfl ?_;exact ⟨rfl,(bv.out.setCell (p:=⟨w.heap.size + 1,0,none⟩) (by show w.heap.size <= w.heap.size + 1;omega) _).setCell (p:=⟨w.heap.size + 1,1,none⟩) (by show w.heap.size <= w.heap.size + 1;omega) _⟩
def Cv (w : World) (f : Fm) (e : Ending) (w' : World) : Prop:=∃ (na ta : Option Addr) (nb tb nc tc : Nat),e = .returned (y8 f na ta nc tc) /\ jT w' f na ta nb tb /\ f.needs.length <= nc /\ f.texts.length <= tc /\ w.heap.size <= nb /\ w.heap.size <= tb /\ Bw w w'
theorem rF {V : World} {X : Nat} {a b c : Value} (r : V.rowIs X 112 3 (v3 a b c)) (tmps : Array Value) (h6 : tmps[6]?.getD undef = .pointer (some ⟨X,0,none⟩)) :
  (results Tryz.f73 tmps).run Tryz.prog V = .ok (.agg #[a,b,c]) V:=by
 have f : V.cell? ⟨X,0,none⟩ = some a:=r.cell (i:=0) (by omega);have e : V.cell? ⟨X,1,none⟩ = some b:=r.cell (i:=1) (by omega);have d : V.cell? ⟨X,2,none⟩ = some c:=r.cell (i:=2) (by omega);unfold results;rw [show Tryz.f73.results = #[.cell 6 112] from rfl];simp [go_sem,h6,f,e,d]
theorem mG (w : World) (a : Option Addr) (c : Nat) (sign : ByteArray) (lev : Nat) :
  Calls Tryz.prog 73 #[.slice a 0 c,.string sign,.int .i64 (lev : Int)] w (Cv w (fF [] sign lev)):=by
 go_enter Tryz.func73,Tryz.ntmps73;go_wp2;have d:=ej w (.int .i64 (lev : Int)) (.slice none 0 0) (.slice (some ⟨w.heap.size + 1,0,none⟩) 1 1) 112;have f:=d.of_block ((bel1 _ (.cells #[.string ⟨#[123,125]⟩] 9)).block _ d.lt);have b:=aK (w.alloc (.cells #[.int .i64 (lev : Int),.slice none 0 0,.slice (some ⟨w.heap.size + 1,0,none⟩) 1 1] 112)) (.string ⟨#[123,125]⟩) 9;have e : (w.alloc (.cells #[.int .i64 (lev : Int),.slice none 0 0,.slice (some ⟨w.heap.size + 1,0,none⟩) 1 1] 112)).heap.size = w.heap.size + 1:=by simp
 rw [e] at b;refine bodyPost_ret (rF f _ rfl) rfl ?_;refine ⟨none,some ⟨w.heap.size + 1,0,none⟩,w.heap.size + 1,w.heap.size + 1,0,1,rfl,⟨fun h=>absurd h (Nat.lt_irrefl _),fun k h=>absurd h (Nat.not_lt_zero _),fun _=>rfl,fun k h=>?_⟩,nlr _,nlr _,by omega,by omega,eM _ _ _⟩
 have g : k = 0:=by
  have : k < 1:=h;omega
 subst g;exact b.cell (i:=0) (by omega)
theorem Tryz.info3 : (Tryz.prog.info? 3).map (fun i=>(i.zero,i.size,i.bytes)) = some (some (.int .i64 0),1,8):=by kernel_rfl
theorem jT.of_blocks {w w' : World} {f : Fm} {na ta : Option Addr} {nb tb : Nat} (h : jT w f na ta nb tb) (h1 : w'.heap[nb]? = w.heap[nb]?) (h2 : w'.heap[tb]? = w.heap[tb]?) : jT w' f na ta nb tb:=
 ⟨h.nAt,fun k hk=>(World.cell?_of_block (a:=⟨nb,k,none⟩) h1).trans (h.need k hk),h.tAt,fun k hk=>(World.cell?_of_block (a:=⟨tb,k,none⟩) h2).trans (h.text k hk)⟩
structure Bc (w : World) (lev n : Nat) (va : Option Addr) (k vc : Nat) (L : List ByteArray) (wr : World) : Prop where
 row : wr.rowIs (w.heap.size + 1 + 1) 112 3 (v3 (.int .i64 (lev : Int)) (.slice (some ⟨w.heap.size + 1,0,none⟩) n n) (.slice va k vc))
 res : wr.rowIs w.heap.size 112 3 (v3 (.int .i64 0) (.slice none 0 0) (.slice none 0 0))
 made : wr.rowIs (w.heap.size + 1) 3 n (fun _=>.int .i64 0)
 own : wr.ownsRow (w.heap.size + 3) 9 1 (.slice va k vc) k (L.map Value.string)
 bel : Bw w wr
theorem uV (a b c V : Value) : ∀ i,i < 3 -> (if i = 2 then V else v3 a b c i) = v3 a b V i:=fun i hi=>by
 match i,hi with
 | 0,_=>rfl
 | 1,_=>rfl
 | 2,_=>rfl
theorem Bc.step {w wr w3 : World} {lev n k vc gg cap : Nat} {va : Option Addr} {L : List ByteArray} {t : ByteArray} {o : Obj} (h : Bc w lev n va k vc L wr)
  (hown : w3.ownsRow (w.heap.size + 3) 9 1 (.slice (some ⟨gg,0,none⟩) (k + 1) cap) (k + 1) (L.map Value.string ++ [.string t])) (hg : (wr.alloc o).grownBy w3 (Value.slice va k vc).ownBlock) :
  Bc w lev n (some ⟨gg,0,none⟩) (k + 1) cap (L ++ [t]) (w3.setCell ⟨w.heap.size + 1 + 1,2,none⟩ (.slice (some ⟨gg,0,none⟩) (k + 1) cap)):=by
 have d : ∀ b,b < w.heap.size + 3 -> some b ≠ (Value.slice va k vc).ownBlock:=fun b hb e=>by have:=(h.own.lt b e.symm).1;omega
 have f : w.heap.size + 1 + 1 < wr.heap.size:=h.row.lt;have blk : ∀ b,b < w.heap.size + 3 -> w3.heap[b]? = wr.heap[b]?:=fun b hb=>(hg.block b (by simp;omega) (d b hb)).trans (Below.heap_alloc _ _ _ (by omega));have a : w.heap.size + 3 <= gg:=(hown.lt gg rfl).1;refine ⟨((h.row.of_block (blk _ (by omega))).set 2 _).congr (uV _ _ _ _),(h.res.of_block (blk _ (by omega))).setOther (by show w.heap.size ≠ w.heap.size + 1 + 1;omega) _,(h.made.of_block (blk _ (by omega))).setOther (by show w.heap.size + 1 ≠ w.heap.size + 1 + 1;omega) _,?_,?_⟩
 ·rw [List.map_append]
  refine aG hown fun b e=>Below.heap_setCell _ _ _ _ ?_;have : gg = b:=by simpa [Value.ownBlock] using e.symm
  show b ≠ w.heap.size + 1 + 1;omega
 ·have c : Bw w w3:=⟨hg.os.trans h.bel.os,hg.tape.trans h.bel.tape,hg.output.trans h.bel.output,Nat.le_trans h.bel.size (Nat.le_trans (by simp) hg.size),fun b hb=>(blk b (by omega)).trans (h.bel.block b hb)⟩
  exact c.setCell (p:=⟨w.heap.size + 1 + 1,2,none⟩) (by show w.heap.size <= w.heap.size + 1 + 1;omega) _
theorem qM (sign : ByteArray) : ∀ (ah : ByteArray) (ns : List ByteArray),jq sign ah ns = ((List.range ns.length).map fun k=>(if k = 0 then ah else ld) ++ ns.getD k e0 ++ sign) ++ [xC]
 | _,[]=>rfl
 | ah,n :: ns=>by
   rw [jq,qM sign ld ns,List.length_cons,List.range_succ_eq_map,List.map_cons,List.map_map];show _ :: _ = (_ :: _) ++ _;rw [List.cons_append];congr 3;refine funext fun k=>?_;show (if k = 0 then ld else ld) ++ ns.getD k e0 ++ sign = (if k + 1 = 0 then ah else ld) ++ (n :: ns).getD (k + 1) e0 ++ sign;rw [if_neg (by omega : ¬ k + 1 = 0),List.getD_cons_succ]
   split <;> rfl
def sX (sign : ByteArray) (ns : List ByteArray) (k : Nat) : List ByteArray:=(List.range k).map fun k=>(if k = 0 then xO else ld) ++ ns.getD k e0 ++ sign
theorem uq (sign : ByteArray) (ns : List ByteArray) (k : Nat) : sX sign ns (k + 1) = sX sign ns k ++ [(if k = 0 then xO else ld) ++ ns.getD k e0 ++ sign]:=by
 unfold sX;rw [List.range_succ,List.map_append];rfl
theorem yi (sign : ByteArray) (ns : List ByteArray) (k : Nat) : (sX sign ns k).length = k:=by unfold sX;rw [List.length_map,List.length_range]
theorem nW (w : World) {p : NPl} {ns : List ByteArray} (h : lG w p ns) (hl : ns.length <= 1048576) (hs : ∀ k,k < ns.length -> (ns.getD k e0).size <= 1048576) (hc : ns.length <= p.c) (sign : ByteArray) (hsg : sign.size <= 3) (lev : Nat) :
  Calls Tryz.prog 73 #[.slice p.a ns.length p.c,.string sign,.int .i64 (lev : Int)] w (Cv w (fF ns sign lev)):=by
 by_cases hz : ns.length = 0
 ·have e : ns = []:=List.eq_nil_of_length_eq_zero hz
  subst e;exact mG w p.a p.c sign lev
 obtain ⟨n,hn⟩:=xe (ns.length)
 have HF : Hid (fF ns sign lev = ⟨lev,List.replicate n 0,sX sign ns n ++ [xC]⟩):=by
  show _ = _;unfold fF;rw [if_neg hz,qM,hn];rfl
 have HC : Hid (∀ W,Bw w W -> ∀ k,k < n -> p.a = some ⟨p.b,0,none⟩ /\ W.cell? ⟨p.b,k,none⟩ = some (.string (ns.getD k e0)) /\ (ns.getD k e0).size <= 1048576):=fun W hb k hk=>⟨h.at_ (by omega),(h.below hb).cell k (by omega),hs k (by omega)⟩;rw [<- hn] at hz hl hc ⊢;have a1 : ¬ (n : Int) = 0:=by omega
 have ao:=run_make_row' (P:=Tryz.prog) 95 3 (.int .i64 0) 8 Tryz.underlying95 Tryz.info3 rfl .i64 .i64 n (by omega) (by omega);obtain ⟨i0,V,U,T,L⟩:=info_parts Tryz.info9;obtain ⟨Z,D⟩:=xe (w.alloc (.cells #[.int .i64 0,.slice none 0 0,.slice none 0 0] 112));obtain ⟨Y,v⟩:=xe (Z.alloc (.cells (madeCells #[.int .i64 0] n) 3));obtain ⟨W3,m⟩:=xe (Y.alloc (.cells #[.int .i64 (lev : Int),.slice (some ⟨w.heap.size + 1,0,none⟩) n n,.slice none 0 0] 112));have z1 : Z.heap.size = w.heap.size + 1:=by rw [D];simp
 have z2 : Y.heap.size = w.heap.size + 1 + 1:=by rw [v,World.size_alloc,z1]
 have z3 : W3.heap.size = w.heap.size + 3:=by rw [m];simp [z2]
 have HI : Hid (Bc w lev n none 0 0 [] W3):=by
  refine ⟨?_,?_,?_,⟨rfl,.inl ⟨rfl,rfl⟩⟩,?_⟩
  ·have:=ej Y (.int .i64 (lev : Int)) (.slice (some ⟨w.heap.size + 1,0,none⟩) n n) (.slice none 0 0) 112
   rw [<- m,z2] at this;exact this
  ·have:=((ej w (.int .i64 0) (.slice none 0 0) (.slice none 0 0) 112).alloc (.cells (madeCells #[.int .i64 0] n) 3))
   rw [<- D,<- v] at this;rw [m];exact this.alloc _
  ·have:=World.rowIs_made Z (.int .i64 0) n 3
   rw [<- v,z1] at this;rw [m];exact this.alloc _
  ·rw [m,v,D]
   exact (eM w _ _).alloc (by simp;omega) _
 clear h hs hn;go_enter Tryz.func73,Tryz.ntmps73;go_wp2;rw [<- D];rw [<- v];rw [<- m];have S : ((n : Int) == 0) = false:=bn2 a1;rw [S];clear S;clear D v m ao z1 z2 z3 Z Y
 go_loopw [24,8] (fun i s wr=>∃ (k A : Nat) (B : Option Addr) (F : ByteArray),k <= n /\ i = .int .i64 k /\ s = .string F /\ Hid (F = if k = 0 then xO else ld) /\ Hid (Bc w lev n B k A (sX sign ns k) wr)) (fun i _ _=>n - (intOf i).toNat)
 case atStart=>exact ⟨0,0,none,xO,Nat.zero_le _,rfl,rfl,rfl,HI⟩
 case round=>
  clear HI;obtain ⟨k,A,B,F,hk,rfl,rfl,O,I⟩:=hrel;have H:=I.out.row;have y2 : wr.cell? ⟨w.heap.size + 1 + 1,2,none⟩ = some (.slice B k A):=H.cell (i:=2) (by omega);have C:=I.out.own;have b1 : w.heap.size + 3 <= wr.heap.size:=H.lt;have X : some (w.heap.size + 1 + 1) ≠ (Value.slice B k A).ownBlock:=fun e=>by have:=(C.lt _ e.symm).1;omega
  by_cases ar : k < n
  ·obtain ⟨ea,y0,sx⟩:=HC.out wr I.out.bel k ar
   obtain ⟨x,hx⟩:=xe (ns.getD k e0);rw [<- hx] at y0 sx;have HL : Hid (sX sign ns (k + 1) = sX sign ns k ++ [(F ++ x) ++ sign]):=by show _ = _;rw [uq,O.out,hx]
   have cn : F.size <= 2:=by rw [O.out];split <;> decide
   have c1:=rsa F x (by omega);have c2:=rsa (F ++ x) sign (by rw [bsa];omega);have K:=(H.alloc (.cells #[.string ((F ++ x) ++ sign)] 9)).cell (i:=2) (by omega);have M:=(H.alloc (.cells #[.string ((F ++ x) ++ sign)] 9)).frozen 2;have a0 : (k : Int) < (n : Int):=by omega
   have b7 : (0 : Int) <= (k : Int):=by omega
   rw [ea];clear hx ea H;go_wp2_with (first | (at_builtin;refine wpList_append_lies _ rfl _ _ 52 rfl (w.heap.size + 3) 9 i0 (.string ByteArray.empty) 1 16 Tryz.underlying52 V U T L rfl (by omega) (.slice B k A) k ((sX sign ns k).map Value.string) rfl (C.alloc _) ⟨wr.heap.size,0,none⟩ 1 1 [.string ((F ++ x) ++ sign)] rfl rfl (cell_one_new _ _ _) (by simp [Value.oneCell']) (by omega) (by unfold maxLen;omega) (by omega) (by simp;omega) (wr.heap.size + 1) (by simp) ?_;intro E d u f r R N;have f1 : u.cell? ⟨w.heap.size + 1 + 1,2,none⟩ = some (.slice B k A):=(r.cell_far ⟨w.heap.size + 1 + 1,2,none⟩ (by simp;omega) X).trans K;have f2 : u.frozen? ⟨w.heap.size + 1 + 1,2,none⟩ = false:=(r.frozen_far ⟨w.heap.size + 1 + 1,2,none⟩ (by simp;omega) X).trans M))
   have l : Hid (Bc w lev n (some ⟨E,0,none⟩) (k + 1) d (sX sign ns (k + 1)) (u.setCell ⟨w.heap.size + 1 + 1,2,none⟩ (.slice (some ⟨E,0,none⟩) (k + 1) d))):=by
    show Bc _ _ _ _ _ _ _ _;rw [HL.out];exact I.out.step f r
   clear f r R C K M c1 c2 y0 y2 X;go_wp2
   go_roundw
   case rel=>
    exact ⟨k + 1,d,some ⟨E,0,none⟩,ld,by omega,by go_num,rfl,by show ld = _;rw [if_neg (by omega)],l⟩
   case measure=>simp [intOf];omega
  ·have bf : k = n:=by omega
   subst bf;have a4 : Hid (wr.rowIs (w.heap.size + 1 + 1) 112 3 (v3 (.int .i64 (lev : Int)) (.slice (some ⟨w.heap.size + 1,0,none⟩) k k) (.slice B k A))):=H;have a9 : Hid (wr.rowIs w.heap.size 112 3 (v3 (.int .i64 0) (.slice none 0 0) (.slice none 0 0))):=I.out.res;have n0 : some w.heap.size ≠ (Value.slice B k A).ownBlock:=fun e=>by have:=(C.lt _ e.symm).1;omega
   have HQ : Hid (∀ (u : World) (o : Obj),(wr.alloc o).grownBy u (Value.slice B k A).ownBlock -> u.rowIs (w.heap.size + 1 + 1) 112 3 (v3 (.int .i64 (lev : Int)) (.slice (some ⟨w.heap.size + 1,0,none⟩) k k) (.slice B k A)) /\ u.rowIs w.heap.size 112 3 (v3 (.int .i64 0) (.slice none 0 0) (.slice none 0 0))):=fun u o hg=>
    ⟨(a4.out.alloc o).of_block (hg.block _ (by simp;omega) X),(a9.out.alloc o).of_block (hg.block _ (by simp;omega) n0)⟩
   have a0 : ¬ (k : Int) < (k : Int):=by omega
   clear H;go_wp2_with (first | (at_builtin;refine wpList_append_lies _ rfl _ _ 52 rfl (w.heap.size + 3) 9 i0 (.string ByteArray.empty) 1 16 Tryz.underlying52 V U T L rfl (by omega) (.slice B k A) k ((sX sign ns k).map Value.string) rfl (C.alloc _) ⟨wr.heap.size,0,none⟩ 1 1 [.string ⟨#[125]⟩] rfl rfl (cell_one_new _ _ _) (by simp [Value.oneCell']) (by omega) (by unfold maxLen;omega) (by omega) (by simp;omega) (wr.heap.size + 1) (by simp) ?_;intro E d u f r R N;obtain ⟨Q,G⟩:=HQ.out u _ r;have f0 : u.cell? ⟨w.heap.size + 1 + 1,0,none⟩ = some (.int .i64 (lev : Int)):=Q.cell (i:=0) (by omega);have f1 : u.cell? ⟨w.heap.size + 1 + 1,1,none⟩ = some (.slice (some ⟨w.heap.size + 1,0,none⟩) k k):=Q.cell (i:=1) (by omega);have f2 : u.cell? ⟨w.heap.size + 1 + 1,2,none⟩ = some (.slice B k A):=Q.cell (i:=2) (by omega);have e2:=Q.frozen 2;have r0:=G.cell (i:=0) (by omega);have r1:=G.cell (i:=1) (by omega);have r2:=G.cell (i:=2) (by omega);have t0:=G.frozen 0;have t1:=G.frozen 1;have t2:=G.frozen 2;clear Q G));have l:=I.out.step (t:=xC) f r;obtain ⟨w4,bb⟩:=xe (u.setCell ⟨w.heap.size + 1 + 1,2,none⟩ (.slice (some ⟨E,0,none⟩) (k + 1) d));rw [<- bb] at l ⊢;have q : w.heap.size <= w.heap.size:=nlr _;have RZ:=((l.res.set 0 (.int .i64 (lev : Int))).set 1 (.slice (some ⟨w.heap.size + 1,0,none⟩) k k)).set 2 (.slice (some ⟨E,0,none⟩) (k + 1) d)
   have RY:=RZ.congr (g:=v3 (.int .i64 (lev : Int)) (.slice (some ⟨w.heap.size + 1,0,none⟩) k k) (.slice (some ⟨E,0,none⟩) (k + 1) d)) (fun i hi=>by
    match i,hi with
    | 0,_=>rfl
    | 1,_=>rfl
    | 2,_=>rfl)
   refine bodyPost_ret (rF RY _ rfl) rfl ?_;have b4 : w.heap.size + 3 <= E:=(l.own.lt E rfl).1
   have blk : ∀ (b : Nat) (x y z : Value),b ≠ w.heap.size -> (((w4.setCell ⟨w.heap.size,0,none⟩ x).setCell ⟨w.heap.size,1,none⟩ y).setCell ⟨w.heap.size,2,none⟩ z).heap[b]? = w4.heap[b]?:=fun b x y z hb=>by
    have ne : ∀ j,b ≠ (⟨w.heap.size,j,none⟩ : Addr).block:=fun j=>hb;rw [Below.heap_setCell _ _ _ _ (ne 2),Below.heap_setCell _ _ _ _ (ne 1),Below.heap_setCell _ _ _ _ (ne 0)]
   have ln : (sX sign ns k ++ [xC]).length = k + 1:=by rw [lap,yi];rfl
   unfold Cv;rw [HF.out];refine ⟨some ⟨w.heap.size + 1,0,none⟩,some ⟨E,0,none⟩,w.heap.size + 1,E,k,d,?_,jT.of_blocks (w:=w4) ⟨fun _=>rfl,fun j hj=>?_,fun _=>rfl,fun j hj=>?_⟩ (blk _ _ _ _ (by omega)) (blk _ _ _ _ (by omega)),?_,?_,by omega,by omega,?_⟩
   ·unfold y8
    rw [List.length_replicate,ln]
   ·have J : j < k:=by rw [<- List.length_replicate (n:=k) (a:=(0 : Nat))];exact hj
    rw [l.made.cell J,List.getElem_replicate];rfl
   ·have J : j < k + 1:=by rw [<- ln];exact hj
    rw [l.own.cellAt j (by omega),List.getElem?_map,List.getElem?_eq_getElem hj];rfl
   ·rw [List.length_replicate];exact nlr _
   ·rw [ln]
    rcases l.own.2 with ⟨h1,_⟩ | ⟨_,_,_,h1,_,_,h3,_⟩
    ·cases h1
    ·cases h1
     exact h3
   ·exact ((l.bel.setCell (p:=⟨w.heap.size,0,none⟩) q _).setCell (p:=⟨w.heap.size,1,none⟩) q _).setCell (p:=⟨w.heap.size,2,none⟩) q _
end Go.Proofs.YtihedobejcaapaaGreatDoor
