/-
  Tokens
-/
import Derived.Test.YtihedobejcaapaaGreatDoorA3
set_option maxHeartbeats 8000000
set_option maxRecDepth 100000
namespace Go.Proofs.YtihedobejcaapaaGreatDoor
open Go.RowKit
theorem CY {s : ByteArray} {d : List TK} {k : Nat} {x4 : Value} {l : Nat} (hl : l = 0) (h : (l = 0 /\ dY s d k) \/
   (∃ f : Nat,x4 = .int .i64 (f : Int) /\ f < s.size /\ dY s d f /\
    ((l = 1 /\ bt s f = 35 /\ Rd nn s f k) \/ (l = 2 /\ sl (bt s f) = true /\ Rd wb s f k) \/ (l = 3 /\ dg (bt s f) = true /\ Rd dg s f k) \/ (l = 4 /\ bt s f = 45 /\ k = f + 1) \/
     (l = 5 /\ blk s f = false /\ k = f + aR s f)))) : dY s d k:=by
 rcases h with ⟨_,h⟩ | ⟨f,_,_,_,h⟩
 ·exact h
 ·rcases h with ⟨h,_⟩ | ⟨h,_⟩ | ⟨h,_⟩ | ⟨h,_⟩ | ⟨h,_⟩ <;> omega
theorem kI {p : Int -> Bool} {s : ByteArray} {f : Nat} (h : f < s.size) : Rd p s f (f + 1):=⟨h,nlr _,by omega,rfl⟩
theorem mE {p : Int -> Bool} {s : ByteArray} {f k : Nat} (h : Rd p s f k) (hk : k < s.size) (hp : p (bt s k) = true) : Rd p s f (k + 1):=by
 obtain ⟨a,c,d,b⟩:=h;rw [fk hk hp] at b;exact ⟨a,by omega,by omega,by omega⟩
theorem gY {p : Int -> Bool} {s : ByteArray} {f k : Nat} (h : Rd p s f k) (hk : k < s.size -> p (bt s k) = false) : k = f + 1 + run p s (f + 1):=by
 obtain ⟨c,d,b,a⟩:=h;by_cases q : k < s.size
 ·rw [eU q (hk q)] at a;omega
 ·rw [fu q] at a;omega
theorem oX {s : ByteArray} {i : Nat} (h : bt s i = 32 \/ bt s i = 10) : aR s i = 1 /\ blk s i = true:=by
 unfold aR blk;rw [if_pos h];exact ⟨rfl,decide_eq_true (by omega)⟩
theorem xo {s : ByteArray} {i : Nat} (h : bt s i = 35) : aR s i = 1 + run nn s (i + 1) /\ blk s i = true:=by
 unfold aR blk;rw [if_neg (by omega),if_pos h];exact ⟨rfl,decide_eq_true (by omega)⟩
theorem oe {c : Int} : sl c = true ↔ 97 <= c /\ c <= 122:=by simp [sl]
theorem om {c : Int} : dg c = true ↔ 48 <= c /\ c <= 57:=by simp [dg]
theorem ue {c : Int} : sl c = false ↔ ¬ (97 <= c /\ c <= 122):=by simp only [sl,decide_eq_false_iff_not]
theorem Ah {c : Int} : dg c = false ↔ ¬ (48 <= c /\ c <= 57):=by simp only [dg,decide_eq_false_iff_not]
theorem yB {s : ByteArray} {i : Nat} (h : sl (bt s i) = true) : aR s i = 1 + run wb s (i + 1) /\ blk s i = false:=by
 have a:=oe.1 h;unfold aR blk;rw [if_neg (by omega),if_neg (by omega),if_pos h];exact ⟨rfl,decide_eq_false (by omega)⟩
theorem Ax {s : ByteArray} {i : Nat} (h : dg (bt s i) = true) : aR s i = 1 + run dg s (i + 1) /\ blk s i = false:=by
 have b:=om.1 h;have a : sl (bt s i) = false:=ue.2 (by omega);unfold aR blk;rw [if_neg (by omega),if_neg (by omega),a,if_neg (by decide),if_pos h];exact ⟨rfl,decide_eq_false (by omega)⟩
theorem tV {s : ByteArray} {i : Nat} (h : bt s i = 45) : aR s i = (if bt s (i + 1) = 62 then 2 else 1) /\ blk s i = false:=by
 have b : sl (bt s i) = false:=ue.2 (by omega);have a : dg (bt s i) = false:=Ah.2 (by omega);unfold aR blk;rw [if_neg (by omega),if_neg (by omega),b,if_neg (by decide),a,if_neg (by decide)];refine ⟨?_,decide_eq_false (by omega)⟩;by_cases q : bt s (i + 1) = 62
 ·rw [if_pos ⟨h,q⟩,if_pos q]
 ·rw [if_neg (fun c=>q c.2),if_neg q]
theorem uG {s : ByteArray} {i : Nat} (h0 : bt s i ≠ 32) (h1 : bt s i ≠ 10) (h2 : bt s i ≠ 35) (h3 : sl (bt s i) = false) (h4 : dg (bt s i) = false) (h5 : bt s i ≠ 45) : aR s i = 1 /\ blk s i = false:=by
 unfold aR blk;rw [if_neg (by omega),if_neg h2,h3,if_neg (by decide),h4,if_neg (by decide),if_neg (fun c=>h5 c.1)];exact ⟨rfl,decide_eq_false (by omega)⟩
theorem th {s : ByteArray} {i : Nat} (h : i < s.size) (hb : blk s i = false) (hp : 0 < (gC s i).size) : (gC s i).size = 1 \/ sg (((gC s i)[0]'hp).toNat : Int) = false:=by
 have b:=ox h;rw [ByteArray.toList_eq,eF _ hp] at b;rw [b,eZ h];cases h1 : sl (bt s i)
 ·cases h2 : dg (bt s i)
  ·by_cases a : bt s i = 45
   ·right
    rw [a];decide
   ·left
    have c : ¬ (bt s i = 32 \/ bt s i = 10 \/ bt s i = 35):=by simpa [blk] using hb
    exact (uG (by omega) (by omega) (by omega) h1 h2 a).1
  ·right
   have:=om.1 h2;simp only [sg,decide_eq_false_iff_not];omega
 ·right
  have:=oe.1 h1;simp only [sg,decide_eq_false_iff_not];omega
theorem ad {w : World} {base : Nat} {e : TypeId} {size : Nat} {v : Value} {n : Nat} {xs : List Value} (h : w.ownsRow base e size v n xs) : ∃ oa cap,v = .slice oa n cap:=by
 rcases h.2 with ⟨rfl,rfl⟩ | ⟨g,cap,_,rfl,_⟩
 ·exact ⟨none,0,rfl⟩
 ·exact ⟨_,cap,rfl⟩
theorem Tryz.info45 : (Tryz.prog.info? 45).map (fun i=>(i.zero,i.size,i.bytes)) = some (some (.agg #[.int .i64 0,.string ByteArray.empty,.int .i64 0]),3,32):=by kernel_rfl
theorem tQ {w wr w2 w3 : World} {oa : Option Addr} {cap gg cap3 : Nat} {d : List TK} {tk : TK} {o2 : Obj} (h : pO w wr (.slice oa d.length cap) d) (hb : Bw wr w2)
  (hown3 : w3.ownsRow w.heap.size 45 3 (.slice (some ⟨gg,0,none⟩) (d.length + 1) cap3) (d.length + 1) (jE d ++ [.int .i64 tk.cls,.string tk.txt,.int .i64 (tk.loc : Int)]))
  (hg3 : (w2.alloc o2).grownBy w3 (Value.slice oa d.length cap).ownBlock) : pO w w3 (.slice (some ⟨gg,0,none⟩) (d.length + 1) cap3) (d ++ [tk]):=by
 have a : Bw w (w2.alloc o2):=(h.below.trans (hb.mono h.below.size)).alloc (Nat.le_trans h.below.size hb.size) _;refine ⟨?_,⟨hg3.os.trans a.os,hg3.tape.trans a.tape,hg3.output.trans a.output,Nat.le_trans a.size hg3.size,fun k hk=>?_⟩⟩
 ·rw [oC,lap];exact hown3
 ·rw [hg3.block k (Nat.lt_of_lt_of_le hk a.size) (fun e=>by have:=(h.own.lt k e.symm).1;omega)]
  exact a.block k hk
theorem oA (w : World) (x y z : Value) (t : TypeId) : ∀ j u,[x,y,z][j]? = some u -> (w.alloc (.cells #[x,y,z] t)).cell? ((⟨w.heap.size,0,none⟩ : Addr).add j) = some u:=by
 intro j u a
 match j,a with
 | 0,a=>
   simp at a;subst a;simp [Addr.add]
 | 1,a=>
   simp at a;subst a;simp [Addr.add]
 | 2,a=>
   simp at a;subst a;simp [Addr.add]
theorem Ar (tk : TK) : ∀ u ∈ [Value.int .i64 tk.cls,.string tk.txt,.int .i64 (tk.loc : Int)],u.oneCell' = true:=by
 intro u a;simp only [List.mem_cons,List.not_mem_nil,or_false] at a;rcases a with rfl | rfl | rfl <;> rfl
theorem aG {w w' : World} {base : Nat} {e : TypeId} {size : Nat} {v : Value} {n : Nat} {xs : List Value} (h : w.ownsRow base e size v n xs) (hb : ∀ k,some k = v.ownBlock -> w'.heap[k]? = w.heap[k]?) : w'.ownsRow base e size v n xs:=by
 obtain ⟨i,b⟩:=h;refine ⟨i,?_⟩;rcases b with b | ⟨g,d,a,f,c,j,r⟩
 ·exact Or.inl b
 ·exact Or.inr ⟨g,d,a,f,c,(hb g (by rw [f];rfl)).trans j,r⟩
theorem tu {w wr w2 : World} {v : Value} {d : List TK} (h : pO w wr v d) (hb : Bw wr w2) : pO w w2 v d:=
 ⟨aG h.own (fun k e=>hb.block k (h.own.lt k e.symm).2),h.below.trans (hb.mono h.below.size)⟩
theorem c6 (s : ByteArray) (m : Int) (w : World) (_hs : s.size <= 9223372036854775807) (hm : w.cell? ⟨1,0,none⟩ = some (.int .i64 m)) :
  Calls Tryz.prog 14 #[.string s] w fun e w'=>∃ v,e = .returned v /\ pO w w' v (bB s):=by
 by_cases h1 : s.size <= 1000
 case neg=>
  have HT : Hid (bB s = []):=by show _ = _;unfold bB;rw [if_neg h1]
  go_enter Tryz.func14,Tryz.ntmps14;go_wp2;apply wp_scope_straight;go_wp2;rw [Exit.noGoto_ret];go_ret;exact ⟨_,rfl,by rw [HT.out];exact ⟨World.ownsRow_nil _ _ _ _,Below.refl _ _⟩⟩
 have HT : Hid (bB s = iZ s 0):=by show _ = _;unfold bB;rw [if_pos h1]
 have HM : Hid (∀ w',Bw w w' -> w'.cell? ⟨1,0,none⟩ = some (.int .i64 m)):=fun w' hb=>lN hm hb;clear hm;go_enter Tryz.func14,Tryz.ntmps14;go_wp2;refine mu (Di s w) (far s) (fun l a w'=>zJ) rfl rfl rfl rfl rfl rfl ?first ?p0 ?p1 ?p2 ?p3 ?p4 ?p5
 case first=>
  intro P0;go_wp2
  go_step3
  rename_i ha
  exact ha _ _ (P0 _ _ ⟨_,_,0,[],cv rfl rfl rfl rfl rfl,⟨World.ownsRow_nil _ _ _ _,Below.refl _ _⟩,Nat.zero_le _,Or.inl ⟨rfl,qA s⟩⟩)
 case p0=>
  rintro a wr ⟨v,L,k,d,⟨u,rfl⟩,z,A,r⟩;have p : Hid (dY s d k):=CY rfl r;have n : Hid (pO w wr v d):=z;clear r z;by_cases b : k < s.size
  case neg=>
   have hb : ((k : Int) == (s.size : Int)) = true:=by rw [beq_iff_eq];omega
   have U : Hid (bB s = d):=by show _ = _;rw [HT.out];exact (uh p.out b).symm
   go_wp2;simp only [fc];go_ret;exact ⟨_,rfl,by rw [U.out];exact n.out⟩
  have hb : ((k : Int) == (s.size : Int)) = false:=bn2 (by omega);have t : Hid (bt s k = (s[k].toNat : Int)):=eA b;by_cases i : (s[k].toNat : Int) = 32
  ·have N : ((s[k].toNat : Int) == 32) = true:=beq_iff_eq.2 i
   have g : Hid (aR s k = 1 /\ blk s k = true):=oX (Or.inl (by rw [t.out,i]));clear i;go_wp2
   go_step3
   exact ⟨⟨_,_,k + 1,d,cv rfl rfl rfl rfl rfl,n.out,by omega,Or.inl ⟨rfl,by have:=jh p.out b g.out.2;rw [g.out.1] at this;exact this⟩⟩,by simp [far,intOf];omega⟩
  have N : ((s[k].toNat : Int) == 32) = false:=bn2 i;by_cases D : (s[k].toNat : Int) = 10
  ·have b1 : ((s[k].toNat : Int) == 10) = true:=beq_iff_eq.2 D
   have g : Hid (aR s k = 1 /\ blk s k = true):=oX (Or.inr (by rw [t.out,D]));clear i D;go_wp2
   go_step3
   exact ⟨⟨_,_,k + 1,d,cv rfl rfl rfl rfl rfl,n.out,by omega,Or.inl ⟨rfl,by have:=jh p.out b g.out.2;rw [g.out.1] at this;exact this⟩⟩,by simp [far,intOf];omega⟩
  have b1 : ((s[k].toNat : Int) == 10) = false:=bn2 D;by_cases E : (s[k].toNat : Int) = 35
  ·have b2 : ((s[k].toNat : Int) == 35) = true:=beq_iff_eq.2 E
   have g : Hid (bt s k = 35):=by show _ = _;rw [t.out,E]
   clear i D E;go_wp2
   go_step3
   exact ⟨⟨_,_,k + 1,d,cv rfl rfl rfl rfl rfl,n.out,by omega,Or.inr ⟨k,rfl,b,p.out,Or.inl ⟨rfl,g.out,kI b⟩⟩⟩,by simp [far,intOf];omega⟩
  have b2 : ((s[k].toNat : Int) == 35) = false:=bn2 E;cases c3 : sl (s[k].toNat : Int)
  case true=>
   have g : Hid (sl (bt s k) = true):=by show _ = _;rw [t.out,c3]
   clear i D E;go_wp2_with (go_at_call 30;refine (zI _ _).mono ?_;rintro e w' ⟨rfl,rfl⟩)
   go_step3
   exact ⟨⟨_,_,k + 1,d,cv rfl rfl rfl rfl rfl,n.out,by omega,Or.inr ⟨k,rfl,b,p.out,Or.inr (Or.inl ⟨rfl,g.out,kI b⟩)⟩⟩,by simp [far,intOf];omega⟩
  cases c4 : dg (s[k].toNat : Int)
  case true=>
   have g : Hid (dg (bt s k) = true):=by show _ = _;rw [t.out,c4]
   clear i D E;go_wp2_with (first | (go_at_call 30;refine (zI _ _).mono ?_;rintro e w' ⟨rfl,rfl⟩) | (go_at_call 31;refine (c19 _ _).mono ?_;rintro e w' ⟨rfl,rfl⟩))
   go_step3
   exact ⟨⟨_,_,k + 1,d,cv rfl rfl rfl rfl rfl,n.out,by omega,Or.inr ⟨k,rfl,b,p.out,Or.inr (Or.inr (Or.inl ⟨rfl,g.out,kI b⟩))⟩⟩,by simp [far,intOf];omega⟩
  by_cases I : (s[k].toNat : Int) = 45
  ·have b5 : ((s[k].toNat : Int) == 45) = true:=beq_iff_eq.2 I
   have g : Hid (bt s k = 45):=by show _ = _;rw [t.out,I]
   clear i D E I;go_wp2_with (first | (go_at_call 30;refine (zI _ _).mono ?_;rintro e w' ⟨rfl,rfl⟩) | (go_at_call 31;refine (c19 _ _).mono ?_;rintro e w' ⟨rfl,rfl⟩))
   go_step3
   exact ⟨⟨_,_,k + 1,d,cv rfl rfl rfl rfl rfl,n.out,by omega,Or.inr ⟨k,rfl,b,p.out,Or.inr (Or.inr (Or.inr (Or.inl ⟨rfl,g.out,rfl⟩)))⟩⟩,by simp [far,intOf];omega⟩
  ·have b5 : ((s[k].toNat : Int) == 45) = false:=bn2 I
   have g : Hid (aR s k = 1 /\ blk s k = false):=uG (by rw [t.out];exact i) (by rw [t.out];exact D) (by rw [t.out];exact E) (by rw [t.out];exact c3) (by rw [t.out];exact c4) (by rw [t.out];exact I);clear i D E I;go_wp2_with (first | (go_at_call 30;refine (zI _ _).mono ?_;rintro e w' ⟨rfl,rfl⟩) | (go_at_call 31;refine (c19 _ _).mono ?_;rintro e w' ⟨rfl,rfl⟩))
   go_step3
   exact ⟨⟨_,_,k + 1,d,cv rfl rfl rfl rfl rfl,n.out,by omega,Or.inr ⟨k,rfl,b,p.out,Or.inr (Or.inr (Or.inr (Or.inr ⟨rfl,g.out.2,by rw [g.out.1]⟩)))⟩⟩,by simp [far,intOf];omega⟩
 case p1=>
  rintro a wr ⟨v,L,k,d,⟨u,rfl⟩,z,A,r⟩;have n : Hid (pO w wr v d):=z;rcases r with ⟨h,_⟩ | ⟨f,rfl,x,o,r⟩
  ·exact absurd h (by decide)
  have p : Hid (dY s d f):=o
  have c : Hid (bt s f = 35 /\ Rd nn s f k):=by
   rcases r with ⟨_,H,G⟩ | ⟨h,_⟩ | ⟨h,_⟩ | ⟨h,_⟩ | ⟨h,_⟩ <;> first | exact ⟨H,G⟩ | exact absurd h (by decide)
  clear r z o;have g : Hid (aR s f = 1 + run nn s (f + 1) /\ blk s f = true):=xo c.out.1;by_cases b : k < s.size
  ·have t : Hid (bt s k = (s[k].toNat : Int)):=eA b
   by_cases i : (s[k].toNat : Int) = 10
   ·have N : ((s[k].toNat : Int) != 10) = false:=by rw [bne_eq_false_iff_eq];exact i
    have y : Hid (k = f + 1 + run nn s (f + 1)):=gY c.out.2 (fun _=>by rw [t.out,i];rfl);clear i;go_wp2
    go_step3
    exact ⟨⟨_,_,k,d,cv rfl rfl rfl rfl rfl,n.out,A,Or.inl ⟨rfl,by have h:=jh p.out x g.out.2;rw [g.out.1] at h;rw [show k = f + (1 + run nn s (f + 1)) from by have:=y.out;omega];exact h⟩⟩,by simp [far,intOf];try omega⟩
   ·have N : ((s[k].toNat : Int) != 10) = true:=by rw [bne_iff_ne];exact i
    have y : Hid (Rd nn s f (k + 1)):=mE c.out.2 b (by rw [t.out];simp only [nn];exact decide_eq_true i);clear i;go_wp2
    go_step3
    exact ⟨⟨_,_,k + 1,d,cv rfl rfl rfl rfl rfl,n.out,by omega,Or.inr ⟨f,rfl,x,p.out,Or.inl ⟨rfl,c.out.1,y.out⟩⟩⟩,by simp [far,intOf];try omega⟩
  ·have y : Hid (k = f + 1 + run nn s (f + 1)):=gY c.out.2 (fun q=>absurd q b)
   go_wp2
   go_step3
   exact ⟨⟨_,_,k,d,cv rfl rfl rfl rfl rfl,n.out,A,Or.inl ⟨rfl,by have h:=jh p.out x g.out.2;rw [g.out.1] at h;rw [show k = f + (1 + run nn s (f + 1)) from by have:=y.out;omega];exact h⟩⟩,by simp [far,intOf];try omega⟩
 case p2=>
  rintro a wr ⟨v,L,k,d,⟨u,rfl⟩,z,A,r⟩;have n : Hid (pO w wr v d):=z;rcases r with ⟨h,_⟩ | ⟨f,rfl,x,o,r⟩
  ·exact absurd h (by decide)
  have p : Hid (dY s d f):=o
  have c : Hid (sl (bt s f) = true /\ Rd wb s f k):=by
   rcases r with ⟨h,_⟩ | ⟨_,H,G⟩ | ⟨h,_⟩ | ⟨h,_⟩ | ⟨h,_⟩ <;> first | exact ⟨H,G⟩ | exact absurd h (by decide)
  clear r z o;have g : Hid (aR s f = 1 + run wb s (f + 1) /\ blk s f = false):=yB c.out.1;by_cases b : k < s.size
  ·have t : Hid (bt s k = (s[k].toNat : Int)):=eA b
   cases i : wb (s[k].toNat : Int)
   ·have y : Hid (k = f + 1 + run wb s (f + 1)):=gY c.out.2 (fun _=>by rw [t.out,i])
    go_wp2_with (go_at_call 32;refine (Ct _ _).mono ?_;rintro e w' ⟨rfl,rfl⟩)
    go_step3
    exact ⟨⟨_,_,k,d,cv rfl rfl rfl rfl rfl,n.out,A,Or.inr ⟨f,rfl,x,p.out,Or.inr (Or.inr (Or.inr (Or.inr ⟨rfl,g.out.2,by rw [g.out.1];have:=y.out;omega⟩)))⟩⟩,by simp [far,intOf];try omega⟩
   ·have y : Hid (Rd wb s f (k + 1)):=mE c.out.2 b (by rw [t.out,i])
    go_wp2_with (go_at_call 32;refine (Ct _ _).mono ?_;rintro e w' ⟨rfl,rfl⟩)
    go_step3
    exact ⟨⟨_,_,k + 1,d,cv rfl rfl rfl rfl rfl,n.out,by omega,Or.inr ⟨f,rfl,x,p.out,Or.inr (Or.inl ⟨rfl,c.out.1,y.out⟩)⟩⟩,by simp [far,intOf];try omega⟩
  ·have y : Hid (k = f + 1 + run wb s (f + 1)):=gY c.out.2 (fun q=>absurd q b)
   go_wp2
   go_step3
   exact ⟨⟨_,_,k,d,cv rfl rfl rfl rfl rfl,n.out,A,Or.inr ⟨f,rfl,x,p.out,Or.inr (Or.inr (Or.inr (Or.inr ⟨rfl,g.out.2,by rw [g.out.1];have:=y.out;omega⟩)))⟩⟩,by simp [far,intOf];try omega⟩
 case p3=>
  rintro a wr ⟨v,L,k,d,⟨u,rfl⟩,z,A,r⟩;have n : Hid (pO w wr v d):=z;rcases r with ⟨h,_⟩ | ⟨f,rfl,x,o,r⟩
  ·exact absurd h (by decide)
  have p : Hid (dY s d f):=o
  have c : Hid (dg (bt s f) = true /\ Rd dg s f k):=by
   rcases r with ⟨h,_⟩ | ⟨h,_⟩ | ⟨_,H,G⟩ | ⟨h,_⟩ | ⟨h,_⟩ <;> first | exact ⟨H,G⟩ | exact absurd h (by decide)
  clear r z o;have g : Hid (aR s f = 1 + run dg s (f + 1) /\ blk s f = false):=Ax c.out.1;by_cases b : k < s.size
  ·have t : Hid (bt s k = (s[k].toNat : Int)):=eA b
   cases i : dg (s[k].toNat : Int)
   ·have y : Hid (k = f + 1 + run dg s (f + 1)):=gY c.out.2 (fun _=>by rw [t.out,i])
    go_wp2_with (go_at_call 31;refine (c19 _ _).mono ?_;rintro e w' ⟨rfl,rfl⟩)
    go_step3
    exact ⟨⟨_,_,k,d,cv rfl rfl rfl rfl rfl,n.out,A,Or.inr ⟨f,rfl,x,p.out,Or.inr (Or.inr (Or.inr (Or.inr ⟨rfl,g.out.2,by rw [g.out.1];have:=y.out;omega⟩)))⟩⟩,by simp [far,intOf];try omega⟩
   ·have y : Hid (Rd dg s f (k + 1)):=mE c.out.2 b (by rw [t.out,i])
    go_wp2_with (go_at_call 31;refine (c19 _ _).mono ?_;rintro e w' ⟨rfl,rfl⟩)
    go_step3
    exact ⟨⟨_,_,k + 1,d,cv rfl rfl rfl rfl rfl,n.out,by omega,Or.inr ⟨f,rfl,x,p.out,Or.inr (Or.inr (Or.inl ⟨rfl,c.out.1,y.out⟩))⟩⟩,by simp [far,intOf];try omega⟩
  ·have y : Hid (k = f + 1 + run dg s (f + 1)):=gY c.out.2 (fun q=>absurd q b)
   go_wp2
   go_step3
   exact ⟨⟨_,_,k,d,cv rfl rfl rfl rfl rfl,n.out,A,Or.inr ⟨f,rfl,x,p.out,Or.inr (Or.inr (Or.inr (Or.inr ⟨rfl,g.out.2,by rw [g.out.1];have:=y.out;omega⟩)))⟩⟩,by simp [far,intOf];try omega⟩
 case p4=>
  rintro a wr ⟨v,L,k,d,⟨u,rfl⟩,z,A,r⟩;have n : Hid (pO w wr v d):=z;rcases r with ⟨h,_⟩ | ⟨f,rfl,x,o,r⟩
  ·exact absurd h (by decide)
  have p : Hid (dY s d f):=o
  have c : Hid (bt s f = 45 /\ k = f + 1):=by
   rcases r with ⟨h,_⟩ | ⟨h,_⟩ | ⟨h,_⟩ | ⟨_,H,G⟩ | ⟨h,_⟩ <;> first | exact ⟨H,G⟩ | exact absurd h (by decide)
  clear r z o;have g : Hid (aR s f = (if bt s (f + 1) = 62 then 2 else 1) /\ blk s f = false):=tV c.out.1;have F : Hid (k = f + 1):=c.out.2;by_cases b : k < s.size
  ·have t : Hid (bt s (f + 1) = (s[k].toNat : Int)):=by show _ = _;rw [<- F.out];exact eA b
   by_cases i : (s[k].toNat : Int) = 62
   ·have N : ((s[k].toNat : Int) == 62) = true:=beq_iff_eq.2 i
    have O : Hid (aR s f = 2):=by show _ = _;rw [g.out.1,t.out,if_pos i]
    clear i;go_wp2
    go_step3
    exact ⟨⟨_,_,k + 1,d,cv rfl rfl rfl rfl rfl,n.out,by omega,Or.inr ⟨f,rfl,x,p.out,Or.inr (Or.inr (Or.inr (Or.inr ⟨rfl,g.out.2,by rw [O.out];have:=F.out;omega⟩)))⟩⟩,by simp [far,intOf];try omega⟩
   ·have N : ((s[k].toNat : Int) == 62) = false:=bn2 i
    have O : Hid (aR s f = 1):=by show _ = _;rw [g.out.1,t.out,if_neg i]
    clear i;go_wp2
    go_step3
    exact ⟨⟨_,_,k,d,cv rfl rfl rfl rfl rfl,n.out,A,Or.inr ⟨f,rfl,x,p.out,Or.inr (Or.inr (Or.inr (Or.inr ⟨rfl,g.out.2,by rw [O.out];have:=F.out;omega⟩)))⟩⟩,by simp [far,intOf];try omega⟩
  ·have O : Hid (aR s f = 1):=by
    show _ = _;rw [g.out.1,mJ (by have:=F.out;omega),if_neg (by decide)]
   go_wp2
   go_step3
   exact ⟨⟨_,_,k,d,cv rfl rfl rfl rfl rfl,n.out,A,Or.inr ⟨f,rfl,x,p.out,Or.inr (Or.inr (Or.inr (Or.inr ⟨rfl,g.out.2,by rw [O.out];have:=F.out;omega⟩)))⟩⟩,by simp [far,intOf];try omega⟩
 case p5=>
  rintro a wr ⟨v,L,k,d,⟨u,rfl⟩,z,A,r⟩;have n : Hid (pO w wr v d):=z;rcases r with ⟨h,_⟩ | ⟨f,rfl,x,o,r⟩
  ·exact absurd h (by decide)
  have p : Hid (dY s d f):=o
  have c : Hid (blk s f = false /\ k = f + aR s f):=by
   rcases r with ⟨h,_⟩ | ⟨h,_⟩ | ⟨h,_⟩ | ⟨h,_⟩ | ⟨_,H,G⟩ <;> first | exact ⟨H,G⟩ | exact absurd h (by decide)
  clear r z o;have F : Hid (k = f + aR s f):=c.out.2;have HF : Hid (blk s f = false):=c.out.1;obtain ⟨oa,M,rfl⟩:=ad n.out.own;obtain ⟨i0,a1,a0,ao,V⟩:=info_parts Tryz.info45;have bL:=vL p.out;have b3 : f <= k:=by have:=F.out;omega
  have U : Hid (s.extract f k = gC s f):=by show _ = _;unfold gC;rw [F.out]
  have hz : (gC s f).size = aR s f:=eZ x;have ah:=dU s f;have R:=iO x
  have HN : Hid (dY s (d ++ [⟨cls (gC s f).toList,gC s f,f⟩]) k):=by
   have:=vU p.out x HF.out;rw [<- F.out] at this;exact this
  clear c;go_wp2_with fail;rw [U.out];refine (Dq (gC s f) f m _ (by omega) (by omega) (HM.out _ n.out.below) (th x HF.out (by omega))).mono ?_;rintro e J ⟨rfl,K⟩;have S:=tu n.out K;have bn : w.heap.size <= J.heap.size:=S.below.size;obtain ⟨tk,C⟩ : ∃ tk : TK,tk = ⟨cls (gC s f).toList,gC s f,f⟩:=⟨_,rfl⟩;have e1 : cls (gC s f).toList = tk.cls:=by rw [C]
  have e2 : gC s f = tk.txt:=by rw [C]
  have e3 : f = tk.loc:=by rw [C]
  rw [<- C] at HN;rw [e1,e2];have E3:=hQx e3;clear hz ah R K e1 e2 e3 C U;have Y:=S.own;have ab : Hid (pO w J (.slice oa d.length M) d):=S;clear S n;have HZ : Hid ((f : Int) = (tk.loc : Int)):=by show _ = _;rw [E3.out]
  have Q : ∀ W : World,∀ T : TypeId,∀ j u,[Value.int .i64 tk.cls,.string tk.txt,.int .i64 (f : Int)][j]? = some u -> (W.alloc (.cells #[Value.int .i64 tk.cls,.string tk.txt,.int .i64 (f : Int)] T)).cell? ((⟨W.heap.size,0,none⟩ : Addr).add j) = some u:=fun W T=>oA W _ _ _ T
  have P : ∀ u ∈ [Value.int .i64 tk.cls,.string tk.txt,.int .i64 (f : Int)],u.oneCell' = true:=by
   have:=Ar tk;rw [<- HZ.out] at this;exact this
  go_wp2_with (first | (at_builtin;refine wpList_append_lies _ rfl _ _ 41 rfl w.heap.size 45 i0 _ 3 32 Tryz.underlying41 a1 a0 ao V rfl (by omega) (.slice oa d.length M) d.length (jE d) rfl (Y.alloc _) ⟨J.heap.size,0,none⟩ 1 1 [.int .i64 tk.cls,.string tk.txt,.int .i64 (f : Int)] rfl rfl (Q _ _) P (by omega) (by unfold maxLen;omega) (by omega) (by simp;omega) (J.heap.size + 1) (by simp) ?_;intro gg a3 w3 B Z bx a7))
  go_step3
  rw [HZ.out] at B;have X:=tQ (wr:=J) ab.out (Below.refl _ _) B Z;exact ⟨⟨_,_,k,d ++ [tk],cv rfl rfl rfl rfl rfl,X,A,Or.inl ⟨rfl,HN.out⟩⟩,by simp [far,intOf]⟩
end Go.Proofs.YtihedobejcaapaaGreatDoor
