/-
  KnownStr Start
-/
import Derived.Test.YtpbpbppimkeodaaGreatDoorSb
import Derived.StringKeys
import Derived.Test.YtpbpbppimkeodaaGreatDoorSj
set_option maxRecDepth 100000
namespace Go.Proofs.YtpbpbppimkeodaaGreatDoor
open Go.RowKit Go.Maps
theorem Tryz.law9 : Keyed Tryz.prog 9:=string_keyed Tryz.underlying9
theorem key_str {a : List UInt8} (ha : a.length <= maxLen) : keyOf Tryz.prog 9 (.string ⟨a.toArray⟩) = some (.string a):=by
 have:=WideMaps.keyOf_string_mk (s:=⟨a.toArray⟩) Tryz.underlying9 (by show a.length <= maxLen;exact ha)
 simpa using this
def addS (ord : List (List UInt8)) (a : List UInt8) : List (List UInt8):=if ord.contains a then ord else ord ++ [a]
def scells (ord : List (List UInt8)) : List Value:=ord.map fun a=>.string ⟨a.toArray⟩
structure KnS (w : World) (kb mb : Nat) (ov : Value) (D : DataW Unit) (ord : List (List UInt8)) (keep : Nat -> Prop) : Prop where
 row : w.rowIs kb 162 2 (v2 (.map (some mb)) ov)
 mlt : mb < kb
 map : w.ownsMap Tryz.prog 9 (plainElem Tryz.prog 3) mb ord.length D
 has : ∀ a : List UInt8,a.length <= maxLen -> Maps.has D (.string a) = ord.contains a
 val : ∀ a : List UInt8,a.length <= maxLen -> a ∈ ord -> D.atKey (.string a) (.lit (.int .i64 0)) = .lit (.int .i64 (ord.idxOf a : Int))
 own : w.ownsRow (kb + 1) 9 1 ov ord.length (scells ord)
 far : ∀ k,keep k -> k < w.heap.size /\ k ≠ kb /\ k ≠ mb /\ some k ≠ ov.ownBlock
set_option maxHeartbeats 1000000 in
theorem c91 (w : World) (keep : Nat -> Prop) (hk : ∀ k,keep k -> k < w.heap.size) :
  Calls Tryz.prog 98 #[] w fun e w'=>e = .returned (.pointer (some ⟨w.heap.size + 1,0,none⟩)) /\ KnS w' (w.heap.size + 1) w.heap.size (.slice none 0 0) (.map []) [] keep /\ Kept keep w w':=by
 have hmm:=@run_makeMap Tryz.prog
 go_enter Tryz.func98,Tryz.ntmps98
 go_wp2
 go_ret
 have R:=row2 (w.alloc (.map #[] 0)) (.map (some w.heap.size)) (.slice none 0 0) 162
 simp only [World.size_alloc] at R
 refine ⟨rfl,⟨R,by omega,(World.ownsMap_made w Tryz.prog 9 (plainElem Tryz.prog 3)).alloc _,fun a _=>rfl,fun a _ h=>by simp at h,World.ownsRow_nil _ _ _ _,fun k h=>?_⟩,?_⟩
 ·have:=hk k h
  exact ⟨by simp;omega,by omega,by omega,by simp [Value.ownBlock]⟩
 ·have:=bel2 w (.map #[] 0) (.cells #[.map (some w.heap.size),.slice none 0 0] 162)
  exact ⟨this.os,this.tape,this.output,this.size,fun k h=>this.block k (hk k h)⟩
theorem look_str {w : World} {mb n : Nat} {D : DataW Unit} {a : List UInt8} (h : w.ownsMap Tryz.prog 9 (plainElem Tryz.prog 3) mb n D) (ha : a.length <= maxLen) :
  ∃ v : Int,(∀ m,(Instr.lookup 160 (.map (some mb)) (.string ⟨a.toArray⟩) true).run Tryz.prog (w.drewN m) = .ok (.tuple #[.int .i64 v,.bool (Maps.has D (.string a))]) (w.drewN m)) /\ D.atKey (.string a) (.lit (.int .i64 0)) = .lit (.int .i64 v):=by
 have hz : plainElem (H:=Unit) Tryz.prog 3 (.int .i64 0) = some (.lit (.int .i64 0),[]):=plainElem_int Tryz.underlying3 (by decide)
 have each : ∀ m,∃ v : Int,(Instr.lookup 160 (.map (some mb)) (.string ⟨a.toArray⟩) true).run Tryz.prog (w.drewN m) = .ok (.tuple #[.int .i64 v,.bool (Maps.has D (.string a))]) (w.drewN m) /\ D.atKey (.string a) (.lit (.int .i64 0)) = .lit (.int .i64 v):=fun m=>by
  have h' : (w.drewN m).ownsMap Tryz.prog 9 (plainElem Tryz.prog 3) mb n D:=h
  obtain ⟨v,ps,hrun,hR⟩:=h'.look_ok Tryz.law9 Tryz.underlying160 (Tryz.zero3 _) hz (key_str ha)
  obtain ⟨x,rfl,hx,_⟩:=plainElem_int_inv Tryz.underlying3 hR
  simp only [Prod.mk.injEq] at hx
  exact ⟨x,hrun,hx.1⟩
 obtain ⟨v,_,hv⟩:=each 0
 refine ⟨v,fun m=>?_,hv⟩
 obtain ⟨v',hrun,hv'⟩:=each m
 rw [hv] at hv'
 simp only [DataW.lit.injEq,Lit.int.injEq,true_and] at hv'
 rw [hv'];exact hrun
theorem scells_snoc (ord : List (List UInt8)) (a : List UInt8) : scells (ord ++ [a]) = scells ord ++ [.string ⟨a.toArray⟩]:=by simp [scells]
theorem kns_step {w w2 w3 : World} {kb mb : Nat} {oa : Option Addr} {cap gg cap3 : Nat} {D : DataW Unit} {ord : List (List UInt8)} {keep : Nat -> Prop} {a : List UInt8} {o2 : Obj}
  (h : KnS w kb mb (.slice oa ord.length cap) D ord keep) (ha : a.length <= maxLen) (hc : ord.contains a = false)
  (hown2 : w2.ownsMap Tryz.prog 9 (plainElem Tryz.prog 3) mb (ord.length + 1) (D.put (.string a) (.lit (.int .i64 (ord.length : Int))))) (hg2 : w.grownBy w2 (some mb))
  (hown3 : w3.ownsRow (kb + 1) 9 1 (.slice (some ⟨gg,0,none⟩) (ord.length + 1) cap3) (ord.length + 1) (scells ord ++ [.string ⟨a.toArray⟩]))
  (hg3 : (w2.alloc o2).grownBy w3 (Value.slice oa ord.length cap).ownBlock) (hat : (Value.slice oa ord.length cap).ownBlock = some gg \/ gg = w2.heap.size + 1) :
  KnS (w3.setCell ⟨kb,1,none⟩ (.slice (some ⟨gg,0,none⟩) (ord.length + 1) cap3)) kb mb (.slice (some ⟨gg,0,none⟩) (ord.length + 1) cap3) (D.put (.string a) (.lit (.int .i64 (ord.length : Int)))) (addS ord a) keep /\
  Kept keep w (w3.setCell ⟨kb,1,none⟩ (.slice (some ⟨gg,0,none⟩) (ord.length + 1) cap3)):=by
 have hA : addS ord a = ord ++ [a]:=by unfold addS;rw [hc];rfl
 have hna : a ∉ ord:=fun hm=>by rw [List.contains_iff_mem.2 hm] at hc;cases hc
 have hs2:=hg2.size
 have hs3:=hg3.size
 have e3 : (w2.alloc o2).heap.size = w2.heap.size + 1:=by simp
 have hkl:=h.row.lt
 have hml:=h.mlt
 have n1 : some kb ≠ (Value.slice oa ord.length cap).ownBlock:=fun e=>by have:=(h.own.lt kb e.symm).1;omega
 have nm : some mb ≠ (Value.slice oa ord.length cap).ownBlock:=fun e=>by have:=(h.own.lt mb e.symm).1;omega
 have b3 : ∀ k,k < w2.heap.size -> some k ≠ (Value.slice oa ord.length cap).ownBlock -> w3.heap[k]? = w2.heap[k]?:=fun k hk hn=>(hg3.block k (by rw [e3];omega) hn).trans (Below.heap_alloc _ _ _ hk)
 have rk : w3.rowIs kb 162 2 (v2 (.map (some mb)) (.slice oa ord.length cap)):=
  h.row.of_block ((b3 kb (by omega) n1).trans (hg2.block kb (by omega) (fun e=>by cases e;omega)))
 have hne : ∀ x : List UInt8,x ≠ a -> (Lit.string x) ≠ Lit.string a:=fun x q e=>q (by simpa using e)
 rw [hA]
 refine ⟨⟨(rk.set 1 _).congr (fun i hi=>?_),h.mlt,?_,fun x hx=>?_,fun x hx hm=>?_,?_,fun k hk=>?_⟩,?_⟩
 ·match i,hi with
  | 0,_=>rfl
  | 1,_=>rfl
 ·have hm : w3.ownsMap Tryz.prog 9 (plainElem Tryz.prog 3) mb (ord.length + 1) (D.put (.string a) (.lit (.int .i64 (ord.length : Int)))):=(hown2.alloc o2).kept hg3 nm
  have hm':=hm.setCell (a:=⟨kb,1,none⟩) (by show mb ≠ kb;omega) (.slice (some ⟨gg,0,none⟩) (ord.length + 1) cap3)
  simpa using hm'
 ·by_cases q : x = a
  ·subst q
   rw [Maps.has_put_same h.map.isMap (Tryz.law9.key (key_str hx))]
   simp
  ·rw [Maps.has_put_other (hne x q),h.has x hx]
   rw [Bool.eq_iff_iff]
   simp only [List.contains_iff_mem,List.mem_append,List.mem_singleton]
   exact ⟨Or.inl,fun z=>z.elim id (fun z=>absurd z q)⟩
 ·by_cases q : x = a
  ·subst q
   rw [Maps.atKey_put_same h.map.isMap (Tryz.law9.key (key_str hx)),List.idxOf_append,if_neg hna]
   simp
  ·rw [Maps.atKey_put_other (hne x q)]
   have hm' : x ∈ ord:=by
    rcases List.mem_append.1 hm with z | z
    ·exact z
    ·simp at z;exact absurd z q
   rw [h.val x hx hm',List.idxOf_append,if_pos hm']
 ·rw [scells_snoc]
  have:=ownsRow_setCell_below hown3 (a:=⟨kb,1,none⟩) (by show kb < kb + 1;omega) (.slice (some ⟨gg,0,none⟩) (ord.length + 1) cap3)
  simpa using this
 ·obtain ⟨f1,f2,f3,f4⟩:=h.far k hk
  refine ⟨by simp [World.setCell];omega,f2,f3,?_⟩
  rcases hat with hat | hat
  ·rw [hat] at f4;simpa [Value.ownBlock] using f4
  ·simp [Value.ownBlock];omega
 ·refine ⟨hg3.os.trans hg2.os,hg3.tape.trans hg2.tape,hg3.output.trans hg2.output,by simp [World.setCell];omega,fun k hk=>?_⟩
  obtain ⟨f1,f2,f3,f4⟩:=h.far k hk
  rw [Below.heap_setCell _ _ _ _ (by show k ≠ kb;exact f2),b3 k (by omega) f4,hg2.block k f1 (fun e=>by cases e;exact f3 rfl)]
set_option maxHeartbeats 4000000 in
theorem c92 (kb mb : Nat) (ov : Value) (D : DataW Unit) (ord : List (List UInt8)) (keep : Nat -> Prop) (a : List UInt8) (w : World) (h : KnS w kb mb ov D ord keep) (ha : a.length <= maxLen) (ho : ord.length <= 100000000) :
  Calls Tryz.prog 99 #[.pointer (some ⟨kb,0,none⟩),.string ⟨a.toArray⟩] w fun e w'=>
   ∃ (ov' : Value) (D' : DataW Unit),e = .returned (.tuple #[.int .i64 ((addS ord a).idxOf a : Int),.bool (!ord.contains a)]) /\ KnS w' kb mb ov' D' (addS ord a) keep /\ Kept keep w w':=by
 obtain ⟨v,hlk,hat0⟩:=look_str h.map ha
 rw [h.has a ha] at hlk
 have hlk0:=hlk 0
 rw [World.drewN_zero] at hlk0
 obtain ⟨oa,cap,rfl⟩:=own_form h.own
 have c0 : w.cell? ⟨kb,0,none⟩ = some (.map (some mb)):=h.row.cell (i:=0) (by omega)
 have c1 : w.cell? ⟨kb,1,none⟩ = some (.slice oa ord.length cap):=h.row.cell (i:=1) (by omega)
 have HH : Hid (KnS w kb mb (.slice oa ord.length cap) D ord keep):=h
 have hkl:=h.row.lt
 clear hlk
 cases hcon : ord.contains a
 ·have HC : Hid (ord.contains a = false):=hcon
  have HX : Hid ((addS ord a).idxOf a = ord.length):=by
   have hna : a ∉ ord:=fun hm=>by rw [List.contains_iff_mem.2 hm] at hcon;cases hcon
   show (addS ord a).idxOf a = ord.length
   unfold addS;rw [hcon]
   simp [List.idxOf_append,hna]
  rw [hcon] at hlk0
  obtain ⟨i0,hi0,hz0,hz1,hz2⟩:=info_parts Tryz.info9
  obtain ⟨w2,hrun,hown2,hg2⟩:=h.map.update Tryz.law9 Tryz.underlying160 (by unfold maxLen;omega) (key_str ha) (plainElem_int Tryz.underlying3 (a:=(ord.length : Int)) (WalkArith.wf_i64 (by omega)))
  have hml:=h.mlt
  have hs2:=hg2.size
  have OWN : w2.ownsRow (kb + 1) 9 1 (.slice oa ord.length cap) ord.length (scells ord):=own_kept h.own hg2 (fun k e=>by cases e;omega)
  have r2 : w2.rowIs kb 162 2 (v2 (.map (some mb)) (.slice oa ord.length cap)):=h.row.of_block (hg2.block kb hkl (fun e=>by cases e;omega))
  have d1 : w2.cell? ⟨kb,1,none⟩ = some (.slice oa ord.length cap):=r2.cell (i:=1) (by omega)
  have n1 : some kb ≠ (Value.slice oa ord.length cap).ownBlock:=fun e=>by have:=(h.own.lt kb e.symm).1;omega
  have d1':=(r2.alloc (.cells #[.string ⟨a.toArray⟩] 9)).cell (i:=1) (by omega)
  have d2':=(r2.alloc (.cells #[.string ⟨a.toArray⟩] 9)).frozen 1
  have hbs : kb + 1 <= w2.heap.size:=by omega
  clear hcon h hat0
  go_enter Tryz.func99,Tryz.ntmps99
  go_wp2_with (first | (at_builtin;refine wpList_append_lies _ rfl _ _ 46 rfl (kb + 1) 9 i0 (.string ByteArray.empty) 1 16 Tryz.underlying46 hi0 hz0 hz1 hz2 rfl (by omega) (.slice oa ord.length cap) ord.length (scells ord) rfl (OWN.alloc _) ⟨w2.heap.size,0,none⟩ 1 1 [.string ⟨a.toArray⟩] rfl rfl (cell_one_new _ _ _) (by simp [Value.oneCell']) (by omega) (by unfold maxLen;omega) (by omega) (by simp;omega) (w2.heap.size + 1) (by simp) ?_;intro gg cap3 w3 hown3 hg3 hat hlt3;have f1 : w3.cell? ⟨kb,1,none⟩ = some (.slice oa ord.length cap):=(hg3.cell_far ⟨kb,1,none⟩ (by simp;omega) n1).trans d1';have f2 : w3.frozen? ⟨kb,1,none⟩ = false:=(hg3.frozen_far ⟨kb,1,none⟩ (by simp;omega) n1).trans d2'))
  have FIN:=kns_step HH.out ha HC.out hown2 hg2 hown3 hg3 hat
  clear hown2 hg2 hown3 hg3 hat OWN r2 d1 d1' d2' hrun hlk0
  go_wp2
  go_ret2
  refine ⟨_,_,?_,FIN.1,FIN.2⟩
  rw [HX.out];rfl
 ·have hm : a ∈ ord:=by simpa using hcon
  have HA : Hid (addS ord a = ord):=by show (if ord.contains a then ord else _) = ord;rw [if_pos hcon]
  have HX : Hid (v = (ord.idxOf a : Int)):=by
   have:=HH.out.val a ha hm
   rw [hat0] at this
   show v = (ord.idxOf a : Int)
   simpa using this
  rw [hcon] at hlk0
  clear hcon h hat0 hm
  go_enter Tryz.func99,Tryz.ntmps99
  go_wp2
  go_ret2
  refine ⟨.slice oa ord.length cap,D,?_,?_,Kept.refl _ _⟩
  ·rw [HA.out,<- HX.out];rfl
  ·rw [HA.out];exact HH.out
theorem inter2 (sep a b : List UInt8) (t : List (List UInt8)) : sep.intercalate (a :: b :: t) = a ++ sep ++ sep.intercalate (b :: t):=by
 simp [List.intercalate]
theorem inter1 (sep a : List UInt8) : sep.intercalate [a] = a:=by simp [List.intercalate]
theorem inter0 (sep : List UInt8) : sep.intercalate [] = []:=by simp [List.intercalate]
theorem cut32 : ∀ {a b u v : List UInt8},(32 : UInt8) ∉ a -> (32 : UInt8) ∉ b -> a ++ 32 :: u = b ++ 32 :: v -> a = b /\ u = v
 | [],[],u,v,_,_,e=>⟨rfl,by simpa using e⟩
 | [],y :: b,u,v,_,hb,e=>by
   simp only [List.nil_append,List.cons_append,List.cons.injEq] at e
   exact absurd (by rw [<- e.1];simp) hb
 | x :: a,[],u,v,ha,_,e=>by
   simp only [List.nil_append,List.cons_append,List.cons.injEq] at e
   exact absurd (by rw [e.1];simp) ha
 | x :: a,y :: b,u,v,ha,hb,e=>by
   simp only [List.cons_append,List.cons.injEq] at e
   obtain ⟨h1,h2⟩:=cut32 (fun c=>ha (List.mem_cons_of_mem _ c)) (fun c=>hb (List.mem_cons_of_mem _ c)) e.2
   exact ⟨by rw [e.1,h1],h2⟩
theorem join_inj : ∀ (l1 l2 : List (List UInt8)),(∀ a,a ∈ l1 -> (32 : UInt8) ∉ a /\ a ≠ []) -> (∀ a,a ∈ l2 -> (32 : UInt8) ∉ a /\ a ≠ []) -> ([32] : List UInt8).intercalate l1 = ([32] : List UInt8).intercalate l2 -> l1 = l2
 | [],[],_,_,_=>rfl
 | [],[b],_,h2,e=>by
   rw [inter0,inter1] at e
   exact absurd e.symm (h2 b (by simp)).2
 | [],b :: c :: t,_,_,e=>by
   rw [inter0,inter2] at e
   simp at e
 | [a],[],h1,_,e=>by
   rw [inter0,inter1] at e
   exact absurd e (h1 a (by simp)).2
 | a :: c :: t,[],_,_,e=>by
   rw [inter0,inter2] at e
   simp at e
 | [a],[b],_,_,e=>by rw [inter1,inter1] at e;rw [e]
 | [a],b :: c :: t,h1,_,e=>by
   rw [inter1,inter2] at e
   exact absurd (by rw [e];simp) (h1 a (by simp)).1
 | a :: c :: t,[b],_,h2,e=>by
   rw [inter1,inter2] at e
   exact absurd (by rw [<- e];simp) (h2 b (by simp)).1
 | a :: c :: t,b :: d :: u,h1,h2,e=>by
   rw [inter2,inter2] at e
   simp only [List.append_assoc,List.singleton_append] at e
   obtain ⟨e1,e2⟩:=cut32 (h1 a (by simp)).1 (h2 b (by simp)).1 e
   have:=join_inj (c :: t) (d :: u) (fun x hx=>h1 x (List.mem_cons_of_mem _ hx)) (fun x hx=>h2 x (List.mem_cons_of_mem _ hx)) e2
   rw [e1,this]
def nmsOf (d : ND) : List (List UInt8):=(List.range d.nn).map fun i=>(d.nm i).data.toList
def lookOf (d : ND) : List UInt8:=Lib.decDigits d.kind.toNat ++ [32] ++ Lib.join (nmsOf d) [32]
structure Plain (d : ND) : Prop where
 kind : 0 <= d.kind /\ d.kind < 10
 names : ∀ i,i < d.nn -> (32 : UInt8) ∉ (d.nm i).data.toList /\ (d.nm i).data.toList ≠ []
 kids : d.nk = if d.kind = 3 then d.nn else if d.kind = 4 then 2 else 0
 bare : d.kind ≠ 3 -> d.nn = 0
theorem dig_one {k : Nat} (h : k < 10) : Lib.decDigits k = [UInt8.ofNat (48 + k)]:=by
 rw [Lib.decDigits];simp [h]
theorem look_iff {x y : ND} (hx : Plain x) (hy : Plain y) : lookOf x = lookOf y ↔ Lab x y:=by
 constructor
 ·intro e
  unfold lookOf at e
  obtain ⟨kx0,kx1⟩:=hx.kind
  obtain ⟨ky0,ky1⟩:=hy.kind
  rw [dig_one (by omega),dig_one (by omega)] at e
  simp only [List.cons_append,List.nil_append,List.cons.injEq,true_and] at e
  obtain ⟨e1,e2⟩:=e
  have hk : x.kind = y.kind:=by
   have:=congrArg UInt8.toNat e1
   simp only [UInt8.toNat_ofNat'] at this
   omega
  have hn : nmsOf x = nmsOf y:=join_inj _ _ (fun a ha=>by
    obtain ⟨i,hi,rfl⟩:=List.mem_map.1 ha
    exact hx.names i (List.mem_range.1 hi)) (fun a ha=>by
    obtain ⟨i,hi,rfl⟩:=List.mem_map.1 ha
    exact hy.names i (List.mem_range.1 hi)) e2
  have hl : x.nn = y.nn:=by
   have:=congrArg List.length hn
   simpa [nmsOf] using this
  refine ⟨hk,hl,fun j hj=>?_,by rw [hx.kids,hy.kids,hk,hl]⟩
  have:=congrArg (fun l=>l[j]?) hn
  simp only [nmsOf,List.getElem?_map,List.getElem?_range hj,List.getElem?_range (show j < y.nn by omega),Option.map_some,Option.some.injEq] at this
  exact Go.WideShapes.bytes_inj this
 ·intro h
  have hn : nmsOf x = nmsOf y:=by
   unfold nmsOf
   rw [<- h.nn]
   exact List.map_congr_left (fun i hi=>by rw [h.nm i (List.mem_range.1 hi)])
  unfold lookOf
  rw [h.kind,hn]
def ords (G : Nat -> ND) : Nat -> List (List UInt8)
 | 0=>[]
 | i + 1=>addS (ords G i) (lookOf (G i))
theorem ords_mem {G : Nat -> ND} : ∀ {i x : Nat},x < i -> lookOf (G x) ∈ ords G i
 | i + 1,x,h=>by
   unfold ords addS
   by_cases e : x = i
   ·subst e
    by_cases c : (ords G x).contains (lookOf (G x)) = true
    ·rw [if_pos c];exact List.contains_iff_mem.1 c
    ·rw [if_neg c];simp
   ·have:=ords_mem (G:=G) (i:=i) (x:=x) (by omega)
    split
    ·exact this
    ·exact List.mem_append.2 (Or.inl this)
theorem ords_len {G : Nat -> ND} : ∀ i,(ords G i).length <= i
 | 0=>Nat.le_refl _
 | i + 1=>by
   have:=ords_len (G:=G) i
   unfold ords addS
   split
   ·omega
   ·simp;omega
theorem ords_idx {G : Nat -> ND} {i x : Nat} (hx : x < i) : (ords G (i + 1)).idxOf (lookOf (G x)) = (ords G i).idxOf (lookOf (G x)):=by
 have:=ords_mem (G:=G) hx
 show (addS (ords G i) (lookOf (G i))).idxOf (lookOf (G x)) = _
 unfold addS
 split
 ·rfl
 ·rw [List.idxOf_append,if_pos this]
structure St (G : Nat -> ND) (i : Nat) (s : PS) : Prop where
 wf : Wf i s
 full : Full i s
 wq : Wq s
 nr : s.nr = (ords G i).length
 of_ : ∀ x,x < i -> s.of x = (ords G i).idxOf (lookOf (G x))
 waits : ∀ q,q < s.nr -> s.waits q = true
 rows : ∀ q,q < s.nr -> (s.rows q).length <= i
theorem put_wf {i : Nat} {s : PS} (h : Wf i s) {part : Nat} (hp : part < s.nr) : Wf (i + 1) (putS s i part):=by
 have O : ∀ y,(putS s i part).of y = if y = i then part else s.of y:=fun y=>rfl
 have Lc : ∀ y,(putS s i part).loc y = if y = i then (s.rows part).length else s.loc y:=fun y=>rfl
 have R : ∀ q,(putS s i part).rows q = if q = part then s.rows part ++ [i] else s.rows q:=fun q=>rfl
 refine ⟨fun y hy=>?_,fun y hy=>?_,fun q k y hq hk=>?_⟩
 ·show (putS s i part).of y < s.nr
  rw [O]
  by_cases e : y = i
  ·rw [if_pos e];exact hp
  ·rw [if_neg e];exact h.lt y (by omega)
 ·rw [O,Lc,R]
  by_cases e : y = i
  ·rw [if_pos e,if_pos e,if_pos rfl,e];simp
  ·rw [if_neg e,if_neg e]
   have h0:=h.here y (by omega)
   by_cases e2 : s.of y = part
   ·rw [if_pos e2]
    rw [e2] at h0
    rw [List.getElem?_append_left ((List.getElem?_eq_some_iff.1 h0).1)]
    exact h0
   ·rw [if_neg e2];exact h0
 ·rw [R] at hk
  rw [O,Lc]
  by_cases e : q = part
  ·rw [if_pos e] at hk
   by_cases c : k < (s.rows part).length
   ·rw [List.getElem?_append_left c] at hk
    obtain ⟨r1,r2,r3⟩:=h.row part k y hp hk
    rw [if_neg (by omega),if_neg (by omega)]
    exact ⟨by omega,by rw [r2,e],r3⟩
   ·rw [List.getElem?_append_right (by omega)] at hk
    have ek : k = (s.rows part).length:=by
     have:=(List.getElem?_eq_some_iff.1 hk).1
     simp at this;omega
    subst ek
    simp at hk
    subst hk
    rw [if_pos rfl,if_pos rfl]
    exact ⟨by omega,e.symm,rfl⟩
  ·rw [if_neg e] at hk
   obtain ⟨r1,r2,r3⟩:=h.row q k y hq hk
   rw [if_neg (by omega),if_neg (by omega)]
   exact ⟨by omega,r2,r3⟩
theorem st_start (G : Nat -> ND) (s : PS) (h : s.nr = 0) (hw : s.waiting = []) : St G 0 s:=
 ⟨⟨fun x hx=>absurd hx (Nat.not_lt_zero _),fun x hx=>absurd hx (Nat.not_lt_zero _),fun q i x hq=>by omega⟩,fun q hq=>by omega,⟨fun q hq=>(by rw [hw] at hq;cases hq),fun q hq=>(by omega),(by rw [hw];exact List.nodup_nil)⟩,h,fun x hx=>absurd hx (Nat.not_lt_zero _),fun q hq=>by omega,fun q hq=>by omega⟩
theorem st_old {G : Nat -> ND} {i : Nat} {s : PS} (h : St G i s) (hc : (ords G i).contains (lookOf (G i)) = true) : St G (i + 1) (putS s i ((ords G (i + 1)).idxOf (lookOf (G i)))) /\ (ords G (i + 1)).idxOf (lookOf (G i)) < s.nr:=by
 have e : ords G (i + 1) = ords G i:=by show addS _ _ = _;unfold addS;rw [if_pos hc]
 rw [e]
 have hm : lookOf (G i) ∈ ords G i:=List.contains_iff_mem.1 hc
 have hp : (ords G i).idxOf (lookOf (G i)) < s.nr:=by rw [h.nr];exact List.idxOf_lt_length_of_mem hm
 refine ⟨⟨put_wf h.wf hp,fun q hq=>?_,⟨h.wq.lt,h.wq.iff,h.wq.nodup⟩,by rw [e];exact h.nr,fun x hx=>?_,h.waits,fun q hq=>?_⟩,hp⟩
 ·obtain ⟨x,hx,ex⟩:=h.full q hq
  exact ⟨x,by omega,by show (if x = i then _ else s.of x) = q;rw [if_neg (by omega)];exact ex⟩
 ·show (if x = i then _ else s.of x) = _
  rw [e]
  by_cases c : x = i
  ·rw [if_pos c,c]
  ·rw [if_neg c];exact h.of_ x (by omega)
 ·show (if q = (ords G i).idxOf (lookOf (G i)) then s.rows ((ords G i).idxOf (lookOf (G i))) ++ [i] else s.rows q).length <= i + 1
  split
  ·have:=h.rows _ hp
   simp;omega
  ·have:=h.rows q hq
   omega
theorem st_new {G : Nat -> ND} {i : Nat} {s : PS} (h : St G i s) (hc : (ords G i).contains (lookOf (G i)) = false) : (ords G (i + 1)).idxOf (lookOf (G i)) = s.nr /\ St G (i + 1) (putS (waitS (addS' s) s.nr) i s.nr):=by
 have hna : lookOf (G i) ∉ ords G i:=fun hm=>by rw [List.contains_iff_mem.2 hm] at hc;cases hc
 have e : ords G (i + 1) = ords G i ++ [lookOf (G i)]:=by show addS _ _ = _;unfold addS;rw [hc];rfl
 have ei : (ords G (i + 1)).idxOf (lookOf (G i)) = s.nr:=by rw [e,List.idxOf_append,if_neg hna,h.nr];simp
 have hw : (addS' s).waits s.nr = false:=upd_same _ _ _
 have eW : waitS (addS' s) s.nr = { addS' s with waits:=upd (addS' s).waits s.nr true,waiting:=s.waiting ++ [s.nr] }:=by unfold waitS;rw [if_neg (by rw [hw];exact Bool.false_ne_true)];rfl
 have wq1 : Wq (addS' s):=⟨fun q hq=>Nat.lt_succ_of_lt (h.wq.lt q hq),fun q hq=>by
   show upd s.waits s.nr false q = true ↔ q ∈ s.waiting
   have hq' : q < s.nr + 1:=hq
   by_cases c : q = s.nr
   ·subst c
    rw [upd_same]
    exact ⟨fun z=>(by cases z),fun z=>absurd (h.wq.lt _ z) (Nat.lt_irrefl _)⟩
   ·rw [upd_other _ _ c];exact h.wq.iff q (by omega),h.wq.nodup⟩
 have wf1 : Wf i (waitS (addS' s) s.nr):=by
  have:=wait_wf (add_wf h.wf) [(s.nr,s.nr)]
  have ew : waitAll (addS' s) [(s.nr,s.nr)] = waitS (addS' s) s.nr:=by
   show waitOne (addS' s) (s.nr,s.nr) = _
   unfold waitOne;split <;> rfl
  rw [ew] at this;exact this
 have n1 : (waitS (addS' s) s.nr).nr = s.nr + 1:=(waitS_same _ _).2.2.1
 have o1 : (waitS (addS' s) s.nr).of = s.of:=(waitS_same _ _).1
 have r1 : (waitS (addS' s) s.nr).rows = upd s.rows s.nr []:=(waitS_same _ _).2.1
 refine ⟨ei,⟨put_wf wf1 (by rw [n1];omega),fun q hq=>?_,?_,?_,fun x hx=>?_,fun q hq=>?_,fun q hq=>?_⟩⟩
 ·have hq' : q < s.nr + 1:=by rw [<- n1];exact hq
  by_cases c : q = s.nr
  ·exact ⟨i,by omega,by show (if i = i then s.nr else _) = q;rw [if_pos rfl,c]⟩
  ·obtain ⟨x,hx,ex⟩:=h.full q (by omega)
   exact ⟨x,by omega,by show (if x = i then s.nr else (waitS (addS' s) s.nr).of x) = q;rw [if_neg (by omega),o1];exact ex⟩
 ·have:=wq_wait wq1 (q:=s.nr) (Nat.lt_succ_self _)
  exact ⟨this.lt,this.iff,this.nodup⟩
 ·show (waitS (addS' s) s.nr).nr = _
  rw [n1,e,h.nr];simp
 ·show (if x = i then s.nr else (waitS (addS' s) s.nr).of x) = _
  by_cases c : x = i
  ·rw [if_pos c,c,ei]
  ·rw [if_neg c,o1,ords_idx (show x < i by omega)];exact h.of_ x (by omega)
 ·show (waitS (addS' s) s.nr).waits q = true
  have hq' : q < s.nr + 1:=by rw [<- n1];exact hq
  by_cases c : q = s.nr
  ·rw [c];exact waitS_here _ _
  ·refine waitS_more ?_
   show upd s.waits s.nr false q = true
   rw [upd_other _ _ c];exact h.waits q (by omega)
 ·show (if q = s.nr then (waitS (addS' s) s.nr).rows s.nr ++ [i] else (waitS (addS' s) s.nr).rows q).length <= i + 1
  rw [r1]
  have hq' : q < s.nr + 1:=by rw [<- n1];exact hq
  split
  ·rw [upd_same];simp
  ·rename_i c
   rw [upd_other _ _ c]
   have:=h.rows q (by omega)
   omega
theorem idx_inj : ∀ {l : List (List UInt8)} {a b : List UInt8},a ∈ l -> b ∈ l -> l.idxOf a = l.idxOf b -> a = b
 | c :: t,a,b,ha,hb,e=>by
   rw [List.idxOf_cons,List.idxOf_cons] at e
   by_cases h1 : c = a
   ·by_cases h2 : c = b
    ·rw [<- h1,h2]
    ·simp [h1] at e
     have h2' : (a == b) = false:=beq_eq_false_iff_ne.2 (fun z=>h2 (h1.trans z))
     simp [h2'] at e
   ·by_cases h2 : c = b
    ·simp [h2] at e
     have h1' : (b == a) = false:=beq_eq_false_iff_ne.2 (fun z=>h1 (h2.trans z))
     simp [h1'] at e
    ·have h1' : (c == a) = false:=beq_eq_false_iff_ne.2 h1
     have h2' : (c == b) = false:=beq_eq_false_iff_ne.2 h2
     simp [h1',h2'] at e
     refine idx_inj ?_ ?_ e
     ·rcases List.mem_cons.1 ha with z | z
      ·exact absurd z.symm h1
      ·exact z
     ·rcases List.mem_cons.1 hb with z | z
      ·exact absurd z.symm h2
      ·exact z
theorem st_end {N : Nat} {G : Nat -> ND} {s : PS} (hP : ∀ x,x < N -> Plain (G x)) (hK : Kids N G) (h : St G N s) : Ok N s /\ Parts N G s.of /\ ∀ C,Stab N G s.of (wt s) C (fun _=>False):=by
 have key : ∀ x y,x < N -> y < N -> (s.of x = s.of y ↔ Lab (G x) (G y)):=by
  intro x y hx hy
  rw [h.of_ x hx,h.of_ y hy,<- look_iff (hP x hx) (hP y hy)]
  constructor
  ·intro e
   exact idx_inj (ords_mem hx) (ords_mem hy) e
  ·intro e;rw [e]
 refine ⟨⟨h.wf,h.full,h.wq⟩,⟨fun x y hx hy e=>(key x y hx hy).1 e,fun x y hx hy hs=>(key x y hx hy).2 (hs.lab hx hy)⟩,fun C=>Stab.start hK (fun x hx=>⟨h.wf.lt x hx,h.waits _ (h.wf.lt x hx)⟩)⟩
end Go.Proofs.YtpbpbppimkeodaaGreatDoor
