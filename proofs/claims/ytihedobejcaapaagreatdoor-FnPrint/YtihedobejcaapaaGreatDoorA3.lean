/-
  Class Fresh Jumps Labels
-/
import Derived.Test.YtihedobejcaapaaGreatDoorA1
import Derived.Lib.Bytealg
import Derived.Lib.IndexBytes
import Derived.Lib.IndexEntry
import Derived.Laws.Externs
import Derived.Laws.Strings3
import Derived.Lib.UnsafeStr
import Derived.Lib.BufferWrite
import Derived.Laws.MakeOwn
import Derived.Deep.RegionHeld3
import Derived.Scope
import Derived.ScopeJumps
import Derived.WalkMore
import Derived.Deep.AppendLies
set_option maxHeartbeats 4000000
set_option maxRecDepth 100000
namespace Go.Proofs.YtihedobejcaapaaGreatDoor
open Go.RowKit
theorem c19 (c : Int) (w : World) :
  Calls Tryz.prog 31 #[.int .u8 c] w fun e w'=>e = .returned (.bool (dg c)) /\ w' = w:=by
 by_cases b : 48 <= c <;> by_cases a : c <= 57 <;>
 (go_enter Tryz.func31,Tryz.ntmps31
  go_wp2;go_ret;exact ⟨by simp [dg,b,a],rfl⟩)
theorem dh {a b : Int} (h : a = b) : Ending.returned (.int .i64 a) = .returned (.int .i64 b):=by rw [h]
theorem ub {t : ByteArray} (hp : 0 < t.size) (h : ((t[0]'hp).toNat : Int) = 48) : (t.toList == [48]) = decide (t.size = 1):=by
 have b : t.toList.length = t.size:=by rw [ByteArray.toList_eq];rfl
 by_cases e : t.size = 1
 ·rw [decide_eq_true e]
  have c:=eF t hp;rw [<- ByteArray.toList_eq] at c
  cases q : t.toList with
  | nil=>rw [q] at b;simp at b;omega
  | cons a l=>
    rw [q] at b c;simp only [List.length_cons] at b;have : l = []:=List.eq_nil_of_length_eq_zero (by omega);subst this;simp only [List.headD_cons] at c
    have : a = 48:=by
     rw [<- UInt8.toNat_inj,c];simp only [UInt8.reduceToNat];omega
    subst this;rfl
 ·rw [decide_eq_false e,beq_eq_false_iff_ne]
  intro q;rw [q] at b;simp at b;omega
theorem AK {t : ByteArray} (hp : 0 < t.size) : num t.toList = (dg ((t[0]'hp).toNat : Int) && !decide (9 < t.size \/ ((t[0]'hp).toNat : Int) = 48 /\ 1 < t.size)):=by
 have b : t.toList.length = t.size:=by rw [ByteArray.toList_eq];rfl
 have a:=eF t hp;rw [<- ByteArray.toList_eq] at a;unfold num;rw [a,b]
theorem c42 (t : ByteArray) (w : World) (hp : 0 < t.size) (_hs : t.size <= 9223372036854775807) :
  Calls Tryz.prog 82 #[.string t] w fun e w'=>e = .returned (.bool (num t.toList)) /\ w' = w:=by
 have b : Hid (num t.toList = (dg ((t[0]'hp).toNat : Int) && !decide (9 < t.size \/ ((t[0]'hp).toNat : Int) = 48 /\ 1 < t.size))):=AK hp;cases hd : dg ((t[0]'hp).toNat : Int)
 ·go_enter Tryz.func82,Tryz.ntmps82
  go_wp2_with (go_at_call 31;refine (c19 _ _).mono ?_;rintro e w' ⟨rfl,rfl⟩);go_ret;exact ⟨aV (by rw [b.out,hd];rfl),rfl⟩
 ·by_cases i : t.size <= 9
  ·by_cases a : ((t[0]'hp).toNat : Int) = 48
   ·have d:=ub hp a
    have f : (((t[0]'hp).toNat : Int) != 48) = false:=by rw [bne_eq_false_iff_eq];exact a
    have g : Hid (((t[0]'hp).toNat : Int) = 48):=a;have h : Hid ((t.toList == [48]) = decide (t.size = 1)):=d;clear a d;go_enter Tryz.func82,Tryz.ntmps82;go_wp2_with (go_at_call 31;refine (c19 _ _).mono ?_;rintro e w' ⟨rfl,rfl⟩);go_ret;refine ⟨aV ?_,rfl⟩;rw [b.out,hd,h.out,Bool.true_and];by_cases q : t.size = 1
    ·rw [decide_eq_true q,decide_eq_false (by omega)];rfl
    ·rw [decide_eq_false q,decide_eq_true (by have:=g.out;omega)];rfl
   ·have f : (((t[0]'hp).toNat : Int) != 48) = true:=by rw [bne_iff_ne];exact a
    have c : Hid (num t.toList = true):=by
     show num t.toList = true;rw [b.out,hd,decide_eq_false (by omega)];rfl
    clear a;go_enter Tryz.func82,Tryz.ntmps82;go_wp2_with (go_at_call 31;refine (c19 _ _).mono ?_;rintro e w' ⟨rfl,rfl⟩);go_ret;exact ⟨aV c.out.symm,rfl⟩
  ·have c : Hid (num t.toList = false):=by
    show num t.toList = false;rw [b.out,decide_eq_true (by omega)];simp
   go_enter Tryz.func82,Tryz.ntmps82;go_wp2_with (go_at_call 31;refine (c19 _ _).mono ?_;rintro e w' ⟨rfl,rfl⟩);go_ret;exact ⟨aV c.out.symm,rfl⟩
theorem CJ (s : ByteArray) (c : Int) (w : World) :
  Calls Tryz.prog 108 #[.string s,.int .u8 c] w fun e w'=>e = .returned (.int .i64 (Lib.indexByte s.data.toList c.toNat.toUInt8)) /\ w' = w:=by
 go_enter Tryz.func108,Tryz.ntmps108;go_wp2;rw [run_callFunc_extern Tryz.func119 (by kernel_rfl) (by kernel_rfl) (by kernel_rfl) (e:=Extern.BytealgIndexByte.indexByte) (by kernel_rfl),Lib.run_indexByteString];simp only [Result.andThen];rw [Oper.upon_value];go_wp2;go_ret;exact ⟨rfl,rfl⟩
def nR : ByteArray:=⟨#[59,58,61,63,123,125,40,41,44,46,43,60]⟩
theorem vg : nR.data.toList = lC:=rfl
theorem xQ {t : ByteArray} (hp : 0 < t.size) (h : sg ((t[0]'hp).toNat : Int) = false) : Lib.index lC t.data.toList = -1:=by
 have c:=eF t hp
 cases q : t.data.toList with
 | nil=>
   have d : t.data.toList.length = t.size:=rfl;rw [q] at d;simp at d;omega
 | cons a l=>
   rw [q] at c;simp only [List.headD_cons] at c;have:=uA (b:=a) (l:=l) (by rw [c];exact h);unfold Lib.contains at this;have e:=Lib.index_ge lC (a :: l);simp only [decide_eq_false_iff_not] at this;omega
theorem xD {c : UInt8} (h : sg (c.toNat : Int) = false) (a b : Nat) : Lib.indexByte (nR.extract a b).data.toList c = -1:=by
 have i : ∀ x ∈ lC,(x == c) = false:=fun x hx=>by
  rw [beq_eq_false_iff_ne];intro e;subst e
  revert h;revert hx
  simp only [lC,List.mem_cons,List.not_mem_nil,or_false];rintro (rfl | rfl | rfl | rfl | rfl | rfl | rfl | rfl | rfl | rfl | rfl | rfl) <;> decide
 have d : ∀ x ∈ (nR.extract a b).data.toList,x ∈ lC:=fun x hx=>by
  rw [ByteArray.data_extract,Array.toList_extract,List.extract_eq_take_drop] at hx;exact List.mem_of_mem_drop (List.mem_of_mem_take hx)
 generalize (nR.extract a b).data.toList = l at d
 induction l with
 | nil=>rfl
 | cons x l ih=>
   have f:=i x (d x List.mem_cons_self);have g:=ih (fun y hy=>d y (List.mem_cons_of_mem _ hy));unfold Lib.indexByte;rw [f,g];rfl
theorem Dv (t : ByteArray) (m : Int) (w : World) (hp : 0 < t.size) (hs : t.size <= 4294967280) (hm : w.cell? ⟨1,0,none⟩ = some (.int .i64 m)) (hc : t.size = 1 \/ sg ((t[0]'hp).toNat : Int) = false) :
  Calls Tryz.prog 101 #[.string nR,.string t] w fun e w'=>e = .returned (.int .i64 (Lib.index lC t.data.toList)) /\ w' = w:=by
 have p : ((t.size : Int) == 0) = false:=bn2 (by omega);by_cases f : t.size = 1
 ·have d : Hid (Lib.index lC t.data.toList = Lib.indexByte nR.data.toList (t[0]'hp)):=by
   show _ = _;have:=Lib.one nR t f;rw [Lib.byte_back] at this;exact this
  have l : ((t.size : Int) == 1) = true:=beq_iff_eq.2 (by omega)
  have o : (t.toList == nR.toList) = false:=by
   rw [beq_eq_false_iff_ne];intro q;have : t.toList.length = t.size:=by rw [ByteArray.toList_eq];rfl
   rw [q,f] at this;rw [ByteArray.toList_eq] at this;cases this
  go_enter Tryz.func101,Tryz.ntmps101;go_wp2_with (go_at_call 108;refine (CJ _ _ _).mono ?_;rintro e w' ⟨rfl,rfl⟩);go_ret;exact ⟨dh d.out.symm,rfl⟩
 have c : sg ((t[0]'hp).toNat : Int) = false:=hc.resolve_left f;have d : Hid (Lib.index lC t.data.toList = -1):=xQ hp c;have l : ((t.size : Int) == 1) = false:=bn2 (by omega)
 have o : (t.toList == nR.toList) = false:=by
  rw [beq_eq_false_iff_ne];intro q;have e0:=eF t hp;rw [<- ByteArray.toList_eq,q] at e0;have : (nR.toList.headD 0) = 59:=by rw [ByteArray.toList_eq];rfl
  rw [this] at e0;rw [<- e0] at c
  revert c;decide
 have g : nR.size = 12:=rfl;by_cases h : 12 <= t.size
 ·go_enter Tryz.func101,Tryz.ntmps101
  go_wp2;go_ret;exact ⟨dh d.out.symm,rfl⟩
 by_cases j : (t.size : Int) <= m
 ·have k : (callFunc 109 #[.string nR,.string t]).run Tryz.prog w = .ok (.value (.int .i64 (-1))) w:=by
   rw [run_callFunc_extern Tryz.func109 (by kernel_rfl) (by kernel_rfl) (by kernel_rfl) (e:=Extern.BytealgIndex.index) (by kernel_rfl),Lib.run_indexString nR t w 1 m (by kernel_rfl) hm (by omega) j (by rw [g];omega)];simp only [Result.andThen];rw [vg,d.out]
  go_enter Tryz.func101,Tryz.ntmps101;go_wp2;go_ret;exact ⟨dh d.out.symm,rfl⟩
 ·have e0 : (((nR[0]'(by rw [g];omega)).toNat : Int) != ((t[0]'hp).toNat : Int)) = true:=by
   rw [bne_iff_ne];intro q;rw [<- q,show ((nR[0]'(by rw [g];omega)).toNat : Int) = 59 from rfl] at c
   revert c;decide
  have n : Hid (∀ a b : Nat,Lib.indexByte (nR.extract a b).data.toList (((t[0]'hp).toNat : Int)).toNat.toUInt8 = -1):=fun a b=>by
   rw [Lib.byte_back];exact xD c a b
  go_enter Tryz.func101,Tryz.ntmps101;go_wp2_with (first | (go_at_call 108;refine (CJ _ _ _).mono ?_;rintro e w' ⟨rfl,rfl⟩))
  go_loop [8] (fun i=>i = .int .i64 0) (fun _=>0)
  case atStart=>rfl
  case round=>
   subst hrel;go_wp2_with (first | (go_at_call 108;refine (CJ _ _ _).mono ?_;rintro e w' ⟨rfl,rfl⟩;rw [n.out]));go_ret;exact ⟨dh d.out.symm,rfl⟩
theorem Du (t : ByteArray) (m : Int) (w : World) (hp : 0 < t.size) (hs : t.size <= 4294967280) (hm : w.cell? ⟨1,0,none⟩ = some (.int .i64 m)) (hc : t.size = 1 \/ sg ((t[0]'hp).toNat : Int) = false) :
  Calls Tryz.prog 94 #[.string nR,.string t] w fun e w'=>e = .returned (.int .i64 (Lib.index lC t.data.toList)) /\ w' = w:=by
 go_enter Tryz.func94,Tryz.ntmps94;go_wp2_with (go_at_call 101;refine (Dv t m _ hp hs hm hc).mono ?_;rintro e w' ⟨rfl,rfl⟩);go_ret;exact ⟨rfl,rfl⟩
theorem c43 (t : ByteArray) (m : Int) (w : World) (hp : 0 < t.size) (hs : t.size <= 4294967280) (hm : w.cell? ⟨1,0,none⟩ = some (.int .i64 m)) (hc : t.size = 1 \/ sg ((t[0]'hp).toNat : Int) = false) :
  Calls Tryz.prog 83 #[.string nR,.string t] w fun e w'=>e = .returned (.bool (Lib.contains lC t.toList)) /\ w' = w:=by
 have a : Hid (t.toList = t.data.toList):=ByteArray.toList_eq t;go_enter Tryz.func83,Tryz.ntmps83;go_wp2_with (go_at_call 94;refine (Du t m _ hp hs hm hc).mono ?_;rintro e w' ⟨rfl,rfl⟩);go_ret;exact ⟨aV (by rw [a.out];rfl),rfl⟩
theorem yb (t : ByteArray) : gn t = pz t.toList:=by rw [ByteArray.toList_eq];rfl
theorem Dx (t : ByteArray) (m : Int) (w : World) (hp : 0 < t.size) (hs : t.size <= 4294967280) (hm : w.cell? ⟨1,0,none⟩ = some (.int .i64 m)) (hc : t.size = 1 \/ sg ((t[0]'hp).toNat : Int) = false) :
  Calls Tryz.prog 57 #[.string t] w fun e w'=>e = .returned (.int .i64 (cls t.toList)) /\ w' = w:=by
 have c : Hid (gn t = pz t.toList):=yb t;have b : Hid (cls t.toList = if pz t.toList then 1 else if pI t.toList then 2 else if num t.toList then 3 else if t.toList == [45,62] || Lib.contains lC t.toList then 4 else 0):=rfl;have d:=hQx hc;clear hc;cases h1 : gn t
 case true=>
  have a : Hid (cls t.toList = 1):=by show _ = _;rw [b.out,<- c.out,h1];rfl
  go_enter Tryz.func57,Tryz.ntmps57;go_wp2_with (go_at_call 43;refine (tG t _ (by omega)).mono ?_;rintro e w' ⟨rfl,rfl⟩);go_ret;exact ⟨dh a.out.symm,rfl⟩
 cases h2 : pI t.toList
 case true=>
  have a : Hid (cls t.toList = 2):=by show _ = _;rw [b.out,<- c.out,h1,h2];rfl
  go_enter Tryz.func57,Tryz.ntmps57;go_wp2_with (first | (go_at_call 43;refine (tG t _ (by omega)).mono ?_;rintro e w' ⟨rfl,rfl⟩) | (go_at_call 68;refine (c41 t _).mono ?_;rintro e w' ⟨rfl,rfl⟩));go_ret;exact ⟨dh a.out.symm,rfl⟩
 cases h3 : num t.toList
 case true=>
  have a : Hid (cls t.toList = 3):=by show _ = _;rw [b.out,<- c.out,h1,h2,h3];rfl
  go_enter Tryz.func57,Tryz.ntmps57;go_wp2_with (first | (go_at_call 43;refine (tG t _ (by omega)).mono ?_;rintro e w' ⟨rfl,rfl⟩) | (go_at_call 68;refine (c41 t _).mono ?_;rintro e w' ⟨rfl,rfl⟩) | (go_at_call 82;refine (c42 t _ hp (by omega)).mono ?_;rintro e w' ⟨rfl,rfl⟩));go_ret;exact ⟨dh a.out.symm,rfl⟩
 cases h4 : (t.toList == [45,62])
 case true=>
  have a : Hid (cls t.toList = 4):=by show _ = _;rw [b.out,<- c.out,h1,h2,h3,h4];rfl
  go_enter Tryz.func57,Tryz.ntmps57;go_wp2_with (first | (go_at_call 43;refine (tG t _ (by omega)).mono ?_;rintro e w' ⟨rfl,rfl⟩) | (go_at_call 68;refine (c41 t _).mono ?_;rintro e w' ⟨rfl,rfl⟩) | (go_at_call 82;refine (c42 t _ hp (by omega)).mono ?_;rintro e w' ⟨rfl,rfl⟩));go_ret;exact ⟨dh a.out.symm,rfl⟩
 cases h5 : Lib.contains lC t.toList
 ·have a : Hid (cls t.toList = 0):=by show _ = _;rw [b.out,<- c.out,h1,h2,h3,h4,h5];rfl
  go_enter Tryz.func57,Tryz.ntmps57;go_wp2_with (first | (go_at_call 43;refine (tG t _ (by omega)).mono ?_;rintro e w' ⟨rfl,rfl⟩) | (go_at_call 68;refine (c41 t _).mono ?_;rintro e w' ⟨rfl,rfl⟩) | (go_at_call 82;refine (c42 t _ hp (by omega)).mono ?_;rintro e w' ⟨rfl,rfl⟩) | (go_at_call 83;refine (c43 t m _ hp hs hm d.out).mono ?_;rintro e w' ⟨rfl,rfl⟩));go_ret;exact ⟨dh a.out.symm,rfl⟩
 ·have a : Hid (cls t.toList = 4):=by show _ = _;rw [b.out,<- c.out,h1,h2,h3,h4,h5];rfl
  go_enter Tryz.func57,Tryz.ntmps57;go_wp2_with (first | (go_at_call 43;refine (tG t _ (by omega)).mono ?_;rintro e w' ⟨rfl,rfl⟩) | (go_at_call 68;refine (c41 t _).mono ?_;rintro e w' ⟨rfl,rfl⟩) | (go_at_call 82;refine (c42 t _ hp (by omega)).mono ?_;rintro e w' ⟨rfl,rfl⟩) | (go_at_call 83;refine (c43 t m _ hp hs hm d.out).mono ?_;rintro e w' ⟨rfl,rfl⟩));go_ret;exact ⟨dh a.out.symm,rfl⟩
theorem Tryz.info5 : (Tryz.prog.info? 5).map (fun i=>(i.zero,i.size,i.bytes)) = some (some (.int .u8 0),1,1):=by kernel_rfl
theorem Dz (s : ByteArray) (w : World) (hp : 0 < s.size) (hs : s.size <= 1048576) :
  Calls Tryz.prog 84 #[.string s] w fun e w'=>e = .returned (.string s) /\ Bw w w':=by
 obtain ⟨t,o,n,b,l⟩:=info_parts Tryz.info5;have g : (Tryz.prog.info? 5).map (·.size) = some 1:=by rw [o];simp [b]
 have f : Tryz.prog.cellsOf 5 = 1:=by simp [Program.cellsOf,o,b]
 have a : s.data.toList.length = s.size:=rfl;obtain ⟨M,r⟩:=xe (madeCells (Value.int .u8 0).cells (((s.size : Nat) : Int).toNat * t.size));have v : M.size = s.size:=by rw [r,size_madeCells,b];simp
 have z : ∀ W : World,(Instr.makeSlice 22 (.int .i64 (s.size : Int)) (.int .i64 (s.size : Int))).run Tryz.prog W = .ok (.slice (some ⟨W.heap.size,0,none⟩) s.size s.size) (W.alloc (.cells M 5)):=fun W=>by
  have h:=run_make (P:=Tryz.prog) W 22 5 t (.int .u8 0) Tryz.underlying22 o n .i64 .i64 (s.size : Int) (s.size : Int) (by omega) (by omega) (by rw [l];omega) (by omega);rw [<- r] at h;simpa using h
 clear r;have q:=Lib.run_copy_row_string (P:=Tryz.prog) (w.alloc (.cells M 5)) 22 9 3 5 w.heap.size 0 s.size s.size s M 5 Tryz.underlying22 g (heap_alloc_new w _) (nlr _) (by omega);obtain ⟨Y,m⟩:=xe ((M.toList.take 0 ++ Lib.byteCells s.data.toList ++ M.toList.drop (0 + s.size)).toArray);rw [<- m] at q
 have c : Y.toList = Lib.byteCells s.data.toList:=by
  rw [m,List.toList_toArray,List.take_zero,List.nil_append,List.drop_of_length_le (by rw [Array.length_toList];omega),List.append_nil]
 have u : Y.size = s.size:=by rw [<- Array.length_toList,c,Lib.byteCells_length,a]
 have d : ((w.alloc (.cells M 5)).setRow w.heap.size Y).heap[w.heap.size]? = some (.cells Y 5 (0,0)):=setRow_heap _ _ M _ 5 (0,0) (heap_alloc_new w _)
 have i:=Lib.run_unsafeString_row (P:=Tryz.prog) ((w.alloc (.cells M 5)).setRow w.heap.size Y) 135 3 9 5 Tryz.underlying135 f w.heap.size Y.size (by unfold World.shape?;rw [d]) s.data.toList (fun e=>by rw [e] at a;simp at a;omega) (by omega) (by omega)
  (fun j x hx=>Lib.cells_of_row d Y.size j _ (by rw [List.take_of_length_le (by rw [Array.length_toList];exact nlr _),c];simp [Lib.byteCells,hx]))
 rw [a] at i;have A : ((s.size : Int) == 0) = false:=bn2 (by omega);clear m;go_enter Tryz.func84,Tryz.ntmps84;go_wp2;go_ret;have y : Below w.heap.size (w.alloc (.cells M 5)) ((w.alloc (.cells M 5)).setRow w.heap.size Y):=⟨rfl,rfl,rfl,by simp,fun k hk=>setRow_other _ _ _ _ (by omega)⟩;exact ⟨rfl,Lib.below_freeze ((bel1 w _).trans y) (p:=⟨w.heap.size,0,none⟩) (nlr _) _⟩
theorem Dw (s : ByteArray) (w : World) (hp : 0 < s.size) (hs : s.size <= 1048576) :
  Calls Tryz.prog 58 #[.string s] w fun e w'=>e = .returned (.string s) /\ Bw w w':=by
 go_enter Tryz.func58,Tryz.ntmps58;go_wp2_with (go_at_call 84;refine (Dz s _ hp hs).mono ?_;rintro e w' ⟨rfl,a⟩);go_ret;exact ⟨rfl,a⟩
def v3 (a b c : Value) : Nat -> Value:=fun i=>if i = 0 then a else if i = 1 then b else c
theorem ej (w : World) (a b c : Value) (t : TypeId) : (w.alloc (.cells #[a,b,c] t)).rowIs w.heap.size t 3 (v3 a b c):=
 World.rowIs_alloc w #[a,b,c] t _ (fun i hi=>by
  match i,hi with
  | 0,_=>rfl
  | 1,_=>rfl
  | 2,_=>rfl)
theorem lN {w w' : World} {m : Int} (h : w.cell? ⟨1,0,none⟩ = some (.int .i64 m)) (hb : Bw w w') : w'.cell? ⟨1,0,none⟩ = some (.int .i64 m):=by
 rw [hb.cell (p:=⟨1,0,none⟩) (blt h)];exact h
theorem Dq (t : ByteArray) (k : Nat) (m : Int) (w : World) (hp : 0 < t.size) (hs : t.size <= 1048576) (hm : w.cell? ⟨1,0,none⟩ = some (.int .i64 m)) (hc : t.size = 1 \/ sg ((t[0]'hp).toNat : Int) = false) :
  Calls Tryz.prog 33 #[.string t,.int .i64 (k : Int)] w fun e w'=>e = .returned (.agg #[.int .i64 (cls t.toList),.string t,.int .i64 (k : Int)]) /\ Bw w w':=by
 have d : Hid (∀ w',Bw w w' -> w'.cell? ⟨1,0,none⟩ = some (.int .i64 m)):=fun w' b=>lN hm b;clear hm;go_enter Tryz.func33,Tryz.ntmps33;go_wp2_with fail;refine (Dx t m _ hp (by omega) (d.out _ (bel1 _ _)) hc).mono ?_;rintro e w' ⟨rfl,rfl⟩;go_wp2_with fail;refine (Dw t _ hp hs).mono ?_;rintro e n ⟨rfl,b⟩;have a:=(ej w (.int .i64 0) (.string ⟨#[]⟩) (.int .i64 0) 45).of_block (b.block _ (by simp));have j:=(bel1 w _).trans (b.mono (by simp));have s:=a.cell (i:=0) (by omega);have r:=a.cell (i:=1) (by omega);have q:=a.cell (i:=2) (by omega);have o:=a.frozen 0;have x:=a.frozen 1;have u:=a.frozen 2;have f:=((j.setCell (p:=⟨w.heap.size,0,none⟩) (nlr _) (.int .i64 (cls t.toList))).setCell (p:=⟨w.heap.size,1,none⟩) (nlr _) (.string t)).setCell (p:=⟨w.heap.size,2,none⟩) (nlr _) (.int .i64 (k : Int));have c:=((a.set 0 (.int .i64 (cls t.toList))).set 1 (.string t)).set 2 (.int .i64 (k : Int));have h:=c.cell (i:=0) (by omega);have g:=c.cell (i:=1) (by omega);have l:=c.cell (i:=2) (by omega);clear b a c d;go_wp2;exact bodyPost_ret (v:=.agg #[.int .i64 (cls t.toList),.string t,.int .i64 (k : Int)]) (by simp [results,Tryz.results33,go_sem,h,g,l]) rfl ⟨rfl,f⟩
end Go.Proofs.YtihedobejcaapaaGreatDoor
namespace Go.Proofs.YtihedobejcaapaaGreatDoor
def fc (J : Nat -> Act -> World -> Prop) (Q : Exit -> Act -> World -> Prop) : Exit -> Act -> World -> Prop
 | .goto l,a,w=>J l a w
 | e,a,w=>Q e a w
theorem jP {P : Program} {a : Act} {w : World} {Q : Exit -> Act -> World -> Prop} {c : Code} (rest : Nat -> Code) (J : Nat -> Act -> World -> Prop) (μ : Nat -> Act -> World -> Nat)
  (hf : ∀ l a w,J l a w -> findLabel c l = some (rest l)) (first : c.wp P (fc J Q) a w)
  (pass : ∀ l a w,J l a w -> (rest l).wp P (fc (fun l' a' w'=>J l' a' w' /\ μ l' a' w' < μ l a w) Q) a w) : (Code.scope c).wp P Q a w:=by
 intro b k p;have u : ∀ l a w,J l a w -> gotoIn l (.inScope c :: k) = some (.code (rest l) :: .inScope c :: k):=fun l a w h=>by simp [gotoIn,hf l a w h]
 have s : ∀ n l a w,μ l a w = n -> J l a w -> ∃ e a' w',Q e a' w' /\ Arrives P (lone (b.at a (.code (rest l) :: .inScope c :: k)) p w) b k p e a' w':=by
  intro n
  induction n using Nat.strongRecOn with
  | _ n ih=>
    intro l a w y v;obtain ⟨e,j,i,g,d⟩:=pass l a w v b (.inScope c :: k) p
    cases e with
    | normal=>exact ⟨.normal,j,i,g,Steps.trans d (.one step_inScope)⟩
    | exit id=>exact ⟨.exit id,j,i,g,fun k' hk=>d k' (by simp [exitTo,hk])⟩
    | goto l'=>
      obtain ⟨o,x⟩:=g;obtain ⟨q,t,r,m,f⟩:=ih _ (by omega) l' j i rfl o;exact ⟨q,t,r,m,.of_steps (d _ (u _ _ _ o)) f⟩
    | ret=>exact ⟨_,j,i,g,d⟩
    | panic ch=>exact ⟨_,j,i,g,d⟩
    | outgrown=>exact ⟨_,j,i,g,d⟩
 obtain ⟨e,j,i,g,d⟩:=first b (.inScope c :: k) p
 cases e with
 | normal=>exact ⟨.normal,j,i,g,.head step_scope (Steps.trans d (.one step_inScope))⟩
 | exit id=>exact ⟨.exit id,j,i,g,fun k' hk=>.head step_scope (d k' (by simp [exitTo,hk]))⟩
 | goto l'=>
   obtain ⟨q,t,r,m,f⟩:=s _ l' j i rfl g;exact ⟨q,t,r,m,.of_steps (.head step_scope (d _ (u _ _ _ g))) f⟩
 | ret=>exact ⟨_,j,i,g,.of_steps (.one step_scope) d⟩
 | panic ch=>exact ⟨_,j,i,g,.of_steps (.one step_scope) d⟩
 | outgrown=>exact ⟨_,j,i,g,.of_steps (.one step_scope) d⟩
end Go.Proofs.YtihedobejcaapaaGreatDoor
namespace Go.Proofs.YtihedobejcaapaaGreatDoor
open Go.RowKit
theorem pR {J J' : Nat -> Act -> World -> Prop} {Q : Exit -> Act -> World -> Prop} (h : ∀ l a w,J l a w -> J' l a w) {e : Exit} {a : Act} {w : World} (hj : fc J Q e a w) : fc J' Q e a w:=by
 cases e <;> first | exact h _ _ _ hj | exact hj
theorem mu {P : Program} {a : Act} {w : World} {Q : Exit -> Act -> World -> Prop} {c r0 r1 r2 r3 r4 r5 : Code} (J : Nat -> Act -> World -> Prop) (μ : Nat -> Act -> World -> Nat) (hl : ∀ l a w,J l a w -> l < 6)
  (f0 : findLabel c 0 = some (Code.skip.seq r0)) (f1 : findLabel c 1 = some (Code.skip.seq r1)) (f2 : findLabel c 2 = some (Code.skip.seq r2)) (f3 : findLabel c 3 = some (Code.skip.seq r3)) (f4 : findLabel c 4 = some (Code.skip.seq r4)) (f5 : findLabel c 5 = some (Code.skip.seq r5))
  (first : (∀ a w,J 0 a w -> r0.wp P (fc J Q) a w) -> c.wp P (fc J Q) a w)
  (p0 : ∀ a w,J 0 a w -> r0.wp P (fc (fun l' a' w'=>J l' a' w' /\ μ l' a' w' < μ 0 a w) Q) a w)
  (p1 : ∀ a w,J 1 a w -> r1.wp P (fc (fun l' a' w'=>J l' a' w' /\ μ l' a' w' < μ 1 a w) Q) a w)
  (p2 : ∀ a w,J 2 a w -> r2.wp P (fc (fun l' a' w'=>J l' a' w' /\ μ l' a' w' < μ 2 a w) Q) a w)
  (p3 : ∀ a w,J 3 a w -> r3.wp P (fc (fun l' a' w'=>J l' a' w' /\ μ l' a' w' < μ 3 a w) Q) a w)
  (p4 : ∀ a w,J 4 a w -> r4.wp P (fc (fun l' a' w'=>J l' a' w' /\ μ l' a' w' < μ 4 a w) Q) a w)
  (p5 : ∀ a w,J 5 a w -> r5.wp P (fc (fun l' a' w'=>J l' a' w' /\ μ l' a' w' < μ 5 a w) Q) a w) : (Code.scope c).wp P Q a w:=by
 refine jP (fun l=>Code.skip.seq (match l with | 0=>r0 | 1=>r1 | 2=>r2 | 3=>r3 | 4=>r4 | _=>r5)) J μ (fun l a w h=>?_) (first fun a w h=>?_) (fun l a w h=>?_)
 ·have:=hl l a w h
  match l,this with
  | 0,_=>exact f0
  | 1,_=>exact f1
  | 2,_=>exact f2
  | 3,_=>exact f3
  | 4,_=>exact f4
  | 5,_=>exact f5
 ·intro b k i
  obtain ⟨e,g,f,j,d⟩:=p0 a w h b k i;exact ⟨e,g,f,pR (fun _ _ _ q=>q.1) j,d⟩
 ·have:=hl l a w h
  match l,this with
  | 0,_=>exact wp_seq (wp_skip (p0 a w h))
  | 1,_=>exact wp_seq (wp_skip (p1 a w h))
  | 2,_=>exact wp_seq (wp_skip (p2 a w h))
  | 3,_=>exact wp_seq (wp_skip (p3 a w h))
  | 4,_=>exact wp_seq (wp_skip (p4 a w h))
  | 5,_=>exact wp_seq (wp_skip (p5 a w h))
def jE (l : List TK) : List Value:=l.flatMap fun t=>[.int .i64 t.cls,.string t.txt,.int .i64 (t.loc : Int)]
theorem oC (l : List TK) (t : TK) : jE (l ++ [t]) = jE l ++ [.int .i64 t.cls,.string t.txt,.int .i64 (t.loc : Int)]:=by simp [jE]
structure pO (w wr : World) (v : Value) (l : List TK) : Prop where
 own : wr.ownsRow w.heap.size 45 3 v l.length (jE l)
 below : Bw w wr
theorem mZ {s : ByteArray} {i : Nat} : (iZ s i).length <= s.size - i:=by
 by_cases h : i < s.size
 ·have a:=dU s i
  have:=mZ (s:=s) (i:=i + aR s i);cases hb : blk s i
  ·rw [gO h hb,List.length_cons]
   have:=iO h;omega
  ·rw [gQ h hb];omega
 ·rw [fI h];exact Nat.zero_le _
termination_by s.size - i
decreasing_by omega
def dY (s : ByteArray) (l : List TK) (i : Nat) : Prop:=l ++ iZ s i = iZ s 0
theorem qA (s : ByteArray) : dY s [] 0:=rfl
theorem jh {s : ByteArray} {l : List TK} {i : Nat} (h : dY s l i) (hi : i < s.size) (hb : blk s i = true) : dY s l (i + aR s i):=by
 unfold dY at *;rw [<- gQ hi hb];exact h
theorem vU {s : ByteArray} {l : List TK} {i : Nat} (h : dY s l i) (hi : i < s.size) (hb : blk s i = false) : dY s (l ++ [⟨cls (gC s i).toList,gC s i,i⟩]) (i + aR s i):=by
 unfold dY at *;rw [gO hi hb] at h;rw [<- h];simp
theorem uh {s : ByteArray} {l : List TK} {i : Nat} (h : dY s l i) (hi : ¬ i < s.size) : l = iZ s 0:=by
 unfold dY at h;rw [fI hi,List.append_nil] at h;exact h
theorem vL {s : ByteArray} {l : List TK} {i : Nat} (h : dY s l i) : l.length <= s.size:=by
 unfold dY at h;have a:=congrArg List.length h;have b:=mZ (s:=s) (i:=0);rw [lap] at a;omega
def Fr (s : ByteArray) (v x4 : Value) (k : Nat) (a : Act) : Prop:=∃ u : Nat -> Value,a = { tmps:=#[.string s,u 1,u 2,v,x4,.int .i64 (k : Int),u 6,u 7,u 8,u 9,u 10,u 11,u 12,u 13,u 14,u 15,u 16,u 17,u 18,u 19,u 20,u 21,u 22,u 23,u 24,u 25,u 26,u 27,u 28,u 29,u 30,u 31,u 32,u 33,u 34,u 35,u 36,u 37,u 38,u 39,u 40,u 41,u 42,u 43,u 44,u 45,u 46,u 47,u 48,u 49,u 50,u 51,u 52,u 53,u 54,u 55,u 56,u 57,u 58,u 59,u 60,u 61,u 62,u 63,u 64,u 65,u 66,u 67,u 68,u 69,u 70,u 71,u 72,u 73,u 74,u 75,u 76,u 77,u 78,u 79,u 80,u 81,u 82,u 83,u 84,u 85,u 86,u 87,u 88,u 89,u 90,u 91,u 92,u 93,u 94,u 95,u 96],defers:=[] }
theorem vj (l : List Value) : l = (List.range l.length).map (fun i=>l.getD i undef):=by
 apply List.ext_getElem
 ·simp
 ·intro i a b
  simp [a]
theorem cv {s : ByteArray} {v x4 : Value} {k : Nat} {ar : Array Value} (h : ar.size = 97) (h0 : ar.toList.getD 0 undef = .string s) (h3 : ar.toList.getD 3 undef = v) (h4 : ar.toList.getD 4 undef = x4) (h5 : ar.toList.getD 5 undef = .int .i64 (k : Int)) : Fr s v x4 k { tmps:=ar,defers:=[] }:=by
 obtain ⟨l⟩:=ar;have g : l.length = 97:=h;have b:=vj l;rw [g] at b;obtain ⟨u,a⟩ : ∃ u : Nat -> Value,u = fun i=>l.getD i undef:=⟨_,rfl⟩;rw [<- a] at b;have e0 : u 0 = .string s:=by rw [a];exact h0
 have d : u 3 = v:=by rw [a];exact h3
 have f : u 4 = x4:=by rw [a];exact h4
 have e : u 5 = .int .i64 (k : Int):=by rw [a];exact h5
 have c : l = [u 0,u 1,u 2,u 3,u 4,u 5,u 6,u 7,u 8,u 9,u 10,u 11,u 12,u 13,u 14,u 15,u 16,u 17,u 18,u 19,u 20,u 21,u 22,u 23,u 24,u 25,u 26,u 27,u 28,u 29,u 30,u 31,u 32,u 33,u 34,u 35,u 36,u 37,u 38,u 39,u 40,u 41,u 42,u 43,u 44,u 45,u 46,u 47,u 48,u 49,u 50,u 51,u 52,u 53,u 54,u 55,u 56,u 57,u 58,u 59,u 60,u 61,u 62,u 63,u 64,u 65,u 66,u 67,u 68,u 69,u 70,u 71,u 72,u 73,u 74,u 75,u 76,u 77,u 78,u 79,u 80,u 81,u 82,u 83,u 84,u 85,u 86,u 87,u 88,u 89,u 90,u 91,u 92,u 93,u 94,u 95,u 96]:=b;rw [e0,d,f,e] at c;exact ⟨u,by rw [c]⟩
def Rd (p : Int -> Bool) (s : ByteArray) (f k : Nat) : Prop:=f < s.size /\ f + 1 <= k /\ k <= s.size /\ k + run p s k = f + 1 + run p s (f + 1)
def Di (s : ByteArray) (w : World) (l : Nat) (a : Act) (wr : World) : Prop:=
 ∃ (v x4 : Value) (k : Nat) (d : List TK),Fr s v x4 k a /\ pO w wr v d /\ k <= s.size /\
   ((l = 0 /\ dY s d k) \/
    (∃ f : Nat,x4 = .int .i64 (f : Int) /\ f < s.size /\ dY s d f /\
     ((l = 1 /\ bt s f = 35 /\ Rd nn s f k) \/ (l = 2 /\ sl (bt s f) = true /\ Rd wb s f k) \/ (l = 3 /\ dg (bt s f) = true /\ Rd dg s f k) \/ (l = 4 /\ bt s f = 45 /\ k = f + 1) \/
      (l = 5 /\ blk s f = false /\ k = f + aR s f))))
def far (s : ByteArray) (l : Nat) (a : Act) (_ : World) : Nat:=3 * (s.size - (intOf (a.tmps.getD 5 undef)).toNat) + (if l = 0 then 0 else if l = 1 \/ l = 5 then 1 else 2)
theorem zJ {s : ByteArray} {w : World} {l : Nat} {a : Act} {wr : World} (h : Di s w l a wr) : l < 6:=by
 obtain ⟨v,b,k,d,_,_,_,h⟩:=h;rcases h with ⟨h,_⟩ | ⟨f,_,_,_,h⟩
 ·omega
 ·rcases h with ⟨h,_⟩ | ⟨h,_⟩ | ⟨h,_⟩ | ⟨h,_⟩ | ⟨h,_⟩ <;> omega
end Go.Proofs.YtihedobejcaapaaGreatDoor
