/-
  Pure Math Leader Order JoA
-/
import Derived.WalkKit
namespace Go.Proofs.YtpbpbppimkeodaaGreatDoor
theorem blt {w : World} {a : Addr} {v : Value} (h : w.cell? a = some v) : a.block < w.heap.size:=World.block_lt_of_cell? _ _ h
def sl (c : Int) : Bool:=decide (97 <= c /\ c <= 122)
def wb (c : Int) : Bool:=decide ((97 <= c /\ c <= 122) \/ (48 <= c /\ c <= 57) \/ c = 95)
def rsv (l : List UInt8) : Bool:=
 l == [105,109,112,111,114,116] || l == [116,121,112,101] || l == [118,97,108] || l == [102,117,110] || l == [105,102] ||
 l == [116,104,101,110] || l == [101,108,115,101] || l == [105,110,116] || l == [98,111,111,108] || l == [116,114,117,101] || l == [102,97,108,115,101]
def gnl (l : List UInt8) : Bool:=
 decide (1 <= l.length /\ l.length <= 12) && (sl ((l.headD 0).toNat : Int) && (l.all (fun b=>wb (b.toNat : Int)) && !rsv l))
def gn (s : ByteArray) : Bool:=gnl s.data.toList
theorem wb_of_sl {c : Int} (h : sl c = true) : wb c = true:=by
 simp only [sl,wb,decide_eq_true_eq] at *;exact Or.inl h
theorem gn_short {s : ByteArray} (h : s.size < 1 \/ 12 < s.size) : gn s = false:=by
 have : s.data.toList.length = s.size:=rfl
 have h2 : ¬ (1 <= s.data.toList.length /\ s.data.toList.length <= 12):=by omega
 simp only [gn,gnl,decide_eq_false h2,Bool.false_and]
theorem head_at (s : ByteArray) (h : 0 < s.size) : s.data.toList.headD 0 = s[0]:=by
 have h' : 0 < s.data.toList.length:=h
 cases e : s.data.toList with
 | nil=>rw [e] at h';simp at h'
 | cons a t=>
   have : s[0] = s.data.toList[0]'h':=rfl
   rw [this];simp [e]
theorem gn_head {s : ByteArray} (h : 0 < s.size) (hs : sl (s[0].toNat : Int) = false) : gn s = false:=by
 simp only [gn,gnl,head_at s h,hs,Bool.false_and,Bool.and_false]
theorem gn_byte {s : ByteArray} (k : Nat) (h : k < s.size) (hs : wb (s[k].toNat : Int) = false) : gn s = false:=by
 have hm : s[k] ∈ s.data.toList:=by
  have : s[k] = s.data.toList[k]'h:=rfl
  rw [this];exact List.getElem_mem _
 have : s.data.toList.all (fun b=>wb (b.toNat : Int)) = false:=by
  rw [List.all_eq_false];exact ⟨_,hm,by simp [hs]⟩
 simp only [gn,gnl,this,Bool.false_and,Bool.and_false]
theorem gn_end {s : ByteArray} (h1 : 1 <= s.size) (h2 : s.size <= 12) (h0 : sl ((s[0]'(by omega)).toNat : Int) = true)
  (ha : ∀ j (h : j < s.size),wb (s[j].toNat : Int) = true) : gn s = !rsv s.toList:=by
 have hl : s.data.toList.length = s.size:=rfl
 have hall : s.data.toList.all (fun b=>wb (b.toNat : Int)) = true:=by
  rw [List.all_eq_true];intro b hb
  obtain ⟨j,hj,rfl⟩:=List.getElem_of_mem hb
  exact ha j (by omega)
 have hd : decide (1 <= s.data.toList.length /\ s.data.toList.length <= 12) = true:=by simp only [decide_eq_true_eq];omega
 simp only [gn,gnl,hd,head_at s (by omega),h0,hall,Bool.true_and,ByteArray.toList_eq]
def lt (a b : ByteArray) : Bool:=Op.bytesLess a.toList b.toList
theorem bl_append (p x y : List UInt8) : Op.bytesLess (p ++ x) (p ++ y) = Op.bytesLess x y:=by
 induction p with
 | nil=>rfl
 | cons c p ih=>
   have : ¬ c < c:=by intro h;exact absurd h (by simp)
   simp [Op.bytesLess,ih]
theorem split_at (a : ByteArray) (k : Nat) : a.toList = a.data.toList.take k ++ a.data.toList.drop k:=by
 rw [ByteArray.toList_eq,List.take_append_drop]
theorem take_eq {a b : ByteArray} {k : Nat} (ha : k <= a.size) (hb : k <= b.size) (h : ∀ j (h1 : j < a.size) (h2 : j < b.size),j < k -> a[j] = b[j]) :
  a.data.toList.take k = b.data.toList.take k:=by
 have la : a.data.toList.length = a.size:=rfl
 have lb : b.data.toList.length = b.size:=rfl
 apply List.ext_getElem
 ·simp only [List.length_take];omega
 ·intro j h1 h2
  simp only [List.length_take] at h1 h2
  rw [List.getElem_take,List.getElem_take]
  exact h j (by omega) (by omega) (by omega)
theorem lt_at {a b : ByteArray} {k : Nat} (ha : k < a.size) (hb : k < b.size) (h : ∀ j (h1 : j < a.size) (h2 : j < b.size),j < k -> a[j] = b[j]) (hne : a[k] ≠ b[k]) :
  lt a b = decide ((a[k].toNat : Int) < (b[k].toNat : Int)):=by
 have la : a.data.toList.length = a.size:=rfl
 have lb : b.data.toList.length = b.size:=rfl
 have ea : a.data.toList[k]'(by omega) = a[k]:=rfl
 have eb : b.data.toList[k]'(by omega) = b[k]:=rfl
 unfold lt
 rw [split_at a k,split_at b k,take_eq (by omega) (by omega) h,bl_append,List.drop_eq_getElem_cons (by omega),List.drop_eq_getElem_cons (l:=b.data.toList) (by omega),ea,eb]
 have hne' : (a[k] == b[k]) = false:=by simpa using hne
 rw [Op.bytesLess,hne',Bool.false_and,Bool.or_false]
 rw [decide_eq_decide,UInt8.lt_iff_toNat_lt];omega
theorem lt_end {a b : ByteArray} {k : Nat} (ha : k <= a.size) (hb : k <= b.size) (h : ∀ j (h1 : j < a.size) (h2 : j < b.size),j < k -> a[j] = b[j]) (he : k = a.size \/ k = b.size) :
  lt a b = decide ((a.size : Int) < (b.size : Int)):=by
 have la : a.data.toList.length = a.size:=rfl
 have lb : b.data.toList.length = b.size:=rfl
 unfold lt
 rw [split_at a k,split_at b k,take_eq (by omega) (by omega) h,bl_append]
 by_cases h1 : k = a.size
 ·rw [List.drop_of_length_le (l:=a.data.toList) (by omega)]
  by_cases h2 : k = b.size
  ·rw [List.drop_of_length_le (l:=b.data.toList) (by omega),decide_eq_false (by omega)];rfl
  ·rw [List.drop_eq_getElem_cons (l:=b.data.toList) (by omega),decide_eq_true (by omega)];rfl
 ·have h2 : k = b.size:=by omega
  rw [List.drop_of_length_le (l:=b.data.toList) (by omega),List.drop_eq_getElem_cons (l:=a.data.toList) (by omega),decide_eq_false (by omega)];rfl
def allTo (n : Nat) (p : Nat -> Bool) : Bool:=(List.range n).all p
theorem allTo_true {n : Nat} {p : Nat -> Bool} (h : ∀ j,j < n -> p j = true) : allTo n p = true:=by
 unfold allTo;rw [List.all_eq_true];intro j hj;exact h j (List.mem_range.1 hj)
theorem allTo_false {n : Nat} {p : Nat -> Bool} (k : Nat) (hk : k < n) (h : p k = false) : allTo n p = false:=by
 unfold allTo;rw [List.all_eq_false];exact ⟨k,List.mem_range.2 hk,by simp [h]⟩
def gio (n : Nat) (S : Nat -> ByteArray) : Bool:=allTo n fun i=>gn (S i) && (decide (i = 0) || lt (S (i - 1)) (S i))
def kok (n : Nat) (D : Nat -> Int) (N : Int) : Bool:=allTo n fun i=>decide (0 <= D i /\ D i < N)
structure ND where
 kind : Int
 nn : Nat
 nm : Nat -> ByteArray
 nk : Nat
 kd : Nat -> Int
def shp (d : ND) : Bool:=
 if d.kind = 4 then decide (d.nn = 0 /\ d.nk = 2) else
 if d.kind = 3 then decide (d.nn = d.nk) && gio d.nn d.nm else
 if d.kind = 0 \/ d.kind = 1 \/ d.kind = 2 then decide (d.nn = 0 /\ d.nk = 0) else false
def nok (d : ND) (N : Int) : Bool:=shp d && kok d.nk d.kd N
def vgr (N : Nat) (G : Nat -> ND) : Bool:=decide (N <= 4000) && allTo N fun i=>nok (G i) N
/-! ### counting -/
theorem nodup_len {α : Type} [BEq α] [LawfulBEq α] : ∀ {l l' : List α},l.Nodup -> (∀ x,x ∈ l -> x ∈ l') -> l.length <= l'.length
 | [],_,_,_=>Nat.zero_le _
 | x :: t,l',hn,hs=>by
   have hx : x ∈ l':=hs x (List.mem_cons_self)
   have hn':=List.nodup_cons.1 hn
   have ht : ∀ y,y ∈ t -> y ∈ l'.erase x:=fun y hy=>by
    have hne : y ≠ x:=fun e=>hn'.1 (e ▸ hy)
    exact (List.mem_erase_of_ne hne).2 (hs y (List.mem_cons_of_mem _ hy))
   have:=nodup_len hn'.2 ht
   rw [List.length_erase_of_mem hx] at this
   have hp : 0 < l'.length:=List.length_pos_of_mem hx
   simp only [List.length_cons]
   omega
theorem onto_le {k m : Nat} {f : Nat -> Nat} (h : ∀ v,v < k -> ∃ u,u < m /\ f u = v) : k <= m:=by
 have:=nodup_len (l:=List.range k) (l':=(List.range m).map f) List.nodup_range (fun v hv=>by
  obtain ⟨u,hu,e⟩:=h v (List.mem_range.1 hv)
  exact List.mem_map.2 ⟨u,List.mem_range.2 hu,e⟩)
 simpa using this
theorem onto_inj {k : Nat} {f : Nat -> Nat} (h : ∀ v,v < k -> ∃ u,u < k /\ f u = v) {a b : Nat} (ha : a < k) (hb : b < k) (e : f a = f b) : a = b:=by
 by_cases hab : a = b
 ·exact hab
 exfalso
 have:=nodup_len (l:=List.range k) (l':=((List.range k).erase a).map f) List.nodup_range (fun v hv=>by
  obtain ⟨u,hu,e'⟩:=h v (List.mem_range.1 hv)
  by_cases hua : u = a
  ·exact List.mem_map.2 ⟨b,(List.mem_erase_of_ne (fun x=>hab x.symm)).2 (List.mem_range.2 hb),by rw [<- e,<- hua];exact e'⟩
  ·exact List.mem_map.2 ⟨u,(List.mem_erase_of_ne hua).2 (List.mem_range.2 hu),e'⟩)
 rw [List.length_map,List.length_erase_of_mem (List.mem_range.2 ha),List.length_range] at this
 omega
/-! ### same types -/
def kid (d : ND) (j : Nat) : Nat:=(d.kd j).toNat
structure Lab (x y : ND) : Prop where
 kind : x.kind = y.kind
 nn : x.nn = y.nn
 nm : ∀ j,j < x.nn -> x.nm j = y.nm j
 nk : x.nk = y.nk
theorem Lab.refl (x : ND) : Lab x x:=⟨rfl,rfl,fun _ _=>rfl,rfl⟩
theorem Lab.symm {x y : ND} (h : Lab x y) : Lab y x:=⟨h.kind.symm,h.nn.symm,fun j hj=>(h.nm j (by rw [h.nn];exact hj)).symm,h.nk.symm⟩
theorem Lab.trans {x y z : ND} (h : Lab x y) (k : Lab y z) : Lab x z:=
 ⟨h.kind.trans k.kind,h.nn.trans k.nn,fun j hj=>(h.nm j hj).trans (k.nm j (by rw [<- h.nn];exact hj)),h.nk.trans k.nk⟩
def Kids (N : Nat) (G : Nat -> ND) : Prop:=∀ i,i < N -> ∀ j,j < (G i).nk -> 0 <= (G i).kd j /\ (G i).kd j < N
theorem Kids.lt {N : Nat} {G : Nat -> ND} (h : Kids N G) {i j : Nat} (hi : i < N) (hj : j < (G i).nk) : kid (G i) j < N:=by
 have:=h i hi j hj;unfold kid;omega
def Bis (N : Nat) (G : Nat -> ND) (R : Nat -> Nat -> Prop) : Prop:=
 ∀ a b,a < N -> b < N -> R a b -> Lab (G a) (G b) /\ ∀ j,j < (G a).nk -> R (kid (G a) j) (kid (G b) j)
def Same (N : Nat) (G : Nat -> ND) (a b : Nat) : Prop:=∃ R,Bis N G R /\ R a b
theorem Same.lab {N : Nat} {G : Nat -> ND} {a b : Nat} (ha : a < N) (hb : b < N) (h : Same N G a b) : Lab (G a) (G b):=by
 obtain ⟨R,hR,hab⟩:=h;exact (hR a b ha hb hab).1
theorem Same.kid {N : Nat} {G : Nat -> ND} {a b j : Nat} (ha : a < N) (hb : b < N) (h : Same N G a b) (hj : j < (G a).nk) : Same N G (kid (G a) j) (kid (G b) j):=by
 obtain ⟨R,hR,hab⟩:=h;exact ⟨R,hR,(hR a b ha hb hab).2 j hj⟩
/-! ### the rounds -/
structure Alike (G : Nat -> ND) (cl : Nat -> Nat) (a b : Nat) : Prop where
 lab : Lab (G a) (G b)
 kids : ∀ j,j < (G a).nk -> cl (kid (G a) j) = cl (kid (G b) j)
theorem Alike.refl (G : Nat -> ND) (cl : Nat -> Nat) (a : Nat) : Alike G cl a a:=⟨Lab.refl _,fun _ _=>rfl⟩
theorem Alike.symm {G : Nat -> ND} {cl : Nat -> Nat} {a b : Nat} (h : Alike G cl a b) : Alike G cl b a:=⟨h.lab.symm,fun j hj=>(h.kids j (by rw [h.lab.nk];exact hj)).symm⟩
theorem Alike.trans {G : Nat -> ND} {cl : Nat -> Nat} {a b c : Nat} (h : Alike G cl a b) (k : Alike G cl b c) : Alike G cl a c:=
 ⟨h.lab.trans k.lab,fun j hj=>(h.kids j hj).trans (k.kids j (by rw [<- h.lab.nk];exact hj))⟩
def Eqv (G : Nat -> ND) (cl : Nat -> Nat) (a b : Nat) : Prop:=cl a = cl b /\ Alike G cl a b
theorem Eqv.symm {G : Nat -> ND} {cl : Nat -> Nat} {a b : Nat} (h : Eqv G cl a b) : Eqv G cl b a:=⟨h.1.symm,h.2.symm⟩
theorem Eqv.trans {G : Nat -> ND} {cl : Nat -> Nat} {a b c : Nat} (h : Eqv G cl a b) (k : Eqv G cl b c) : Eqv G cl a c:=⟨h.1.trans k.1,h.2.trans k.2⟩
theorem Eqv.refl (G : Nat -> ND) (cl : Nat -> Nat) (a : Nat) : Eqv G cl a a:=⟨rfl,Alike.refl _ _ _⟩
structure Part (G : Nat -> ND) (cl : Nat -> Nat) (i : Nat) (nx : Nat -> Nat) (cnt : Nat) (f : Nat -> Nat) : Prop where
 lt : ∀ a,a < i -> nx a < cnt
 eqv : ∀ a,a < i -> Eqv G cl (f (nx a)) a
 first : ∀ c,c < cnt -> f c < i /\ nx (f c) = c
 apart : ∀ c c',c < cnt -> c' < cnt -> Eqv G cl (f c) (f c') -> c = c'
theorem Part.zero (G : Nat -> ND) (cl nx f : Nat -> Nat) : Part G cl 0 nx 0 f:=
 ⟨fun _ h=>absurd h (Nat.not_lt_zero _),fun _ h=>absurd h (Nat.not_lt_zero _),fun _ h=>absurd h (Nat.not_lt_zero _),fun _ _ h=>absurd h (Nat.not_lt_zero _)⟩
theorem Part.old {G : Nat -> ND} {cl nx f : Nat -> Nat} {i cnt c : Nat} (h : Part G cl i nx cnt f) (hc : c < cnt) (he : Eqv G cl (f c) i) :
  Part G cl (i + 1) (fun a=>if a = i then c else nx a) cnt f:=by
 refine ⟨fun a ha=>?_,fun a ha=>?_,fun d hd=>?_,h.apart⟩
 ·by_cases e : a = i
  ·rw [if_pos e];exact hc
  ·rw [if_neg e];exact h.lt a (by omega)
 ·by_cases e : a = i
  ·subst e;rw [if_pos rfl];exact he
  ·rw [if_neg e];exact h.eqv a (by omega)
 ·have:=h.first d hd
  exact ⟨by omega,by rw [if_neg (by omega)];exact this.2⟩
theorem Part.fresh {G : Nat -> ND} {cl nx f : Nat -> Nat} {i cnt : Nat} (h : Part G cl i nx cnt f) (he : ∀ c,c < cnt -> ¬ Eqv G cl (f c) i) :
  Part G cl (i + 1) (fun a=>if a = i then cnt else nx a) (cnt + 1) (fun c=>if c = cnt then i else f c):=by
 refine ⟨fun a ha=>?_,fun a ha=>?_,fun d hd=>?_,fun d d' hd hd' hh=>?_⟩
 ·by_cases e : a = i
  ·rw [if_pos e];omega
  ·rw [if_neg e];have:=h.lt a (by omega);omega
 ·by_cases e : a = i
  ·subst e;simp only [if_true];exact Eqv.refl _ _ _
  ·have:=h.lt a (by omega)
   simp only [if_neg e];rw [if_neg (by omega)];exact h.eqv a (by omega)
 ·by_cases e : d = cnt
  ·subst e;simp
  ·have:=h.first d (by omega)
   simp only [if_neg e]
   exact ⟨by omega,by rw [if_neg (by omega)];exact this.2⟩
 ·by_cases e : d = cnt
  ·by_cases e' : d' = cnt
   ·omega
   ·simp only [if_pos e,if_neg e'] at hh
    exact absurd hh.symm (he d' (by omega))
  ·by_cases e' : d' = cnt
   ·simp only [if_neg e,if_pos e'] at hh
    exact absurd hh (he d (by omega))
   ·simp only [if_neg e,if_neg e'] at hh
    exact h.apart d d' (by omega) (by omega) hh
theorem Part.iff {G : Nat -> ND} {cl nx f : Nat -> Nat} {i cnt : Nat} (h : Part G cl i nx cnt f) {a b : Nat} (ha : a < i) (hb : b < i) : nx a = nx b ↔ Eqv G cl a b:=by
 constructor
 ·intro e
  have h1:=h.eqv a ha
  rw [e] at h1
  exact h1.symm.trans (h.eqv b hb)
 ·intro e
  exact h.apart _ _ (h.lt a ha) (h.lt b hb) ((h.eqv a ha).trans (e.trans (h.eqv b hb).symm))
structure Rnd (N : Nat) (G : Nat -> ND) (cl : Nat -> Nat) (r count : Nat) : Prop where
 same : ∀ a b,a < N -> b < N -> Same N G a b -> cl a = cl b
 lt : 0 < r -> ∀ a,a < N -> cl a < count
 onto : 0 < r -> ∀ v,v < count -> ∃ a,a < N /\ cl a = v
 many : 0 < r -> 0 < N -> r <= count
theorem Rnd.start (N : Nat) (G : Nat -> ND) : Rnd N G (fun _=>0) 0 1:=
 ⟨fun _ _ _ _ _=>rfl,fun h=>absurd h (Nat.lt_irrefl _),fun h=>absurd h (Nat.lt_irrefl _),fun h=>absurd h (Nat.lt_irrefl _)⟩
theorem Rnd.sames {N : Nat} {G : Nat -> ND} {cl nx f : Nat -> Nat} {r count cnt : Nat} (hK : Kids N G) (h : Rnd N G cl r count) (p : Part G cl N nx cnt f) :
  ∀ a b,a < N -> b < N -> Same N G a b -> nx a = nx b:=fun a b ha hb hs=>
 (p.iff ha hb).2 ⟨h.same a b ha hb hs,hs.lab ha hb,fun j hj=>h.same _ _ (hK.lt ha hj) (hK.lt hb (by rw [<- (hs.lab ha hb).nk];exact hj)) (hs.kid ha hb hj)⟩
theorem Part.onto {G : Nat -> ND} {cl nx f : Nat -> Nat} {N cnt : Nat} (p : Part G cl N nx cnt f) : ∀ v,v < cnt -> ∃ a,a < N /\ nx a = v:=fun v hv=>⟨f v,(p.first v hv).1,(p.first v hv).2⟩
theorem Rnd.grow {N : Nat} {G : Nat -> ND} {cl nx f : Nat -> Nat} {r count cnt : Nat} (h : Rnd N G cl r count) (hr : 0 < r) (p : Part G cl N nx cnt f) : ∀ v,v < count -> ∃ u,u < cnt /\ cl (f u) = v:=fun v hv=>by
 obtain ⟨a,ha,e⟩:=h.onto hr v hv
 exact ⟨nx a,p.lt a ha,by rw [(p.eqv a ha).1];exact e⟩
theorem Rnd.done {N : Nat} {G : Nat -> ND} {cl nx f : Nat -> Nat} {r count cnt : Nat} (hK : Kids N G) (h : Rnd N G cl r count) (hr : 0 < r) (p : Part G cl N nx cnt f) (he : cnt = count) :
  ∀ a b,a < N -> b < N -> (nx a = nx b ↔ Same N G a b):=by
 subst he
 have back : ∀ a b,a < N -> b < N -> cl a = cl b -> nx a = nx b:=fun a b ha hb e=>by
  refine onto_inj (f:=fun u=>cl (f u)) (h.grow hr p) (p.lt a ha) (p.lt b hb) ?_
  show cl (f (nx a)) = cl (f (nx b))
  rw [(p.eqv a ha).1,(p.eqv b hb).1,e]
 refine fun a b ha hb=>⟨fun e=>⟨fun x y=>nx x = nx y,fun x y hx hy hxy=>?_,e⟩,h.sames hK p a b ha hb⟩
 have q:=(p.iff hx hy).1 hxy
 exact ⟨q.2.lab,fun j hj=>back _ _ (hK.lt hx hj) (hK.lt hy (by rw [<- q.2.lab.nk];exact hj)) (q.2.kids j hj)⟩
theorem Rnd.next {N : Nat} {G : Nat -> ND} {cl nx f : Nat -> Nat} {r count cnt : Nat} (hK : Kids N G) (h : Rnd N G cl r count) (p : Part G cl N nx cnt f) (he : ¬ (cnt = count /\ 0 < r)) : Rnd N G nx (r + 1) cnt:=by
 refine ⟨h.sames hK p,fun _=>p.lt,fun _=>p.onto,fun _ hN=>?_⟩
 by_cases hr : 0 < r
 ·have:=onto_le (h.grow hr p)
  have:=h.many hr hN
  omega
 ·have:=p.lt 0 hN
  omega
theorem Rnd.last {N : Nat} {G : Nat -> ND} {cl : Nat -> Nat} {count : Nat} (h : Rnd N G cl (N + 1) count) : N = 0:=by
 by_cases hN : N = 0
 ·exact hN
 have h1:=h.many (by omega) (by omega)
 have h2:=onto_le (h.onto (by omega))
 omega
structure UF (N : Nat) (L ρ d : Nat -> Nat) : Prop where
 lt : ∀ n,n < N -> L n < N
 rt : ∀ n,n < N -> ρ (L n) = ρ n
 fix : ∀ n,n < N -> L n = n -> ρ n = n
 dn : ∀ n,n < N -> L n ≠ n -> d (L n) < d n
theorem UF.start (N : Nat) : UF N (fun n=>n) (fun n=>n) (fun _=>0):=⟨fun _ h=>h,fun _ _=>rfl,fun _ _ _=>rfl,fun _ _ h=>absurd rfl h⟩
theorem UF.halve {N : Nat} {L ρ d : Nat -> Nat} (h : UF N L ρ d) {n : Nat} (hn : n < N) : UF N (fun x=>if x = n then L (L n) else L x) ρ d:=by
 refine ⟨fun x hx=>?_,fun x hx=>?_,fun x hx e=>?_,fun x hx e=>?_⟩
 ·by_cases q : x = n
  ·rw [if_pos q];exact h.lt _ (h.lt _ hn)
  ·rw [if_neg q];exact h.lt x hx
 ·by_cases q : x = n
  ·subst q;rw [if_pos rfl,h.rt _ (h.lt _ hn),h.rt _ hn]
  ·rw [if_neg q];exact h.rt x hx
 ·by_cases q : x = n
  ·subst q
   rw [if_pos rfl] at e
   refine h.fix x hx ?_
   by_cases e1 : L x = x
   ·exact e1
   ·exfalso
    have h1:=h.dn x hx e1
    by_cases e2 : L (L x) = L x
    ·rw [e2] at e;exact e1 e
    ·have h2:=h.dn (L x) (h.lt x hx) e2
     rw [e] at h2;omega
  ·rw [if_neg q] at e;exact h.fix x hx e
 ·by_cases q : x = n
  ·subst q
   rw [if_pos rfl] at e ⊢
   by_cases e1 : L x = x
   ·rw [e1,e1] at e;exact absurd rfl e
   ·have h1:=h.dn x hx e1
    by_cases e2 : L (L x) = L x
    ·rw [e2];exact h1
    ·have h2:=h.dn (L x) (h.lt x hx) e2;omega
  ·rw [if_neg q] at e ⊢;exact h.dn x hx e
def join (ρ : Nat -> Nat) (a b : Nat) : Nat -> Nat:=fun n=>if ρ n = a then b else ρ n
theorem UF.merge {N : Nat} {L ρ d : Nat -> Nat} (h : UF N L ρ d) {a b : Nat} (ha : a < N) (hb : b < N) (la : L a = a) (lb : L b = b) (hne : a ≠ b) :
  UF N (fun x=>if x = a then b else L x) (join ρ a b) (fun n=>if ρ n = a then d n + d b + 1 else d n):=by
 have ra:=h.fix a ha la
 have rb:=h.fix b hb lb
 refine ⟨fun x hx=>?_,fun x hx=>?_,fun x hx e=>?_,fun x hx e=>?_⟩
 ·by_cases q : x = a
  ·rw [if_pos q];exact hb
  ·rw [if_neg q];exact h.lt x hx
 ·unfold join
  by_cases q : x = a
  ·subst q;rw [if_pos rfl,rb,ra,if_pos rfl,if_neg (fun e=>hne e.symm)]
  ·rw [if_neg q,h.rt x hx]
 ·unfold join
  by_cases q : x = a
  ·rw [if_pos q] at e;exact absurd (q.symm.trans e.symm) hne
  ·rw [if_neg q] at e
   have:=h.fix x hx e
   rw [this,if_neg q]
 ·by_cases q : x = a
  ·subst q
   simp only [if_true,rb,ra]
   rw [if_neg (fun e=>hne e.symm)];omega
  ·simp only [if_neg q] at e ⊢
   have h1:=h.dn x hx e
   rw [h.rt x hx]
   by_cases q2 : ρ x = a
   ·rw [if_pos q2,if_pos q2];omega
   ·rw [if_neg q2,if_neg q2];exact h1
def addP (ord : List (Nat × Nat)) (p : Nat × Nat) : List (Nat × Nat):=if ord.contains p then ord else ord ++ [p]
theorem mem_addP {ord : List (Nat × Nat)} {p q : Nat × Nat} : q ∈ addP ord p ↔ q ∈ ord \/ q = p:=by
 unfold addP
 by_cases h : ord.contains p
 ·rw [if_pos h]
  have : p ∈ ord:=by simpa using h
  exact ⟨Or.inl,fun x=>x.elim id (fun e=>e ▸ this)⟩
 ·rw [if_neg h];simp
theorem addP_nodup {ord : List (Nat × Nat)} {p : Nat × Nat} (h : ord.Nodup) : (addP ord p).Nodup:=by
 unfold addP
 by_cases hc : ord.contains p
 ·rw [if_pos hc];exact h
 ·rw [if_neg hc]
  have hn : p ∉ ord:=by simpa using hc
  rw [List.nodup_append]
  exact ⟨h,by simp,fun x hx y hy=>by simp at hy;subst hy;exact fun e=>hn (e ▸ hx)⟩
theorem addP_get {ord : List (Nat × Nat)} {p : Nat × Nat} {j : Nat} (hj : j < ord.length) : (addP ord p)[j]? = ord[j]?:=by
 unfold addP
 by_cases hc : ord.contains p
 ·rw [if_pos hc]
 ·rw [if_neg hc,List.getElem?_append_left hj]
theorem addP_le (ord : List (Nat × Nat)) (p : Nat × Nat) : ord.length <= (addP ord p).length /\ (addP ord p).length <= ord.length + 1:=by
 unfold addP
 by_cases hc : ord.contains p
 ·rw [if_pos hc];omega
 ·rw [if_neg hc];simp
structure Inv (N : Nat) (G : Nat -> ND) (a0 b0 : Nat) (ord : List (Nat × Nat)) (i : Nat) (ρ : Nat -> Nat) (M : List (Nat × Nat)) : Prop where
 bound : ∀ q,q ∈ ord -> q.1 < N /\ q.2 < N
 nodup : ord.Nodup
 first : (a0,b0) ∈ ord
 forced : Same N G a0 b0 -> ∀ q,q ∈ ord -> Same N G q.1 q.2
 joined : ∀ j,j < i -> ∀ q,ord[j]? = some q -> ρ q.1 = ρ q.2
 gen : ∀ R : Nat -> Nat -> Prop,(∀ x,R x x) -> (∀ x y,R x y -> R y x) -> (∀ x y z,R x y -> R y z -> R x z) -> (∀ q,q ∈ M -> R q.1 q.2) -> ∀ x y,x < N -> y < N -> ρ x = ρ y -> R x y
 kids : ∀ q,q ∈ M -> Lab (G q.1) (G q.2) /\ ∀ j,j < (G q.1).nk -> (kid (G q.1) j,kid (G q.2) j) ∈ ord
theorem Inv.start {N : Nat} {G : Nat -> ND} {a b : Nat} (ha : a < N) (hb : b < N) : Inv N G a b [(a,b)] 0 (fun n=>n) []:=
 ⟨fun q h=>by simp at h;subst h;exact ⟨ha,hb⟩,by simp,by simp,fun hs q h=>by simp at h;subst h;exact hs,fun j h=>absurd h (Nat.not_lt_zero _),
  fun R hr _ _ _ x y _ _ e=>by subst e;exact hr x,fun q h=>by simp at h⟩
theorem sum_same {α : Type} (c : Nat) : ∀ l : List α,(l.map fun _=>c).sum = l.length * c
 | []=>by simp
 | _ :: t=>by rw [List.map_cons,List.sum_cons,sum_same c t,List.length_cons,Nat.add_mul];omega
theorem pairs_len (N : Nat) : ((List.range N).flatMap fun x=>(List.range N).map fun y=>(x,y)).length = N * N:=by
 rw [List.length_flatMap]
 simp only [List.length_map,List.length_range]
 rw [sum_same,List.length_range]
theorem Inv.len {N : Nat} {G : Nat -> ND} {a0 b0 i : Nat} {ord M : List (Nat × Nat)} {ρ : Nat -> Nat} (h : Inv N G a0 b0 ord i ρ M) : ord.length <= N * N:=by
 rw [<- pairs_len N]
 refine nodup_len h.nodup (fun q hq=>?_)
 have:=h.bound q hq
 exact List.mem_flatMap.2 ⟨q.1,List.mem_range.2 this.1,List.mem_map.2 ⟨q.2,List.mem_range.2 this.2,rfl⟩⟩
theorem Inv.known {N : Nat} {G : Nat -> ND} {a0 b0 i : Nat} {ord M : List (Nat × Nat)} {ρ : Nat -> Nat} (h : Inv N G a0 b0 ord i ρ M) {q : Nat × Nat} (hq : ord[i]? = some q) (e : ρ q.1 = ρ q.2) : Inv N G a0 b0 ord (i + 1) ρ M:=
 ⟨h.bound,h.nodup,h.first,h.forced,fun j hj x hx=>by
  by_cases q2 : j = i
  ·subst q2;rw [hq] at hx;cases hx;exact e
  ·exact h.joined j (by omega) x hx,h.gen,h.kids⟩
theorem Inv.apart {N : Nat} {G : Nat -> ND} {a0 b0 i : Nat} {ord M : List (Nat × Nat)} {ρ : Nat -> Nat} (h : Inv N G a0 b0 ord i ρ M) {q : Nat × Nat} (hq : ord[i]? = some q) (hl : ¬ Lab (G q.1) (G q.2)) : ¬ Same N G a0 b0:=fun hs=>by
 have hm : q ∈ ord:=List.mem_of_getElem? hq
 exact hl ((h.forced hs q hm).lab (h.bound q hm).1 (h.bound q hm).2)
def addKids (x y : ND) (ord : List (Nat × Nat)) : Nat -> List (Nat × Nat)
 | 0=>ord
 | k + 1=>addP (addKids x y ord k) (kid x k,kid y k)
theorem mem_addKids {x y : ND} {ord : List (Nat × Nat)} {q : Nat × Nat} : ∀ {k : Nat},q ∈ addKids x y ord k ↔ q ∈ ord \/ ∃ j,j < k /\ q = (kid x j,kid y j)
 | 0=>by simp [addKids]
 | k + 1=>by
   unfold addKids
   rw [mem_addP,mem_addKids]
   constructor
   ·rintro ((h | ⟨j,hj,e⟩) | e)
    ·exact Or.inl h
    ·exact Or.inr ⟨j,by omega,e⟩
    ·exact Or.inr ⟨k,by omega,e⟩
   ·rintro (h | ⟨j,hj,e⟩)
    ·exact Or.inl (Or.inl h)
    ·by_cases q2 : j = k
     ·subst q2;exact Or.inr e
     ·exact Or.inl (Or.inr ⟨j,by omega,e⟩)
theorem addKids_nodup {x y : ND} {ord : List (Nat × Nat)} (h : ord.Nodup) : ∀ k,(addKids x y ord k).Nodup
 | 0=>h
 | k + 1=>addP_nodup (addKids_nodup h k)
theorem addKids_le (x y : ND) (ord : List (Nat × Nat)) : ∀ k,ord.length <= (addKids x y ord k).length /\ (addKids x y ord k).length <= ord.length + k
 | 0=>by simp [addKids]
 | k + 1=>by
   have h1:=addKids_le x y ord k
   have h2:=addP_le (addKids x y ord k) (kid x k,kid y k)
   simp only [addKids];omega
theorem addKids_get {x y : ND} {ord : List (Nat × Nat)} {j : Nat} (hj : j < ord.length) : ∀ k,(addKids x y ord k)[j]? = ord[j]?
 | 0=>rfl
 | k + 1=>by
   simp only [addKids]
   rw [addP_get (by have:=addKids_le x y ord k;omega)]
   exact addKids_get hj k
theorem Inv.merged {N : Nat} {G : Nat -> ND} {a0 b0 i : Nat} {ord M : List (Nat × Nat)} {ρ : Nat -> Nat} (hK : Kids N G) (h : Inv N G a0 b0 ord i ρ M) {q : Nat × Nat} (hq : ord[i]? = some q) (hl : Lab (G q.1) (G q.2)) (hne : ρ q.1 ≠ ρ q.2) :
  Inv N G a0 b0 (addKids (G q.1) (G q.2) ord (G q.1).nk) (i + 1) (join ρ (ρ q.1) (ρ q.2)) (q :: M):=by
 have hm : q ∈ ord:=List.mem_of_getElem? hq
 have hb:=h.bound q hm
 have hil : i < ord.length:=by
  obtain ⟨hlt,_⟩:=List.getElem?_eq_some_iff.1 hq;exact hlt
 refine ⟨fun x hx=>?_,addKids_nodup h.nodup _,mem_addKids.2 (Or.inl h.first),fun hs x hx=>?_,fun j hj x hx=>?_,fun R h1 h2 h3 h4 x y hx hy e=>?_,fun x hx=>?_⟩
 ·rcases mem_addKids.1 hx with hx | ⟨j,hj,rfl⟩
  ·exact h.bound x hx
  ·exact ⟨hK.lt hb.1 hj,hK.lt hb.2 (by rw [<- hl.nk];exact hj)⟩
 ·rcases mem_addKids.1 hx with hx | ⟨j,hj,rfl⟩
  ·exact h.forced hs x hx
  ·exact (h.forced hs q hm).kid hb.1 hb.2 hj
 ·rw [addKids_get (by omega)] at hx
  unfold join
  by_cases q2 : j = i
  ·subst q2
   rw [hq] at hx;cases hx
   rw [if_pos rfl,if_neg (fun e=>hne e.symm)]
  ·rw [h.joined j (by omega) x hx]
 ·have hM : ∀ z,z ∈ M -> R z.1 z.2:=fun z hz=>h4 z (List.mem_cons_of_mem _ hz)
  have hq0 : R q.1 q.2:=h4 q List.mem_cons_self
  have g:=h.gen R h1 h2 h3 hM
  unfold join at e
  by_cases ex : ρ x = ρ q.1
  ·rw [if_pos ex] at e
   by_cases ey : ρ y = ρ q.1
   ·exact g x y hx hy (ex.trans ey.symm)
   ·rw [if_neg ey] at e
    exact h3 _ _ _ (g x q.1 hx hb.1 ex) (h3 _ _ _ hq0 (g q.2 y hb.2 hy e))
  ·rw [if_neg ex] at e
   by_cases ey : ρ y = ρ q.1
   ·rw [if_pos ey] at e
    exact h3 _ _ _ (g x q.2 hx hb.2 e) (h3 _ _ _ (h2 _ _ hq0) (g q.1 y hb.1 hy ey.symm))
   ·rw [if_neg ey] at e
    exact g x y hx hy e
 ·rcases List.mem_cons.1 hx with rfl | hx
  ·exact ⟨hl,fun j hj=>mem_addKids.2 (Or.inr ⟨j,hj,rfl⟩)⟩
  ·exact ⟨(h.kids x hx).1,fun j hj=>mem_addKids.2 (Or.inl ((h.kids x hx).2 j hj))⟩
theorem Inv.done {N : Nat} {G : Nat -> ND} {a0 b0 i : Nat} {ord M : List (Nat × Nat)} {ρ : Nat -> Nat} (h : Inv N G a0 b0 ord i ρ M) (hi : ord.length <= i) : Same N G a0 b0:=by
 have hj : ∀ q,q ∈ ord -> ρ q.1 = ρ q.2:=fun q hq=>by
  obtain ⟨j,hj,e⟩:=List.getElem_of_mem hq
  exact h.joined j (by omega) q (by rw [List.getElem?_eq_getElem hj,e])
 have hb0:=h.bound _ h.first
 refine ⟨fun x y=>ρ x = ρ y,fun x y hx hy e=>?_,hj _ h.first⟩
 exact h.gen (fun x y=>Lab (G x) (G y) /\ ∀ j,j < (G x).nk -> ρ (kid (G x) j) = ρ (kid (G y) j)) (fun x=>⟨Lab.refl _,fun _ _=>rfl⟩)
  (fun x y hxy=>⟨hxy.1.symm,fun j hj=>(hxy.2 j (by rw [hxy.1.nk];exact hj)).symm⟩)
  (fun x y z hxy hyz=>⟨hxy.1.trans hyz.1,fun j hj=>(hxy.2 j hj).trans (hyz.2 j (by rw [<- hxy.1.nk];exact hj))⟩)
  (fun q hq=>⟨(h.kids q hq).1,fun j hj'=>hj _ ((h.kids q hq).2 j hj')⟩) x y hx hy e
def stands (cl : Nat -> Nat) (st : List Nat) (n : Nat) : Bool:=st.any fun s=>cl s == cl n
theorem stands_iff {cl : Nat -> Nat} {st : List Nat} {n : Nat} : stands cl st n = true ↔ ∃ s,s ∈ st /\ cl s = cl n:=by
 unfold stands;simp
def vis (G : Nat -> ND) (cl : Nat -> Nat) : Nat -> List Nat -> Nat -> List Nat
 | 0,st,_=>st
 | f + 1,st,n=>if stands cl st n then st else (List.range (G n).nk).foldl (fun s j=>vis G cl f s (kid (G n) j)) (st ++ [n])
theorem foldl_keeps {α β : Type} {Q : β -> Prop} {g : β -> α -> β} : ∀ (l : List α) (b : β),Q b -> (∀ c x,x ∈ l -> Q c -> Q (g c x)) -> Q (l.foldl g b)
 | [],_,h,_=>h
 | x :: t,b,h,hs=>by
   rw [List.foldl_cons]
   exact foldl_keeps t _ (hs b x List.mem_cons_self h) (fun c y hy hc=>hs c y (List.mem_cons_of_mem _ hy) hc)
theorem foldl_map_of {α β γ : Type} {m : β -> γ} {g : β -> α -> β} {k : γ -> α -> γ} {Q : β -> Prop} : ∀ (l : List α) (b : β),Q b -> (∀ c x,x ∈ l -> Q c -> m (g c x) = k (m c) x /\ Q (g c x)) -> m (l.foldl g b) = l.foldl k (m b) /\ Q (l.foldl g b)
 | [],_,h,_=>⟨rfl,h⟩
 | x :: t,b,h,hs=>by
   obtain ⟨e,h'⟩:=hs b x List.mem_cons_self h
   rw [List.foldl_cons,List.foldl_cons,<- e]
   exact foldl_map_of t _ h' (fun c y hy hc=>hs c y (List.mem_cons_of_mem _ hy) hc)
theorem vis_lt {N : Nat} {G : Nat -> ND} {cl : Nat -> Nat} (hK : Kids N G) : ∀ (f : Nat) (st : List Nat) (n : Nat),n < N -> (∀ s,s ∈ st -> s < N) -> ∀ s,s ∈ vis G cl f st n -> s < N
 | 0,_,_,_,h=>h
 | f + 1,st,n,hn,h=>by
   unfold vis
   by_cases hs : stands cl st n = true
   ·rw [if_pos hs];exact h
   ·rw [if_neg hs]
    refine foldl_keeps (Q:=fun s=>∀ x,x ∈ s -> x < N) _ _ (fun s hs'=>?_) (fun c j hj hc=>vis_lt hK f c _ (hK.lt hn (List.mem_range.1 hj)) hc)
    rcases List.mem_append.1 hs' with q | q
    ·exact h s q
    ·simp at q;subst q;exact hn
theorem vis_prefix {G : Nat -> ND} {cl : Nat -> Nat} : ∀ (f : Nat) (st : List Nat) (n : Nat),∃ t,vis G cl f st n = st ++ t
 | 0,st,_=>⟨[],by simp [vis]⟩
 | f + 1,st,n=>by
   unfold vis
   by_cases hs : stands cl st n = true
   ·rw [if_pos hs];exact ⟨[],by simp⟩
   ·rw [if_neg hs]
    refine foldl_keeps (Q:=fun s=>∃ t,s = st ++ t) _ _ ⟨[n],rfl⟩ (fun c j _ hc=>?_)
    obtain ⟨t,rfl⟩:=hc
    obtain ⟨t',e⟩:=vis_prefix (G:=G) (cl:=cl) f (st ++ t) (kid (G n) j)
    exact ⟨t ++ t',by rw [e,List.append_assoc]⟩
theorem vis_sub {G : Nat -> ND} {cl : Nat -> Nat} (f : Nat) (st : List Nat) (n : Nat) {s : Nat} (h : s ∈ st) : s ∈ vis G cl f st n:=by
 obtain ⟨t,e⟩:=vis_prefix (G:=G) (cl:=cl) f st n
 rw [e];exact List.mem_append_left _ h
def Apart (cl : Nat -> Nat) (st : List Nat) : Prop:=st.Pairwise fun a b=>cl a ≠ cl b
theorem vis_apart {G : Nat -> ND} {cl : Nat -> Nat} : ∀ (f : Nat) (st : List Nat) (n : Nat),Apart cl st -> Apart cl (vis G cl f st n)
 | 0,_,_,h=>h
 | f + 1,st,n,h=>by
   unfold vis
   by_cases hs : stands cl st n = true
   ·rw [if_pos hs];exact h
   ·rw [if_neg hs]
    refine foldl_keeps (Q:=Apart cl) _ _ ?_ (fun c j _ hc=>vis_apart f c _ hc)
    refine List.pairwise_append.2 ⟨h,by simp,fun a ha b hb e=>?_⟩
    simp at hb;subst hb
    exact hs (stands_iff.2 ⟨a,ha,e⟩)
structure Hom (N' : Nat) (G' : Nat -> ND) (N : Nat) (G : Nat -> ND) (h : Nat -> Nat) : Prop where
 lt : ∀ i,i < N' -> h i < N
 lab : ∀ i,i < N' -> Lab (G' i) (G (h i))
 kids : ∀ i,i < N' -> ∀ j,j < (G' i).nk -> kid (G' i) j < N' /\ h (kid (G' i) j) = kid (G (h i)) j
theorem vis_hom {N' N : Nat} {G' G : Nat -> ND} {h cl' cl : Nat -> Nat} (H : Hom N' G' N G h) (hc : ∀ a b,a < N' -> b < N' -> (cl' a = cl' b ↔ cl (h a) = cl (h b))) :
  ∀ (f : Nat) (st : List Nat) (n : Nat),n < N' -> (∀ s,s ∈ st -> s < N') -> (vis G' cl' f st n).map h = vis G cl f (st.map h) (h n) /\ ∀ s,s ∈ vis G' cl' f st n -> s < N'
 | 0,_,_,_,hs=>⟨rfl,hs⟩
 | f + 1,st,n,hn,hst=>by
   have e : stands cl' st n = stands cl (st.map h) (h n):=by
    rw [Bool.eq_iff_iff,stands_iff,stands_iff]
    constructor
    ·rintro ⟨s,hs,e⟩;exact ⟨h s,List.mem_map.2 ⟨s,hs,rfl⟩,(hc s n (hst s hs) hn).1 e⟩
    ·rintro ⟨s,hs,e⟩
     obtain ⟨z,hz,rfl⟩:=List.mem_map.1 hs
     exact ⟨z,hz,(hc z n (hst z hz) hn).2 e⟩
   unfold vis
   rw [e]
   by_cases hs : stands cl (st.map h) (h n) = true
   ·rw [if_pos hs,if_pos hs];exact ⟨rfl,hst⟩
   ·rw [if_neg hs,if_neg hs,<- (H.lab n hn).nk,show List.map h st ++ [h n] = List.map h (st ++ [n]) from by simp]
    refine foldl_map_of (m:=List.map h) (Q:=fun s : List Nat=>∀ x,x ∈ s -> x < N') (List.range (G' n).nk) (st ++ [n]) (fun s q=>?_) (fun c j hj hq=>?_)
    ·rcases List.mem_append.1 q with q | q
     ·exact hst s q
     ·simp at q;subst q;exact hn
    ·have hk:=H.kids n hn j (List.mem_range.1 hj)
     have:=vis_hom H hc f c _ hk.1 hq
     rw [hk.2] at this
     exact this
theorem Hom.same {N' N : Nat} {G' G : Nat -> ND} {h : Nat -> Nat} (H : Hom N' G' N G h) {a b : Nat} (ha : a < N') (hb : b < N') : Same N' G' a b ↔ Same N G (h a) (h b):=by
 constructor
 ·rintro ⟨R,hR,hab⟩
  refine ⟨fun u v=>∃ x y,x < N' /\ y < N' /\ R x y /\ h x = u /\ h y = v,fun u v _ _ huv=>?_,⟨a,b,ha,hb,hab,rfl,rfl⟩⟩
  obtain ⟨x,y,hx,hy,hxy,rfl,rfl⟩:=huv
  obtain ⟨l,k⟩:=hR x y hx hy hxy
  refine ⟨(H.lab x hx).symm.trans (l.trans (H.lab y hy)),fun j hj=>?_⟩
  have hj' : j < (G' x).nk:=by rw [(H.lab x hx).nk];exact hj
  have hj2 : j < (G' y).nk:=by rw [<- l.nk];exact hj'
  have kx:=H.kids x hx j hj'
  have ky:=H.kids y hy j hj2
  exact ⟨_,_,kx.1,ky.1,k j hj',kx.2,ky.2⟩
 ·rintro ⟨R,hR,hab⟩
  refine ⟨fun x y=>x < N' /\ y < N' /\ R (h x) (h y),fun x y hx hy hxy=>?_,⟨ha,hb,hab⟩⟩
  obtain ⟨l,k⟩:=hR (h x) (h y) (H.lt x hx) (H.lt y hy) hxy.2.2
  have l':=(H.lab x hx).trans (l.trans (H.lab y hy).symm)
  refine ⟨l',fun j hj=>?_⟩
  have kx:=H.kids x hx j hj
  have ky:=H.kids y hy j (by rw [<- l'.nk];exact hj)
  exact ⟨kx.1,ky.1,by rw [kx.2,ky.2];exact k j (by rw [<- (H.lab x hx).nk];exact hj)⟩
def missing (N : Nat) (cl : Nat -> Nat) (st : List Nat) : Nat:=((List.range N).filter fun x=>!stands cl st x).length
theorem stands_more {cl : Nat -> Nat} {st st' : List Nat} {n : Nat} (h : ∀ s,s ∈ st -> s ∈ st') (hs : stands cl st n = true) : stands cl st' n = true:=by
 obtain ⟨s,h1,h2⟩:=stands_iff.1 hs
 exact stands_iff.2 ⟨s,h s h1,h2⟩
theorem filter_le {α : Type} {p q : α -> Bool} : ∀ (l : List α),(∀ x,x ∈ l -> p x = true -> q x = true) -> (l.filter p).length <= (l.filter q).length
 | [],_=>by simp
 | x :: t,h=>by
   have ih:=filter_le t (fun y hy=>h y (List.mem_cons_of_mem _ hy))
   have hx:=h x List.mem_cons_self
   cases hp : p x
   ·rw [List.filter_cons_of_neg (by simp [hp])]
    cases hq : q x
    ·rw [List.filter_cons_of_neg (by simp [hq])];exact ih
    ·rw [List.filter_cons_of_pos hq,List.length_cons];omega
   ·rw [List.filter_cons_of_pos hp,List.filter_cons_of_pos (hx hp),List.length_cons,List.length_cons];omega
theorem filter_lt {α : Type} {p q : α -> Bool} {z : α} : ∀ (l : List α),(∀ x,x ∈ l -> p x = true -> q x = true) -> z ∈ l -> p z = false -> q z = true -> (l.filter p).length < (l.filter q).length
 | [],_,hz,_,_=>by simp at hz
 | x :: t,h,hz,hp,hq=>by
   have hx:=h x List.mem_cons_self
   have ht:=fun y hy=>h y (List.mem_cons_of_mem x hy)
   rcases List.mem_cons.1 hz with rfl | hz'
   ·rw [List.filter_cons_of_neg (by simp [hp]),List.filter_cons_of_pos hq,List.length_cons]
    have:=filter_le t ht;omega
   ·have ih:=filter_lt t ht hz' hp hq
    cases hpx : p x
    ·rw [List.filter_cons_of_neg (by simp [hpx])]
     cases hqx : q x
     ·rw [List.filter_cons_of_neg (by simp [hqx])];exact ih
     ·rw [List.filter_cons_of_pos hqx,List.length_cons];omega
    ·rw [List.filter_cons_of_pos hpx,List.filter_cons_of_pos (hx hpx),List.length_cons,List.length_cons];omega
theorem missing_le {N : Nat} {cl : Nat -> Nat} {st st' : List Nat} (h : ∀ s,s ∈ st -> s ∈ st') : missing N cl st' <= missing N cl st:=
 filter_le _ (fun x _ hx=>by
  cases e : stands cl st x
  ·rfl
  ·rw [stands_more h e] at hx;cases hx)
theorem missing_lt {N : Nat} {cl : Nat -> Nat} {st : List Nat} {n : Nat} (hn : n < N) (hs : ¬ stands cl st n = true) : missing N cl (st ++ [n]) < missing N cl st:=
 filter_lt _ (fun x _ hx=>by
  cases e : stands cl st x
  ·rfl
  ·rw [stands_more (fun s q=>List.mem_append_left _ q) e] at hx;cases hx) (List.mem_range.2 hn)
  (by rw [stands_iff.2 ⟨n,by simp,rfl⟩];rfl) (by cases e : stands cl st n;rfl;exact absurd e hs)
theorem missing_all (N : Nat) (cl : Nat -> Nat) (st : List Nat) : missing N cl st <= N:=by
 unfold missing
 have:=List.length_filter_le (fun x=>!stands cl st x) (List.range N)
 simpa using this
def Covered (G : Nat -> ND) (cl : Nat -> Nat) (st : List Nat) (s : Nat) : Prop:=∀ j,j < (G s).nk -> stands cl st (kid (G s) j) = true
theorem Covered.more {G : Nat -> ND} {cl : Nat -> Nat} {st st' : List Nat} {s : Nat} (h : Covered G cl st s) (hs : ∀ x,x ∈ st -> x ∈ st') : Covered G cl st' s:=fun j hj=>stands_more hs (h j hj)
theorem vis_full {N : Nat} {G : Nat -> ND} {cl : Nat -> Nat} (hK : Kids N G) : ∀ (f : Nat) (st : List Nat) (n : Nat),n < N -> (∀ s,s ∈ st -> s < N) -> missing N cl st < f ->
  stands cl (vis G cl f st n) n = true /\ ∀ s,s ∈ vis G cl f st n -> s ∈ st \/ Covered G cl (vis G cl f st n) s
 | 0,_,_,_,_,hf=>absurd hf (Nat.not_lt_zero _)
 | f + 1,st,n,hn,hst,hf=>by
   by_cases hs : stands cl st n = true
   ·have e : vis G cl (f + 1) st n = st:=by unfold vis;rw [if_pos hs]
    rw [e];exact ⟨hs,fun s q=>Or.inl q⟩
   ·have hm:=missing_lt hn hs
    have hst1 : ∀ s,s ∈ st ++ [n] -> s < N:=fun s q=>by
     rcases List.mem_append.1 q with q | q
     ·exact hst s q
     ·simp at q;subst q;exact hn
    have e : vis G cl (f + 1) st n = (List.range (G n).nk).foldl (fun s j=>vis G cl f s (kid (G n) j)) (st ++ [n]):=by conv=>lhs;unfold vis;rw [if_neg hs]
    have main : ∀ k,k <= (G n).nk -> ∀ S,S = (List.range k).foldl (fun s j=>vis G cl f s (kid (G n) j)) (st ++ [n]) ->
      (∀ s,s ∈ st ++ [n] -> s ∈ S) /\ (∀ s,s ∈ S -> s < N) /\ (∀ s,s ∈ S -> s ∈ st ++ [n] \/ Covered G cl S s) /\ ∀ j,j < k -> stands cl S (kid (G n) j) = true:=by
     intro k
     induction k with
     | zero=>intro _ S hS;subst hS;exact ⟨fun s q=>q,hst1,fun s q=>Or.inl q,fun j hj=>absurd hj (Nat.not_lt_zero _)⟩
     | succ k ih=>
       intro hk S hS
       rw [List.range_succ,List.foldl_append,List.foldl_cons,List.foldl_nil] at hS
       obtain ⟨h1,h2,h3,h4⟩:=ih (by omega) _ rfl
       have hkk:=hK.lt hn (show k < (G n).nk by omega)
       have hm2:=missing_le (N:=N) (cl:=cl) h1
       obtain ⟨v1,v2⟩:=vis_full (cl:=cl) hK f _ _ hkk h2 (by omega)
       rw [<- hS] at v1 v2
       have hsub : ∀ s,s ∈ (List.range k).foldl (fun s j=>vis G cl f s (kid (G n) j)) (st ++ [n]) -> s ∈ S:=fun s q=>by rw [hS];exact vis_sub f _ _ q
       refine ⟨fun s q=>hsub s (h1 s q),fun s q=>by rw [hS] at q;exact vis_lt hK f _ _ hkk h2 s q,fun s q=>?_,fun j hj=>?_⟩
       ·rcases v2 s q with q1 | q1
        ·rcases h3 s q1 with q2 | q2
         ·exact Or.inl q2
         ·exact Or.inr (q2.more hsub)
        ·exact Or.inr q1
       ·by_cases ej : j = k
        ·subst ej;exact v1
        ·exact stands_more hsub (h4 j (by omega))
    obtain ⟨m1,_,m3,m4⟩:=main (G n).nk (Nat.le_refl _) _ e
    refine ⟨stands_iff.2 ⟨n,m1 n (by simp),rfl⟩,fun s q=>?_⟩
    rcases m3 s q with q1 | q1
    ·rcases List.mem_append.1 q1 with q2 | q2
     ·exact Or.inl q2
     ·simp at q2;subst q2;exact Or.inr m4
    ·exact Or.inr q1
structure Qn where
 a : Nat
 b : Nat
 up : Bool
deriving DecidableEq
inductive Kq where
 | ty (a : Nat)
 | qn (q : Qn)
deriving DecidableEq
def mixF (x y : ND) (up : Bool) : Nat -> Nat -> Nat -> List (ByteArray × Kq)
 | 0,_,_=>[]
 | f + 1,i,j=>
   if i < x.nn \/ j < y.nn then
    if ¬ j < y.nn \/ (i < x.nn /\ lt (x.nm i) (y.nm j) = true) then (if up then [] else [(x.nm i,.ty (kid x i))]) ++ mixF x y up f (i + 1) j
    else if ¬ i < x.nn \/ lt (y.nm j) (x.nm i) = true then (if up then [] else [(y.nm j,.ty (kid y j))]) ++ mixF x y up f i (j + 1)
    else (x.nm i,.qn ⟨kid x i,kid y j,up⟩) :: mixF x y up f (i + 1) (j + 1)
   else []
theorem mixF_fuel (x y : ND) (up : Bool) : ∀ (f i j d : Nat),(x.nn - i) + (y.nn - j) <= f -> mixF x y up (f + d) i j = mixF x y up f i j:=by
 intro f
 induction f with
 | zero=>
   intro i j d h
   cases d with
   | zero=>rfl
   | succ d=>
     have hc : ¬ (i < x.nn \/ j < y.nn):=by omega
     show mixF x y up (0 + d + 1) i j = []
     rw [mixF,if_neg hc]
 | succ f ih=>
   intro i j d h
   rw [show f + 1 + d = (f + d) + 1 from by omega,mixF,mixF]
   by_cases hc : i < x.nn \/ j < y.nn
   ·rw [if_pos hc,if_pos hc]
    by_cases h1 : ¬ j < y.nn \/ (i < x.nn /\ lt (x.nm i) (y.nm j) = true)
    ·rw [if_pos h1,if_pos h1,ih (i + 1) j d (by omega)]
    ·rw [if_neg h1,if_neg h1]
     by_cases h2 : ¬ i < x.nn \/ lt (y.nm j) (x.nm i) = true
     ·rw [if_pos h2,if_pos h2,ih i (j + 1) d (by omega)]
     ·rw [if_neg h2,if_neg h2,ih (i + 1) (j + 1) d (by omega)]
   ·rw [if_neg hc,if_neg hc]
def mixAll (x y : ND) (up : Bool) (i j : Nat) : List (ByteArray × Kq):=mixF x y up ((x.nn - i) + (y.nn - j)) i j
theorem mixAll_end {x y : ND} {up : Bool} {i j : Nat} (h : ¬ (i < x.nn \/ j < y.nn)) : mixAll x y up i j = []:=by
 unfold mixAll
 rw [show (x.nn - i) + (y.nn - j) = 0 from by omega]
 rfl
theorem mixAll_left {x y : ND} {up : Bool} {i j : Nat} (h : i < x.nn \/ j < y.nn) (h1 : ¬ j < y.nn \/ (i < x.nn /\ lt (x.nm i) (y.nm j) = true)) : mixAll x y up i j = (if up then [] else [(x.nm i,.ty (kid x i))]) ++ mixAll x y up (i + 1) j:=by
 have hi : i < x.nn:=by rcases h1 with q | q <;> omega
 unfold mixAll
 rw [show (x.nn - i) + (y.nn - j) = ((x.nn - (i + 1)) + (y.nn - j)) + 1 from by omega,mixF,if_pos h,if_pos h1]
theorem mixAll_right {x y : ND} {up : Bool} {i j : Nat} (h : i < x.nn \/ j < y.nn) (h1 : ¬ (¬ j < y.nn \/ (i < x.nn /\ lt (x.nm i) (y.nm j) = true))) (h2 : ¬ i < x.nn \/ lt (y.nm j) (x.nm i) = true) : mixAll x y up i j = (if up then [] else [(y.nm j,.ty (kid y j))]) ++ mixAll x y up i (j + 1):=by
 have hj : j < y.nn:=by omega
 unfold mixAll
 rw [show (x.nn - i) + (y.nn - j) = ((x.nn - i) + (y.nn - (j + 1))) + 1 from by omega,mixF,if_pos h,if_neg h1,if_pos h2]
theorem mixAll_both {x y : ND} {up : Bool} {i j : Nat} (h : i < x.nn \/ j < y.nn) (h1 : ¬ (¬ j < y.nn \/ (i < x.nn /\ lt (x.nm i) (y.nm j) = true))) (h2 : ¬ (¬ i < x.nn \/ lt (y.nm j) (x.nm i) = true)) : mixAll x y up i j = (x.nm i,.qn ⟨kid x i,kid y j,up⟩) :: mixAll x y up (i + 1) (j + 1):=by
 have hj : j < y.nn:=by omega
 have hi : i < x.nn:=by omega
 unfold mixAll
 rw [show (x.nn - i) + (y.nn - j) = (((x.nn - (i + 1)) + (y.nn - (j + 1))) + 1) + 1 from by omega,mixF,if_pos h,if_neg h1,if_neg h2]
 rw [mixF_fuel x y up _ (i + 1) (j + 1) 1 (by omega)]
def mixK (x y : ND) : Int:=if x.kind = y.kind then x.kind else 0
def mixN (x y : ND) (up : Bool) : List ByteArray:=if x.kind = y.kind /\ x.kind = 3 then (mixAll x y up 0 0).map Prod.fst else []
def mixQ (x y : ND) (up : Bool) : List Kq:=
 if x.kind = y.kind then
  if x.kind = 4 then [.qn ⟨kid x 0,kid y 0,!up⟩,.qn ⟨kid x 1,kid y 1,up⟩]
  else if x.kind = 3 then (mixAll x y up 0 0).map Prod.snd
  else []
 else []
def addQ (L : List Qn) : Kq -> List Qn
 | .ty _=>L
 | .qn q=>if q ∈ L then L else L ++ [q]
def addAll (L : List Qn) (ks : List Kq) : List Qn:=ks.foldl addQ L
theorem addQ_pre (L : List Qn) (k : Kq) : L <+: addQ L k:=by
 cases k with
 | ty a=>exact List.prefix_refl _
 | qn q=>
   unfold addQ
   by_cases h : q ∈ L
   ·simp [h]
   ·simp [h]
theorem addAll_pre : ∀ (ks : List Kq) (L : List Qn),L <+: addAll L ks
 | [],_=>List.prefix_refl _
 | k :: ks,L=>(addQ_pre L k).trans (addAll_pre ks (addQ L k))
def qsTill (H : Nat -> ND) (q0 : Qn) : Nat -> List Qn
 | 0=>[q0]
 | i + 1=>addAll (qsTill H q0 i) (mixQ (H ((qsTill H q0 i).getD i q0).a) (H ((qsTill H q0 i).getD i q0).b) ((qsTill H q0 i).getD i q0).up)
theorem qs_pre (H : Nat -> ND) (q0 : Qn) (i : Nat) : ∀ d,qsTill H q0 i <+: qsTill H q0 (i + d)
 | 0=>List.prefix_refl _
 | d + 1=>(qs_pre H q0 i d).trans (addAll_pre _ _)
def numK (n : Nat) (L : List Qn) : Kq -> Nat
 | .ty a=>a
 | .qn q=>n + L.idxOf q
theorem idx_pre {L M : List Qn} (h : L <+: M) {q : Qn} (hq : q ∈ L) : L.idxOf q = M.idxOf q:=by
 obtain ⟨t,rfl⟩:=h
 rw [List.idxOf_append,if_pos hq]
end Go.Proofs.YtpbpbppimkeodaaGreatDoor
