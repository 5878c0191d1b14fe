/-
  SpN SpS0
-/
import Derived.Test.YtihedobejcaapaaGreatDoorD1
import Derived.Test.YtihedobejcaapaaGreatDoorE4
import Derived.Test.YtihedobejcaapaaGreatDoorCB
import Derived.Test.YtihedobejcaapaaGreatDoorAE
namespace Go.Proofs.YtihedobejcaapaaGreatDoor
theorem uH {d : DC} (h : fO d = true) : 1 <= d.kind /\ d.kind <= 3:=by
 unfold fO at h;rw [Bool.and_eq_true] at h;have a:=h.2;by_cases c : d.kind = 1
 ·omega
 rw [if_neg c] at a;by_cases b : d.kind = 2
 ·omega
 rw [if_neg b,Bool.and_eq_true,Bool.and_eq_true] at a;have:=of_decide_eq_true a.1.1;omega
theorem rE {ds : List DC} (h : fS ds = true) : ∀ d,d ∈ ds -> fO d = true:=by
 unfold fS at h;rw [Bool.and_eq_true] at h;exact List.all_eq_true.1 h.1
theorem ite_some {α : Type} {c : Prop} [Decidable c] {a b : Option α} {f : α} (h : (if c then a else b) = some f) : (c /\ a = some f) \/ (¬ c /\ b = some f):=by
 by_cases d : c
 ·rw [if_pos d] at h;exact .inl ⟨d,h⟩
 ·rw [if_neg d] at h;exact .inr ⟨d,h⟩
theorem Bd {e : EI} {f : Fm} (h : fE e = some f) : 0 <= e.num /\ e.num <= 999999999:=by
 unfold fE at h;rcases ite_some h with ⟨_,h⟩ | ⟨_,h⟩
 ·rcases ite_some h with ⟨c,h⟩ | ⟨_,h⟩
  ·simp only [Bool.and_eq_true,decide_eq_true_eq] at c
   omega
  ·cases h
 rcases ite_some h with ⟨_,h⟩ | ⟨_,h⟩
 ·rcases ite_some h with ⟨_,h⟩ | ⟨_,h⟩
  ·rcases ite_some h with ⟨c,h⟩ | ⟨_,h⟩
   ·simp only [Bool.and_eq_true,decide_eq_true_eq] at c
    omega
   ·cases h
  rcases ite_some h with ⟨_,h⟩ | ⟨_,h⟩
  ·rcases ite_some h with ⟨_,h⟩ | ⟨_,h⟩
   ·rcases ite_some h with ⟨c,h⟩ | ⟨_,h⟩
    ·simp only [Bool.and_eq_true,decide_eq_true_eq] at c
     omega
    ·cases h
   rcases ite_some h with ⟨_,h⟩ | ⟨_,h⟩
   ·rcases ite_some h with ⟨_,h⟩ | ⟨_,h⟩
    ·rcases ite_some h with ⟨c,h⟩ | ⟨_,h⟩
     ·simp only [Bool.and_eq_true,decide_eq_true_eq] at c
      omega
     ·cases h
    rcases ite_some h with ⟨_,h⟩ | ⟨_,h⟩
    ·rcases ite_some h with ⟨_,h⟩ | ⟨_,h⟩
     ·rcases ite_some h with ⟨c,h⟩ | ⟨_,h⟩
      ·exact c
      ·cases h
     rcases ite_some h with ⟨_,h⟩ | ⟨_,h⟩
     ·rcases ite_some h with ⟨c,h⟩ | ⟨_,h⟩
      ·omega
      ·rcases ite_some h with ⟨c,h⟩ | ⟨_,h⟩
       ·omega
       ·cases h
     rcases ite_some h with ⟨c,h⟩ | ⟨_,h⟩
     ·omega
     ·cases h
    ·cases h
   ·cases h
  ·cases h
 ·cases h
theorem xm {es : List EI} (h : nO es = true) : ∀ e,e ∈ es -> 0 <= e.num /\ e.num <= 999999999:=fun e he=>by
 unfold nO at h;obtain ⟨_,_,k3⟩:=gF (a:=fun i=>(FE es i).needs.length) (fun j n _ hj=>BG hj) (beq_iff_eq.1 h);obtain ⟨j,hj,rfl⟩:=List.getElem_of_mem he;have h1:=k3 j hj;unfold aE at h1;rw [List.getElem?_eq_getElem hj] at h1
 cases hf : fE es[j] with
 | none=>
   rw [show (some es[j]).bind fE = fE es[j] from rfl,hf] at h1;cases h1
 | some f=>exact Bd hf
theorem qS {ds : List DC} (h : fS ds = true) : ∀ d,d ∈ ds -> ∀ e,e ∈ d.ex -> fG e.num:=fun d hd e he=>by
 have h1:=rE h d hd;unfold fO at h1;rw [Bool.and_eq_true] at h1;have h2:=h1.2
 have hx : 0 <= e.num /\ e.num <= 999999999:=by
  by_cases c : d.kind = 1
  ·rw [if_pos c,Bool.and_eq_true] at h2
   have a:=of_decide_eq_true h2.2;rw [List.eq_nil_of_length_eq_zero a] at he;cases he
  rw [if_neg c] at h2;by_cases b : d.kind = 2
  ·rw [if_pos b,Bool.and_eq_true] at h2
   have a:=of_decide_eq_true h2.2;rw [List.eq_nil_of_length_eq_zero a] at he;cases he
  rw [if_neg b,Bool.and_eq_true] at h2;exact xm h2.2 e he
 unfold fG;omega
theorem tw {α : Type} (x : α) (l : List α) (k : Nat) (f : α -> α) : setF (x :: l) (k + 1) f = x :: setF l k f:=by
 unfold setF;rw [List.getElem?_cons_succ]
 cases l[k]? with
 | none=>rfl
 | some y=>rfl
theorem iM {α : Type} (c : α -> Nat) (f : α -> α) {m : Nat} (hf : ∀ x,c (f x) <= c x + m) : ∀ (l : List α) (k : Nat),((setF l k f).map c).sum <= (l.map c).sum + m
 | [],_=>Nat.zero_le _
 | x :: l,0=>by
   show ((f x :: l).map c).sum <= ((x :: l).map c).sum + m;simp only [List.map_cons,List.sum_cons];have:=hf x;omega
 | x :: l,k + 1=>by
   rw [tw];simp only [List.map_cons,List.sum_cons];have:=iM c f hf l k;omega
theorem Cc (a : Nat) (x : TI) : cT (lu a x) <= cT x + 3:=by
 unfold lu;by_cases c : a = 6
 ·rw [if_pos c];exact Nat.le_add_right _ _
 rw [if_neg c];by_cases d : a = 7
 ·rw [if_pos d]
  show 3 + x.nm.size + cN x.ns <= x.md.size + x.nm.size + cN x.ns + 3;omega
 rw [if_neg d];by_cases b : a = 8
 ·rw [if_pos b]
  show x.md.size + x.nm.size + cN (x.ns ++ [⟨#[120]⟩]) <= x.md.size + x.nm.size + cN x.ns + 3;have e : kx (x.ns ++ [⟨#[120]⟩]) = kx x.ns + 1:=by unfold kx;rw [List.map_append,List.sum_append];rfl
  unfold cN;rw [lap,e];show _ + _ + (x.ns.length + 1 + _) <= _;omega
 rw [if_neg b];exact Nat.le_add_right _ _
theorem BL (a : Nat) (x : EI) : cE (jZ a x) <= cE x + 3:=by
 unfold jZ;by_cases g : a = 9
 ·rw [if_pos g];exact Nat.le_add_right _ _
 rw [if_neg g];by_cases c : a = 10
 ·rw [if_pos c];exact Nat.le_add_right _ _
 rw [if_neg c];by_cases d : a = 11
 ·rw [if_pos d];exact Nat.le_add_right _ _
 rw [if_neg d];by_cases b : a = 12
 ·rw [if_pos b]
  show x.md.size + x.nm.size + cN x.ns + bQ [cV 6] <= x.md.size + x.nm.size + cN x.ns + bQ x.ty + 3;have e : bQ [cV 6] = 1:=rfl;omega
 rw [if_neg b];by_cases f : a = 13
 ·rw [if_pos f]
  show x.md.size + (x.nm ++ ⟨#[66]⟩).size + cN x.ns + bQ x.ty <= x.md.size + x.nm.size + cN x.ns + bQ x.ty + 3;have e : (x.nm ++ (⟨#[66]⟩ : ByteArray)).size = x.nm.size + 1:=by rw [bsa];rfl
  omega
 rw [if_neg f];exact Nat.le_add_right _ _
theorem Ci (C : Nat -> Nat) (Ln a p : Nat) (d : DC) : cD (pC C Ln a p d) <= cD d + 12:=by
 have i : (tH a d.nm).size <= d.nm.size + 3:=by
  unfold tH;by_cases h : a = 2
  ·rw [if_pos h];show 3 <= _;omega
  ·rw [if_neg h];omega
 have f : bQ (k8 a d.ty) <= bQ d.ty + 1:=by
  unfold k8;by_cases h : a = 3
  ·rw [if_pos h]
   unfold bQ;rw [lap,List.map_append,List.sum_append];have e : ([cV 1].map cT).sum = 0:=rfl;have b : [cV 1].length = 1:=rfl;omega
  ·rw [if_neg h];omega
 have m : ed (lf a d.ex) <= ed d.ex + 1:=by
  unfold lf;by_cases h : a = 4
  ·rw [if_pos h,mT,nA,eG]
   have e : e0.size = 0:=rfl;omega
  ·rw [if_neg h];omega
 have c : ∀ l k,bQ (setF l k (lu a)) <= bQ l + 3:=fun l k=>by
  have h:=iM cT (lu a) (Cc a) l k;unfold bQ;rw [fb];omega
 have b : ∀ l k,ed (setF l k (jZ a)) <= ed l + 3:=fun l k=>by
  have h:=iM cE (jZ a) (BL a) l k;unfold ed;rw [fb];omega
 show (tH a d.nm).size + bQ (setF (k8 a d.ty) _ (lu a)) + ed (setF (lf a d.ex) _ (jZ a)) <= d.nm.size + bQ d.ty + ed d.ex + 12;have g:=c (k8 a d.ty) (tk C Ln p (k8 a d.ty).length);have j:=b (lf a d.ex) (tk C Ln (jX a p d.ty) (lf a d.ex).length);omega
theorem A3 (C : Nat -> Nat) (Ln p : Nat) (ds : List DC) : eX (gK C Ln p ds) <= eX ds + 12:=by
 have h:=iM cD (pC C Ln (tk C Ln p 14) (p + 1 + 1)) (Ci C Ln _ _) ds (tk C Ln (p + 1) ds.length);unfold gK eX;rw [fb];omega
theorem DO.dsa {B : Nat} {w : World} {va : Option Addr} {n c : Nat} {ys : List (DC × DPl)} (h : DO B w va n c ys) (hc : eX (ys.map Prod.fst) <= 1048576) : fV w (.slice va n c) ys:=by
 refine ⟨⟨B,by have:=h.own;rw [h.len] at this ⊢;exact this⟩,fun x hx=>jJ.of_cap (h.ok x hx) (h.cap x hx) ?_,hc⟩;have:=jl (l:=ys.map Prod.fst) (List.mem_map_of_mem hx);omega
end Go.Proofs.YtihedobejcaapaaGreatDoor
namespace Go.Proofs.YtihedobejcaapaaGreatDoor
open Go.RowKit
theorem kX {W : World} {X : Nat} {f : Nat -> Value} (R : W.rowIs X 25 1 f) (a : Value) (tmps : Array Value) (h8 : tmps[6]?.getD undef = .pointer (some ⟨X,0,none⟩)) :
  (results Tryz.f21 tmps).run Tryz.prog (W.setCell ⟨X,0,none⟩ a) = .ok (.agg #[a]) (W.setCell ⟨X,0,none⟩ a):=by
 have r:=R.set 0 a;obtain ⟨V,b⟩:=xe (W.setCell ⟨X,0,none⟩ a);rw [<- b] at r ⊢;clear b R;have c : V.cell? ⟨X,0,none⟩ = some a:=r.cell (i:=0) (by omega);unfold results;rw [show Tryz.f21.results = #[.cell 6 25] from rfl];simp [go_sem,h8,c]
theorem kL {t : TypeId} {w : World} {b n i : Nat} {f : Nat -> Value} (h : w.rowIs b t n f) (v : Value) : Kp t w (w.setCell ⟨b,i,none⟩ v):=uR h i v
theorem CL {p : Prop} (h : p) : Hid p:=h
theorem td {B B' : Nat} {w : World} {ns : List ByteArray} {p : NPl} (h : aD B w ns p) (hb : B' <= B) : aD B' w ns p:=fun hn=>by
 obtain ⟨h1,h2,h3⟩:=h hn;exact ⟨h1,Nat.le_trans hb h2,h3⟩
theorem A0 {w : World} {B n c size g : Nat} {t : TypeId} {L : List Value} (h : w.ownsRow B t size (.slice (some ⟨g,0,none⟩) n c) n L) : n <= c:=by
 by_cases b : 0 < n
 ·obtain ⟨_,_,e,_,_,a⟩:=au h b
  simp only [Value.slice.injEq] at e;rw [e.2.2];exact a
 ·omega
end Go.Proofs.YtihedobejcaapaaGreatDoor
