/-
  Scripts: the program's kindsAt, and a line by its place.
-/
import Derived.Test.YthmihmnagnibmaaDoorPrF
namespace Go.Proofs.YthmihmnagnibmaaDoor
open Go.RowKit

def nAt (ix : Nat) : Nat := if ix < 2 then 1 else 4
def kwE : Nat → ByteArray
  | 0 => ⟨#[97, 115, 107]⟩
  | 1 => ⟨#[101, 100, 105, 116]⟩
  | 2 => ⟨#[100, 114, 111, 112]⟩
  | _ => ⟨#[112, 105, 99, 107]⟩
def kfE : Nat → Nat
  | 0 => 29
  | 1 => 30
  | 2 => 31
  | _ => 32
def kwAt (ix : Nat) : Nat → ByteArray := if ix = 0 then fun _ => ⟨#[119, 111, 114, 107, 101, 114, 115]⟩ else if ix = 1 then fun _ => ⟨#[99, 97, 112, 97, 99, 105, 116, 121]⟩ else kwE
def kfAt (ix : Nat) : Nat → Nat := if ix = 0 then fun _ => 27 else if ix = 1 then fun _ => 28 else kfE

theorem kinds1 (w : World) (wd : ByteArray) (f : Nat) : Kinds (w.alloc (.cells #[.string wd, .func (.func f) #[] #[]] 56)) w.heap.size 1 (fun _ => wd) (fun _ => f) := by
  have r := World.rowIs_alloc w #[.string wd, .func (.func f) #[] #[]] 56 (fun i => match i with | 0 => .string wd | _ => .func (.func f) #[] #[]) (fun i hi => by
    match i, hi with
    | 0, _ => rfl
    | 1, _ => rfl)
  intro k hk
  have : k = 0 := by omega
  subst this
  exact ⟨r.cell (i := 0) (by simp), r.cell (i := 1) (by simp)⟩
theorem kinds4 (w : World) : Kinds (w.alloc (.cells #[.string ⟨#[97, 115, 107]⟩, .func (.func 29) #[] #[], .string ⟨#[101, 100, 105, 116]⟩, .func (.func 30) #[] #[], .string ⟨#[100, 114, 111, 112]⟩, .func (.func 31) #[] #[], .string ⟨#[112, 105, 99, 107]⟩, .func (.func 32) #[] #[]] 56)) w.heap.size 4 kwE kfE := by
  have r := World.rowIs_alloc w #[.string ⟨#[97, 115, 107]⟩, .func (.func 29) #[] #[], .string ⟨#[101, 100, 105, 116]⟩, .func (.func 30) #[] #[], .string ⟨#[100, 114, 111, 112]⟩, .func (.func 31) #[] #[], .string ⟨#[112, 105, 99, 107]⟩, .func (.func 32) #[] #[]] 56 (fun i => if i % 2 = 0 then .string (kwE (i / 2)) else .func (.func (kfE (i / 2))) #[] #[]) (fun i hi => by
    match i, hi with
    | 0, _ => rfl
    | 1, _ => rfl
    | 2, _ => rfl
    | 3, _ => rfl
    | 4, _ => rfl
    | 5, _ => rfl
    | 6, _ => rfl
    | 7, _ => rfl)
  intro k hk
  match k, hk with
  | 0, _ => exact ⟨r.cell (i := 0) (by decide), r.cell (i := 1) (by decide)⟩
  | 1, _ => exact ⟨r.cell (i := 2) (by decide), r.cell (i := 3) (by decide)⟩
  | 2, _ => exact ⟨r.cell (i := 4) (by decide), r.cell (i := 5) (by decide)⟩
  | 3, _ => exact ⟨r.cell (i := 6) (by decide), r.cell (i := 7) (by decide)⟩

def KndPost (ix : Nat) (w : World) (e : Ending) (w' : World) : Prop := e = .returned (.slice (some ⟨w.heap.size, 0, none⟩) (nAt ix) (nAt ix)) ∧ Kinds w' w.heap.size (nAt ix) (kwAt ix) (kfAt ix) ∧ Below w.heap.size w w'

set_option maxRecDepth 100000 in
set_option maxHeartbeats 4000000 in
theorem p_kinds (ix : Nat) (w : World) : Calls Tryd.prog 16 #[.int .i64 (ix : Int)] w fun e w' => KndPost ix w e w' := by
  match ix with
  | 0 =>
    show Calls Tryd.prog 16 #[.int .i64 0] w _
    go_enter Tryd.func16, Tryd.ntmps16
    go_wp2
    go_ret
    exact ⟨rfl, kinds1 _ _ _, bel1 _ _⟩
  | 1 =>
    show Calls Tryd.prog 16 #[.int .i64 1] w _
    go_enter Tryd.func16, Tryd.ntmps16
    go_wp2
    go_ret
    exact ⟨rfl, kinds1 _ _ _, bel1 _ _⟩
  | k + 2 =>
    have HP : ∀ w', w' = w.alloc (.cells #[.string ⟨#[97, 115, 107]⟩, .func (.func 29) #[] #[], .string ⟨#[101, 100, 105, 116]⟩, .func (.func 30) #[] #[], .string ⟨#[100, 114, 111, 112]⟩, .func (.func 31) #[] #[], .string ⟨#[112, 105, 99, 107]⟩, .func (.func 32) #[] #[]] 56) → KndPost (k + 2) w (.returned (.slice (some ⟨w.heap.size, 0, none⟩) 4 4)) w' := by
      intro w' hw
      have e1 : nAt (k + 2) = 4 := if_neg (by omega)
      have e2 : kwAt (k + 2) = kwE := by unfold kwAt; rw [if_neg (by omega), if_neg (by omega)]
      have e3 : kfAt (k + 2) = kfE := by unfold kfAt; rw [if_neg (by omega), if_neg (by omega)]
      refine ⟨by rw [e1], ?_, by rw [hw]; exact bel1 _ _⟩
      rw [e1, e2, e3, hw]
      exact kinds4 w
    have HH : Hid (∀ w', w' = w.alloc (.cells #[.string ⟨#[97, 115, 107]⟩, .func (.func 29) #[] #[], .string ⟨#[101, 100, 105, 116]⟩, .func (.func 30) #[] #[], .string ⟨#[100, 114, 111, 112]⟩, .func (.func 31) #[] #[], .string ⟨#[112, 105, 99, 107]⟩, .func (.func 32) #[] #[]] 56) → KndPost (k + 2) w (.returned (.slice (some ⟨w.heap.size, 0, none⟩) 4 4)) w') := HP
    clear HP
    obtain ⟨j, hj⟩ : ∃ j : Int, j = ((k + 2 : Nat) : Int) := ⟨_, rfl⟩
    rw [← hj]
    have n0 : ¬ j = 0 := by omega
    have n1 : ¬ j = 1 := by omega
    clear hj
    go_enter Tryd.func16, Tryd.ntmps16
    go_wp2
    go_ret
    exact HH.out _ rfl

end Go.Proofs.YthmihmnagnibmaaDoor
