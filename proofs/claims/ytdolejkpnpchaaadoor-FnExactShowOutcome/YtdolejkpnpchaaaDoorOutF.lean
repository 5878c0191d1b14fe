/-
  Outcomes as text: lines, words parted by blanks.
-/
import Derived.Test.YtdolejkpnpchaaaDoorOutE
import Derived.Lib.Join
import Derived.Deep.RegionHeld3
namespace Go.Proofs.YtdolejkpnpchaaaDoor
open Go.RowKit Go.Lib

/-- Words, each with a blank ahead. -/
def jnt : List ByteArray → ByteArray
  | [] => ⟨#[]⟩
  | y :: ys => (sp ++ y) ++ jnt ys
/-- Words parted by blanks. -/
def jn : List ByteArray → ByteArray
  | [] => ⟨#[]⟩
  | x :: xs => x ++ jnt xs
theorem nil_app (x : ByteArray) : (⟨#[]⟩ : ByteArray) ++ x = x := by show ByteArray.empty ++ x = x; simp
theorem app_nil' (x : ByteArray) : x ++ (⟨#[]⟩ : ByteArray) = x := by show x ++ ByteArray.empty = x; simp
theorem jnt_app : ∀ xs ys : List ByteArray, jnt (xs ++ ys) = jnt xs ++ jnt ys
  | [], ys => (nil_app _).symm
  | x :: xs, ys => by
    show (sp ++ x) ++ jnt (xs ++ ys) = ((sp ++ x) ++ jnt xs) ++ jnt ys
    rw [jnt_app xs ys]; exact ByteArray.append_assoc.symm
theorem hid_of' {p : Prop} (h : p) : Hid p := h
theorem jn_app (x : ByteArray) (xs ys : List ByteArray) : jn ((x :: xs) ++ ys) = jn (x :: xs) ++ jnt ys := by
  show x ++ jnt (xs ++ ys) = (x ++ jnt xs) ++ jnt ys
  rw [jnt_app, ByteArray.append_assoc]
theorem jnt_data : ∀ xs : List ByteArray, (jnt xs).data.toList = Lib.joinTail [32] (xs.map (·.data.toList))
  | [] => rfl
  | x :: xs => by
    have ih := jnt_data xs
    have e : (jnt (x :: xs)).data.toList = [32] ++ x.data.toList ++ (jnt xs).data.toList := by
      show ((sp ++ x) ++ jnt xs).data.toList = _
      rw [ByteArray.data_append, ByteArray.data_append, Array.toList_append, Array.toList_append]; rfl
    rw [e, ih]
    simp [Lib.joinTail]
theorem jn_data (xs : List ByteArray) : (⟨(Lib.join (xs.map (·.data.toList)) [32]).toArray⟩ : ByteArray) = jn xs := by
  apply ByteArray.ext
  show (Lib.join (xs.map (·.data.toList)) [32]).toArray = _
  rw [← Array.toArray_toList (xs := (jn xs).data)]
  congr 1
  cases xs with
  | nil => rfl
  | cons x xs =>
    show Lib.join (x.data.toList :: xs.map (·.data.toList)) [32] = (x ++ jnt xs).data.toList
    rw [Lib.join_cons, ByteArray.data_append, Array.toList_append, jnt_data]
theorem jn_len (xs : List ByteArray) : (Lib.join (xs.map (·.data.toList)) (⟨#[32]⟩ : ByteArray).data.toList).length = (jn xs).size := by
  rw [← jn_data]
  rfl

set_option maxHeartbeats 1000000 in
/-- A line. -/
theorem p_line (bk c : Nat) (xs : List ByteArray) (w : World) (hcells : ∀ (j : Nat) x, xs[j]? = some x → w.cell? ⟨bk, j, none⟩ = some (.string x)) (hbk : bk < w.heap.size) (hcap : xs.length ≤ c) (hN : xs.length ≤ 140737488355328) (hlen : (jn xs).size ≤ 140000000000000) :
    Calls Tryd.prog 20 #[.slice (some ⟨bk, 0, none⟩) xs.length c] w fun e w' => e = .returned (.string (jn xs ++ nl)) ∧ Below w.heap.size w w' := by
  have CJ := hid_of' (Tryd.strings_Join bk 0 c xs ⟨#[32]⟩ w (fun j x hx => by rw [Nat.zero_add]; exact hcells j x hx) hbk hN hcap (by rw [jn_len]; omega))
  obtain ⟨n, hn⟩ : ∃ n, n = xs.length := ⟨_, rfl⟩
  obtain ⟨J, hJ⟩ : ∃ J, J = jn xs := ⟨_, rfl⟩
  have e : (⟨(Lib.join (xs.map (·.data.toList)) (⟨#[32]⟩ : ByteArray).data.toList).toArray⟩ : ByteArray) = J := by rw [hJ]; exact jn_data xs
  rw [e, ← hn] at CJ
  rw [← hn, ← hJ]
  have z : J.size ≤ 140000000000000 := by rw [hJ]; exact hlen
  have z1 : (⟨#[10]⟩ : ByteArray).size = 1 := rfl
  have z2 : ¬ 9223372036854775807 < J.size + 1 := by omega
  clear e hJ hn hlen hcells hN hcap
  go_enter Tryd.func20, Tryd.ntmps20
  go_wp2_with (go_at_call 35; refine CJ.out.mono ?_)
  rintro e w1 ⟨rfl, hb⟩
  go_wp2
  go_ret
  exact ⟨rfl, hb⟩
end Go.Proofs.YtdolejkpnpchaaaDoor
