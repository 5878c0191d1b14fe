/-
  The program's (printer).funForm.
-/
import Derived.Test.YtcehppndpccldaaDoorVeJ
namespace Go.Proofs.YtcehppndpccldaaDoor
open Go.RowKit

def funF (pm : ByteArray) (r : Option ByteArray) : Option Fm := match r with
  | some x => if gn pm then some ⟨0, [0], [xFun ++ pm ++ xCs ++ x ++ xFn2, e0]⟩ else none
  | none => none
theorem pl_sz {fo : Nat → Option Fm} {lim n : Nat} {x : ByteArray} (h : plF fo lim n = some x) : x.size ≤ lim := by
  unfold plF at h
  split at h
  · rename_i y e
    cases h
    have := (rn_sz e).1
    rw [szW_one] at this
    exact this
  · cases h
/-- The answer is read of its three cells and the slot. -/
theorem fun_read {V : World} {X : Nat} {a b c d : Value} (r : V.rowIs X 97 3 (v3 a b c)) (tmps : Array Value) (h2 : tmps[6]?.getD undef = .pointer (some ⟨X, 0, none⟩)) (h3 : tmps[7]?.getD undef = d) :
    (results Tryd.f67 tmps).run Tryd.prog V = .ok (.tuple #[.agg #[a, b, c], d]) V := by
  have c0 : V.cell? ⟨X, 0, none⟩ = some a := r.cell (i := 0) (by omega)
  have c1 : V.cell? ⟨X, 1, none⟩ = some b := r.cell (i := 1) (by omega)
  have c2 : V.cell? ⟨X, 2, none⟩ = some c := r.cell (i := 2) (by omega)
  unfold results
  rw [show Tryd.f67.results = #[.cell 6 97, .tmp 7] from rfl]
  simp [go_sem, h2, h3, c0, c1, c2]

set_option maxRecDepth 100000 in
set_option maxHeartbeats 4000000 in
theorem p_funForm (w : World) (pm : ByteArray) (hpm : pm.size ≤ 1048576) {a : Option Addr} {c : Nat} {xs : List (TI × NPl)} (h : TsA w (.slice a xs.length c) xs) {ts : List TI} (hts : xs.map Prod.fst = ts) (hcost : cTs ts ≤ 1048576) (lim : Nat) (hlim : lim ≤ 1000000) :
    Calls Tryd.prog 67 #[.agg #[.int .i64 (lim : Int)], .string pm, .slice a xs.length c] w (FmG w (funF pm (plF (fun i => (ts[i]?).bind fT) lim ts.length))) := by
  obtain ⟨r, hr⟩ : ∃ r, r = plF (fun i => (ts[i]?).bind fT) lim ts.length := ⟨_, rfl⟩
  have HRS : Hid (∀ x, r = some x → x.size ≤ lim) := fun x hx => pl_sz (by rw [← hr]; exact hx)
  have HC : Hid (∀ W, Below w.heap.size w W → Calls Tryd.prog 41 #[.slice a xs.length c, .int .i64 (lim : Int), .func (.func 42) #[] #[]] W fun e w' => e = .returned (.tuple #[.string (r.getD e0), .bool r.isSome]) ∧ Below W.heap.size W w') := fun W hb => by
    rw [hr]
    exact p_listT W (h.below hb) hts hcost lim hlim
  have HG : Hid (∀ W, Calls Tryd.prog 40 #[.string pm] W fun e w' => e = .returned (.bool (gn pm)) ∧ w' = W) := fun W => c40 pm W (by omega)
  obtain ⟨n, hn⟩ : ∃ n, n = xs.length := ⟨_, rfl⟩
  rw [← hr]
  rw [← hn] at HC ⊢
  obtain ⟨W1, hW1⟩ : ∃ W1, W1 = (w.alloc (.cells #[.int .i64 (lim : Int)] 57)).alloc (.cells #[.int .i64 0, .slice none 0 0, .slice none 0 0] 97) := ⟨_, rfl⟩
  have HB1 : Hid (Below w.heap.size w W1) := by rw [hW1]; exact bel2 _ _ _
  have HR1 : Hid (W1.rowIs (w.heap.size + 1) 97 3 (v3 (.int .i64 0) (.slice none 0 0) (.slice none 0 0))) := by
    have r2 := row3 (w.alloc (.cells #[.int .i64 (lim : Int)] 57)) (.int .i64 0) (.slice none 0 0) (.slice none 0 0) 97
    rw [World.size_alloc] at r2
    rw [hW1]
    exact r2
  have C1 := HC.out W1 HB1.out
  clear h hts hcost hr hn HC
  go_enter Tryd.func67, Tryd.ntmps67
  go_wp2_with fail
  rw [← hW1]
  clear hW1
  refine C1.mono ?_
  rintro e w2 ⟨rfl, B2⟩
  clear C1
  have HB2 : Hid (Below w.heap.size w w2) := HB1.out.trans (B2.mono HB1.out.size)
  have HR2 : Hid (w2.rowIs (w.heap.size + 1) 97 3 (v3 (.int .i64 0) (.slice none 0 0) (.slice none 0 0))) := HR1.out.of_block (B2.block _ HR1.out.lt)
  clear B2 HB1 HR1
  obtain ⟨x, hx⟩ : ∃ x, x = r.getD e0 := ⟨_, rfl⟩
  have hxs : x.size ≤ 1000000 := by
    rw [hx]
    cases r with
    | none => show (0 : Nat) ≤ _; omega
    | some y => exact Nat.le_trans (HRS.out y rfl) hlim
  have z0 : (⟨#[102, 117, 110, 40]⟩ : ByteArray).size = 4 := rfl
  have z1 : (⟨#[58, 32]⟩ : ByteArray).size = 2 := rfl
  have z2 : (⟨#[41, 32]⟩ : ByteArray).size = 2 := rfl
  have c1 := fun W => run_string_add_sum (P := Tryd.prog) (w := W) (⟨#[102, 117, 110, 40]⟩ : ByteArray) pm (by omega)
  have c2 := fun W => run_string_add_sum (P := Tryd.prog) (w := W) ((⟨#[102, 117, 110, 40]⟩ : ByteArray) ++ pm) ⟨#[58, 32]⟩ (by simp only [ByteArray.size_append]; omega)
  have c3 := fun W => run_string_add_sum (P := Tryd.prog) (w := W) (((⟨#[102, 117, 110, 40]⟩ : ByteArray) ++ pm) ++ ⟨#[58, 32]⟩) x (by simp only [ByteArray.size_append]; omega)
  have c4 := fun W => run_string_add_sum (P := Tryd.prog) (w := W) ((((⟨#[102, 117, 110, 40]⟩ : ByteArray) ++ pm) ++ ⟨#[58, 32]⟩) ++ x) ⟨#[41, 32]⟩ (by simp only [ByteArray.size_append]; omega)
  obtain ⟨T, hT⟩ : ∃ T, T = (((((⟨#[102, 117, 110, 40]⟩ : ByteArray) ++ pm) ++ ⟨#[58, 32]⟩) ++ x) ++ ⟨#[41, 32]⟩) := ⟨_, rfl⟩
  rw [← hT] at c4
  rw [← hx]
  have HX : Hid (x = r.getD e0) := hx
  have HT : Hid (T = xFun ++ pm ++ xCs ++ x ++ xFn2) := hT
  clear hx hT z0 z1 z2
  obtain ⟨ok, hok⟩ : ∃ ok, ok = r.isSome := ⟨_, rfl⟩
  rw [← hok]
  have HOK : Hid (ok = r.isSome) := hok
  clear hok
  obtain ⟨W3, hW3⟩ : ∃ W3, W3 = ((w2.alloc (.cells #[.int .i64 0] 3)).alloc (.cells #[.string T, .string ⟨#[]⟩] 9)).alloc (.cells #[.int .i64 0, .slice (some ⟨w2.heap.size, 0, none⟩) 1 1, .slice (some ⟨w2.heap.size + 1, 0, none⟩) 2 2] 97) := ⟨_, rfl⟩
  have HB3 : Hid (Below w.heap.size w W3) := by
    have s2 := HB2.out.size
    rw [hW3]
    exact ((HB2.out.alloc s2 _).alloc (by simp; omega) _).alloc (by simp; omega) _
  have HRR : Hid (W3.rowIs (w.heap.size + 1) 97 3 (v3 (.int .i64 0) (.slice none 0 0) (.slice none 0 0))) := by rw [hW3]; exact ((HR2.out.alloc _).alloc _).alloc _
  have HRF : Hid (W3.rowIs (w2.heap.size + 1 + 1) 97 3 (v3 (.int .i64 0) (.slice (some ⟨w2.heap.size, 0, none⟩) 1 1) (.slice (some ⟨w2.heap.size + 1, 0, none⟩) 2 2))) := by
    have q := row3 ((w2.alloc (.cells #[.int .i64 0] 3)).alloc (.cells #[.string T, .string ⟨#[]⟩] 9)) (.int .i64 0) (.slice (some ⟨w2.heap.size, 0, none⟩) 1 1) (.slice (some ⟨w2.heap.size + 1, 0, none⟩) 2 2) 97
    simp only [World.size_alloc] at q
    rw [hW3]
    exact q
  have HRN : Hid (W3.rowIs w2.heap.size 3 1 (fun _ => .int .i64 0)) := by rw [hW3]; exact ((row1 w2 (.int .i64 0) 3).alloc _).alloc _
  have HRT : Hid (W3.rowIs (w2.heap.size + 1) 9 2 (v2 (.string T) (.string ⟨#[]⟩))) := by
    have q := row2 (w2.alloc (.cells #[.int .i64 0] 3)) (.string T) (.string ⟨#[]⟩) 9
    rw [World.size_alloc] at q
    rw [hW3]
    exact q.alloc _
  have hlt2 : w.heap.size + 1 < w2.heap.size := HR2.out.lt
  have HFIN : Hid (∀ (b : Bool), b = (ok && gn pm) → ∀ V : World, V = ((W3.setCell ⟨w.heap.size + 1, 0, none⟩ (.int .i64 0)).setCell ⟨w.heap.size + 1, 1, none⟩ (.slice (some ⟨w2.heap.size, 0, none⟩) 1 1)).setCell ⟨w.heap.size + 1, 2, none⟩ (.slice (some ⟨w2.heap.size + 1, 0, none⟩) 2 2) → V.drew.rowIs (w.heap.size + 1) 97 3 (v3 (.int .i64 0) (.slice (some ⟨w2.heap.size, 0, none⟩) 1 1) (.slice (some ⟨w2.heap.size + 1, 0, none⟩) 2 2)) ∧ FmG w (funF pm r) (.returned (.tuple #[.agg #[.int .i64 0, .slice (some ⟨w2.heap.size, 0, none⟩) 1 1, .slice (some ⟨w2.heap.size + 1, 0, none⟩) 2 2], .bool b])) V.drew) := fun b hb V hV => by
    have q : w.heap.size ≤ w.heap.size + 1 := by omega
    have ne : ∀ k j, k ≠ w.heap.size + 1 → k ≠ (⟨w.heap.size + 1, j, none⟩ : Addr).block := fun k j hk => hk
    have nr := ((HRN.out.setOther (ne _ 0 (by omega)) (.int .i64 0)).setOther (ne _ 1 (by omega)) (.slice (some ⟨w2.heap.size, 0, none⟩) 1 1)).setOther (ne _ 2 (by omega)) (.slice (some ⟨w2.heap.size + 1, 0, none⟩) 2 2)
    have tr := ((HRT.out.setOther (ne _ 0 (by omega)) (.int .i64 0)).setOther (ne _ 1 (by omega)) (.slice (some ⟨w2.heap.size, 0, none⟩) 1 1)).setOther (ne _ 2 (by omega)) (.slice (some ⟨w2.heap.size + 1, 0, none⟩) 2 2)
    rw [hV]
    refine ⟨((((HRR.out.set 0 (.int .i64 0)).set 1 (.slice (some ⟨w2.heap.size, 0, none⟩) 1 1)).set 2 (.slice (some ⟨w2.heap.size + 1, 0, none⟩) 2 2)).congr fun i hi => ?_).drew, ?_, 0, _, 2, 2, _, 1, 1, b, rfl, by omega, ?_, fun f hf => ?_⟩
    · match i, hi with
      | 0, _ => rfl
      | 1, _ => rfl
      | 2, _ => rfl
    · exact (((HB3.out.setCell (p := ⟨w.heap.size + 1, 0, none⟩) q _).setCell (p := ⟨w.heap.size + 1, 1, none⟩) q _).setCell (p := ⟨w.heap.size + 1, 2, none⟩) q _).drew
    · rw [hb, HOK.out]
      unfold funF
      cases r with
      | none => rfl
      | some y => cases gn pm <;> rfl
    · have hff : f = ⟨0, [0], [T, e0]⟩ := by
        unfold funF at hf
        cases hr : r with
        | none => rw [hr] at hf; cases hf
        | some y =>
          rw [hr] at hf
          have hxy : x = y := by rw [HX.out, hr]; rfl
          dsimp only at hf
          split at hf
          · cases hf
            rw [HT.out, hxy]
          · cases hf
      rw [hff]
      refine ⟨w2.heap.size, w2.heap.size + 1, rfl, ⟨fun _ => rfl, fun k hk => ?_, fun _ => rfl, fun k hk => ?_⟩, Nat.le_refl _, Nat.le_refl _, by omega, by omega⟩
      · have hk1 : k < 1 := hk
        have k0 : k = 0 := by omega
        subst k0
        exact nr.cell hk1
      · have hk2 : k < 2 := hk
        match k, hk2 with
        | 0, _ => exact tr.cell (i := 0) (by omega)
        | 1, _ => exact tr.cell (i := 1) (by omega)
  go_upto_region 3 with fail
  rw [← hW3]
  have f0 : W3.cell? ⟨w2.heap.size + 1 + 1, 0, none⟩ = some (.int .i64 0) := HRF.out.cell (i := 0) (by omega)
  have f1 : W3.cell? ⟨w2.heap.size + 1 + 1, 1, none⟩ = some (.slice (some ⟨w2.heap.size, 0, none⟩) 1 1) := HRF.out.cell (i := 1) (by omega)
  have f2 : W3.cell? ⟨w2.heap.size + 1 + 1, 2, none⟩ = some (.slice (some ⟨w2.heap.size + 1, 0, none⟩) 2 2) := HRF.out.cell (i := 2) (by omega)
  have r0 : W3.cell? ⟨w.heap.size + 1, 0, none⟩ = some (.int .i64 0) := HRR.out.cell (i := 0) (by omega)
  have r1 : W3.cell? ⟨w.heap.size + 1, 1, none⟩ = some (.slice none 0 0) := HRR.out.cell (i := 1) (by omega)
  have r2 : W3.cell? ⟨w.heap.size + 1, 2, none⟩ = some (.slice none 0 0) := HRR.out.cell (i := 2) (by omega)
  have t0 := HRR.out.frozen 0
  have t1 := HRR.out.frozen 1
  have t2 := HRR.out.frozen 2
  have HKF : Hid (((((W3.setCell ⟨w.heap.size + 1, 0, none⟩ (.int .i64 0)).setCell ⟨w.heap.size + 1, 1, none⟩ (.slice (some ⟨w2.heap.size, 0, none⟩) 1 1)).setCell ⟨w.heap.size + 1, 2, none⟩ (.slice (some ⟨w2.heap.size + 1, 0, none⟩) 2 2)).cell? ⟨w2.heap.size + 1 + 1, 0, none⟩ = some (.int .i64 0)) ∧ ((((W3.setCell ⟨w.heap.size + 1, 0, none⟩ (.int .i64 0)).setCell ⟨w.heap.size + 1, 1, none⟩ (.slice (some ⟨w2.heap.size, 0, none⟩) 1 1)).setCell ⟨w.heap.size + 1, 2, none⟩ (.slice (some ⟨w2.heap.size + 1, 0, none⟩) 2 2)).cell? ⟨w2.heap.size + 1 + 1, 1, none⟩ = some (.slice (some ⟨w2.heap.size, 0, none⟩) 1 1)) ∧ ((((W3.setCell ⟨w.heap.size + 1, 0, none⟩ (.int .i64 0)).setCell ⟨w.heap.size + 1, 1, none⟩ (.slice (some ⟨w2.heap.size, 0, none⟩) 1 1)).setCell ⟨w.heap.size + 1, 2, none⟩ (.slice (some ⟨w2.heap.size + 1, 0, none⟩) 2 2)).cell? ⟨w2.heap.size + 1 + 1, 2, none⟩ = some (.slice (some ⟨w2.heap.size + 1, 0, none⟩) 2 2))) := by
    have ne : ∀ j, w2.heap.size + 1 + 1 ≠ (⟨w.heap.size + 1, j, none⟩ : Addr).block := fun j => by show w2.heap.size + 1 + 1 ≠ w.heap.size + 1; omega
    have q := ((HRF.out.setOther (ne 0) (.int .i64 0)).setOther (ne 1) (.slice (some ⟨w2.heap.size, 0, none⟩) 1 1)).setOther (ne 2) (.slice (some ⟨w2.heap.size + 1, 0, none⟩) 2 2)
    exact ⟨q.cell (i := 0) (by omega), q.cell (i := 1) (by omega), q.cell (i := 2) (by omega)⟩
  clear hW3 c1 c2 c3 c4 hlt2
  cases ok with
  | false =>
    go_region
    all_goals
      go_wp2
      have G := HFIN.out false rfl _ rfl
      exact bodyPost_ret (fun_read G.1 _ rfl rfl) rfl G.2
  | true =>
    go_region_held3 (fun w' => w'.cell? ⟨w2.heap.size + 1 + 1, 0, none⟩ = some (.int .i64 0) ∧ w'.cell? ⟨w2.heap.size + 1 + 1, 1, none⟩ = some (.slice (some ⟨w2.heap.size, 0, none⟩) 1 1) ∧ w'.cell? ⟨w2.heap.size + 1 + 1, 2, none⟩ = some (.slice (some ⟨w2.heap.size + 1, 0, none⟩) 2 2)) (first | exact HKF.out | go_keep) (first
      | (go_at_call 40; (with_reducible refine (HG.out _).mono ?_); rintro e u0 ⟨rfl, rfl⟩))
    all_goals
      go_wp2
      have G := HFIN.out (gn pm) (by show _ = _; rw [Bool.true_and]) _ rfl
      exact bodyPost_ret (fun_read G.1 _ rfl rfl) rfl G.2

end Go.Proofs.YtcehppndpccldaaDoor
