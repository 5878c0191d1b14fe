/-
  Tables: the program's release.
-/
import Derived.Test.YtijgiingfgaakaaTabR2
import Derived.Deep.DeepCutAuto
namespace Go.Proofs.Ytijgiingfgaakaa
open Go.RowKit

/-- The slots that stay, as they were, and let go of. -/
def relP (n : Nat) (D : Nat → SD) (wk : Int) (p : Nat → SP) (j : Nat) : SP := p (kt n D wk j)
def relD0 (n : Nat) (D : Nat → SD) (wk : Int) (j : Nat) : SD := D (kt n D wk j)
def relD (n : Nat) (D : Nat → SD) (wk : Int) (j : Nat) : SD := rel wk (D (kt n D wk j))

theorem os_gone {w w' : World} {base lb g n cap : Nat} {wk : Int} {p : Nat → SP} {D : Nat → SD} (h : OS w base lb (.slice (some ⟨g, 0, none⟩) n cap) n p D) (hG : Gone w w' g n (cap * 9) wk p D) :
    OS (w'.setCell ⟨lb, 0, none⟩ (.slice (some ⟨g, 0, none⟩) (kc D wk n) cap)) base lb (.slice (some ⟨g, 0, none⟩) (kc D wk n) cap) (kc D wk n) (relP n D wk p) (relD0 n D wk) := by
  obtain ⟨_, _, k2, k3, k4, hgl, _⟩ := os_row h
  obtain ⟨f, hr, hf⟩ := hG.row
  have hle := kc_le D wk n
  have hrow := h.row.of_block (hG.span.block lb h.row.lt (by omega))
  refine ⟨(hrow.set 0 _).congr (fun i hi => by
      match i, hi with
      | 0, _ => rfl
      | 1, _ => rfl
      | 2, _ => rfl), own_of_row (hr.setOther (a := ⟨lb, 0, none⟩) (by show g ≠ lb; exact hgl) _) (by omega) k3 k4 (ecells_len _ _ _) (fun j hj => ?_), h.lo, fun e => hgl (by simpa [Value.ownBlock] using e.symm), ⟨g, cap, rfl⟩⟩
  obtain ⟨a, b, rfl, hb⟩ : ∃ a b, j = a * 9 + b ∧ b < 9 := ⟨j / 9, j % 9, by omega, by omega⟩
  have ha : a < kc D wk n := by omega
  rw [ecells_at _ _ _ a b ha hb, ec_at _ _ _ hb, hf a b ha hb]
  rfl

/-- Half of the slots let go of. -/
def halfD (n : Nat) (D : Nat → SD) (wk : Int) (k : Nat) (j : Nat) : SD := if j < k then relD n D wk j else relD0 n D wk j

theorem os_congr {w : World} {base lb : Nat} {sv : Value} {n : Nat} {p : Nat → SP} {D D' : Nat → SD} (h : OS w base lb sv n p D) (he : ∀ j, j < n → D j = D' j) : OS w base lb sv n p D' := by
  have e : ∀ n, (∀ j, j < n → D j = D' j) → ecells p D n = ecells p D' n := by
    intro n
    induction n with
    | zero => intro _; rfl
    | succ n ih => intro hh; show ecells p D n ++ ec (p n) (D n) = ecells p D' n ++ ec (p n) (D' n); rw [ih (fun j hj => hh j (by omega)), hh n (by omega)]
  exact ⟨h.row, by rw [← e n he]; exact h.own, h.lo, h.ne, h.form⟩

theorem half_step (n : Nat) (D : Nat → SD) (wk : Int) (k : Nat) : updF (halfD n D wk k) k (relD n D wk k) = halfD n D wk (k + 1) := by
  funext j
  unfold updF halfD
  by_cases e : j = k
  · subst e; rw [if_pos rfl, if_pos (by omega)]
  · rw [if_neg e]
    by_cases h : j < k
    · rw [if_pos h, if_pos (by omega)]
    · rw [if_neg h, if_neg (by omega)]
theorem half_same {n : Nat} {D : Nat → SD} {wk : Int} {k : Nat} (h : ¬ (relD0 n D wk k).own = wk + 1) : halfD n D wk (k + 1) = halfD n D wk k := by
  rw [← half_step]
  have : relD n D wk k = halfD n D wk k k := by
    unfold halfD relD rel
    rw [if_neg (Nat.lt_irrefl _)]
    exact if_neg h
  rw [this, updF_self]

/-- What release holds behind the first step. -/
structure RS (w W : World) (base lb g c cap sb : Nat) (wk : Int) (p : Nat → SP) (D : Nat → SD) : Prop where
  os : OS W base lb (.slice (some ⟨g, 0, none⟩) c cap) c p D
  sb : W.cell? ⟨sb, 0, none⟩ = some (.pointer (some ⟨lb, 0, none⟩))
  x : W.cell? ⟨w.heap.size, 0, none⟩ = some (.int .i64 wk)
  b : Below base w W

theorem RS.drewN {w W : World} {base lb g c cap sb : Nat} {wk : Int} {p : Nat → SP} {D : Nat → SD} (h : RS w W base lb g c cap sb wk p D) (j : Nat) : RS w (W.drewN j) base lb g c cap sb wk p D := by
  have hb : Below W.heap.size W (W.drewN j) := below_drewN (Below.refl _ _) j
  exact ⟨h.os.below hb, by rw [hb.cell (p := ⟨sb, 0, none⟩) (World.block_lt_of_cell? _ _ h.sb)]; exact h.sb, by rw [hb.cell (p := ⟨w.heap.size, 0, none⟩) (World.block_lt_of_cell? _ _ h.x)]; exact h.x, below_drewN h.b j⟩

theorem rs_go {w W : World} {base lb g c cap sb n k : Nat} {wk : Int} {p : Nat → SP} {D : Nat → SD} (h : RS w W base lb g c cap sb wk p (halfD n D wk k)) (hk : k < c) (ho : (relD0 n D wk k).own = wk + 1) (hsg : sb ≠ g) (hwg : w.heap.size ≠ g) :
    Calls Try.prog 72 #[.pointer (some ⟨g, k * 9, none⟩)] W fun e w' => e = .returned (.tuple #[]) ∧ Hid (RS w w' base lb g c cap sb wk p (halfD n D wk (k + 1))) := by
  obtain ⟨f, hr, hc1, _, hbg, hgl, hf⟩ := os_row h.os
  have hd : halfD n D wk k k = relD0 n D wk k := if_neg (Nat.lt_irrefl _)
  have hE : relD n D wk k = { relD0 n D wk k with own := 0, sin := 0 } := if_pos ho
  refine (t_letGo g (k * 9) _ _ W (hr.cell (by omega)) (hr.cell (by omega)) (hr.frozen _) (hr.frozen _)).mono ?_
  rintro e w2 ⟨he, rfl⟩
  have rr := (hr.set (k * 9 + 2) (.int .i64 0)).set (k * 9 + 3) (.int .i64 0)
  have hl : ∀ (W : World) (x o : Nat) (v : Value), x ≠ g → (W.setCell ⟨g, o, none⟩ v).heap[x]? = W.heap[x]? := fun W x o v hx => Below.heap_setCell _ _ _ _ hx
  have hc : ∀ (x o : Nat) (v v' : Value) (o' : Nat), x ≠ g → ((W.setCell ⟨g, o, none⟩ v).setCell ⟨g, o', none⟩ v').cell? ⟨x, 0, none⟩ = W.cell? ⟨x, 0, none⟩ := fun x o v v' o' hx => World.cell?_of_block (a := ⟨x, 0, none⟩) (by show (World.setCell _ _ _).heap[x]? = _; rw [hl _ _ _ _ hx, hl _ _ _ _ hx])
  refine ⟨he, ⟨?_, by rw [hc _ _ _ _ _ hsg]; exact h.sb, by rw [hc _ _ _ _ _ hwg]; exact h.x, (h.b.setCell (by show base ≤ g; exact hbg) _).setCell (by show base ≤ g; exact hbg) _⟩⟩
  have := os_put (w' := (W.setCell ⟨g, k * 9 + 2, none⟩ (.int .i64 0)).setCell ⟨g, k * 9 + 3, none⟩ (.int .i64 0)) (i := k) (q := p k) (d := relD n D wk k) h.os (by rw [hl _ _ _ _ (fun e => hgl e.symm), hl _ _ _ _ (fun e => hgl e.symm)]) rr (fun a b ha hne hb => ?_) (fun b hb => ?_)
  · rw [updF_self, half_step] at this
    exact this
  · show (if a * 9 + b = k * 9 + 3 then _ else if a * 9 + b = k * 9 + 2 then _ else f (a * 9 + b)) = _
    rw [if_neg (by omega), if_neg (by omega)]
    exact hf a b ha hb
  · show (if k * 9 + b = k * 9 + 3 then _ else if k * 9 + b = k * 9 + 2 then _ else f (k * 9 + b)) = _
    rw [hf k b hk hb, hd, hE]
    match b, hb with
    | 0, _ => simp [ecf]
    | 1, _ => simp [ecf]
    | 2, _ => simp [ecf]
    | 3, _ => simp [ecf]
    | 4, _ => simp [ecf]
    | 5, _ => simp [ecf]
    | 6, _ => simp [ecf]
    | 7, _ => simp [ecf]
    | 8, _ => simp [ecf]

set_option maxRecDepth 100000 in
set_option maxHeartbeats 8000000 in
theorem t_release (base lb g n cap sb : Nat) (p : Nat → SP) (D : Nat → SD) (wk : Int) (w : World) (hOS : OS w base lb (.slice (some ⟨g, 0, none⟩) n cap) n p D) (hsb : w.cell? ⟨sb, 0, none⟩ = some (.pointer (some ⟨lb, 0, none⟩))) (hsg : sb ≠ g) (hsl : sb ≠ lb) (hn : n ≤ 1048576) (hwk : 0 ≤ wk ∧ wk < 16) :
    Calls Try.prog 39 #[.pointer (some ⟨sb, 0, none⟩), .int .i64 wk] w fun e w' => e = .returned (.tuple #[]) ∧ OS w' base lb (.slice (some ⟨g, 0, none⟩) (kc D wk n) cap) (kc D wk n) (relP n D wk p) (relD n D wk) ∧ w'.cell? ⟨sb, 0, none⟩ = some (.pointer (some ⟨lb, 0, none⟩)) ∧ Below base w w' := by
  have hgl : w.heap.size ≠ g := by have := (hOS.own.lt g rfl).2; omega
  have hll : w.heap.size ≠ lb := by have := hOS.row.lt; omega
  have hlg : lb ≠ g := fun e => hOS.ne (by rw [e]; rfl)
  obtain ⟨_, _, hc1, hc2, hbg, _, _⟩ := os_row hOS
  have hbw : base ≤ w.heap.size := by have := (hOS.own.lt g rfl).2; omega
  have hlo := hOS.lo
  have BX := bel1 w (.cells #[.int .i64 wk] 3)
  have r1 := row1 w (.int .i64 wk) 3
  go_enter Try.func39, Try.ntmps39
  go_wp2_with fail
  obtain ⟨X, hX⟩ : ∃ X, X = w.alloc (.cells #[.int .i64 wk] 3) := ⟨_, rfl⟩
  rw [← hX] at BX r1
  rw [← hX]
  clear hX
  have HO : Hid (OS X base lb (.slice (some ⟨g, 0, none⟩) n cap) n p D) := hOS.below BX
  have y0 : X.cell? ⟨sb, 0, none⟩ = some (.pointer (some ⟨lb, 0, none⟩)) := by rw [BX.cell (p := ⟨sb, 0, none⟩) (World.block_lt_of_cell? _ _ hsb)]; exact hsb
  have y1 : X.cell? ⟨lb, 0, none⟩ = some (.slice (some ⟨g, 0, none⟩) n cap) := HO.out.row.cell (i := 0) (by omega)
  obtain ⟨c1, hcc⟩ : ∃ c1, c1 = kc D wk n := ⟨_, rfl⟩
  have hcn : c1 ≤ n := by rw [hcc]; exact kc_le D wk n
  have CD : Hid (Calls Try.prog 70 #[.slice (some ⟨g, 0, none⟩) n cap, .func (.func 71) #[] #[.pointer (some ⟨w.heap.size, 0, none⟩)]] X.drew fun e w' => e = .returned (.slice (some ⟨g, 0, none⟩) c1 cap) ∧ w'.cell? ⟨sb, 0, none⟩ = some (.pointer (some ⟨lb, 0, none⟩)) ∧ w'.cell? ⟨lb, 0, none⟩ = some (.slice (some ⟨g, 0, none⟩) n cap) ∧ w'.frozen? ⟨lb, 0, none⟩ = false ∧ Hid (RS w (w'.setCell ⟨lb, 0, none⟩ (.slice (some ⟨g, 0, none⟩) c1 cap)) base lb g c1 cap sb wk (relP n D wk p) (relD0 n D wk))) := by
    have hE : Ents X.drew g w.heap.size n (cap * 9) wk p D := by
      obtain ⟨f, h1, h2, _, _, _, h3⟩ := os_row HO.out
      exact ⟨r1.cell (i := 0) (by omega), f, h1.drew, by omega, h3⟩
    rw [hcc]
    refine (t_delete g w.heap.size n cap wk p D X.drew hE hgl hn hc1 (by unfold maxLen at hc2; exact hc2) hwk).mono fun e w' ⟨he, hG⟩ => ?_
    have sp : ∀ x, x < X.heap.size → x ≠ g → w'.heap[x]? = X.heap[x]? := fun x hx hne => hG.span.block x hx (by omega)
    have xs : sb < X.heap.size := World.block_lt_of_cell? _ _ y0
    have xl : lb < X.heap.size := World.block_lt_of_cell? _ _ y1
    have hr := HO.out.row.of_block (sp lb xl hlg)
    have hG2 : Gone X w' g n (cap * 9) wk p D := ⟨⟨hG.span.os, hG.span.tape, hG.span.output, hG.span.size, hG.span.block⟩, hG.row⟩
    have z0 : w'.cell? ⟨sb, 0, none⟩ = some (.pointer (some ⟨lb, 0, none⟩)) := by rw [World.cell?_of_block (a := ⟨sb, 0, none⟩) (sp sb xs hsg)]; exact y0
    have x0 : w'.cell? ⟨w.heap.size, 0, none⟩ = some (.int .i64 wk) := by rw [World.cell?_of_block (a := ⟨w.heap.size, 0, none⟩) (sp _ r1.lt hgl)]; exact r1.cell (i := 0) (by omega)
    refine ⟨he, z0, hr.cell (i := 0) (by omega), hr.frozen 0, ⟨os_gone HO.out hG2, ?_, ?_, ?_⟩⟩
    · rw [World.cell?_of_block (a := ⟨sb, 0, none⟩) (Below.heap_setCell _ _ _ _ (by show sb ≠ lb; exact hsl))]; exact z0
    · rw [World.cell?_of_block (a := ⟨w.heap.size, 0, none⟩) (Below.heap_setCell _ _ _ _ (by show w.heap.size ≠ lb; exact hll))]; exact x0
    · have hBX : Below base w X := BX.mono hbw
      exact (hG2.span.toBelow hBX hbg (by have := BX.size; omega)).setCell (by show base ≤ lb; exact hlo) _
  have HC : Hid (c1 = kc D wk n) := hcc
  clear r1 BX hOS hsb hcc
  go_cut [3] (fun s3 wc => s3 = .pointer (some ⟨w.heap.size, 0, none⟩) ∧ Hid (RS w wc base lb g c1 cap sb wk (relP n D wk p) (relD0 n D wk)))
  case first =>
    refine wp_region_held_drew (S := fun w' => w'.cell? ⟨sb, 0, none⟩ = some (.pointer (some ⟨lb, 0, none⟩))) (by kernel_rfl) ?_ (fun hHeld => ?_)
    · exact y0
    refine wpAnyH_take (i := 0) (oi := ⟨some 6, _, _, _, _, _⟩) (v := ?_) rfl (by kernel_rfl) (by kernel_rfl) (by kernel_rfl) (fun _ _ _ h => h) (Or.inl ⟨by kernel_rfl, ?_⟩) (by assumption) ?_
    rotate_left
    · (intro wS hSw; (try dsimp only at hSw); (go_simp <;> with_reducible rfl))
    (try simp only [Act.put]); (try simp only [List.setIfInBounds_toArray]); (try simp only [List.set_cons_succ]); (try simp only [List.set_cons_zero])
    refine wpAnyH_take (i := 1) (oi := ⟨some 7, _, _, _, _, _⟩) (v := ?_) rfl (by kernel_rfl) (by kernel_rfl) (by kernel_rfl) (fun _ _ _ h => h) (Or.inl ⟨by kernel_rfl, ?_⟩) (by assumption) ?_
    rotate_left
    · (intro wS hSw; (try dsimp only at hSw); (go_simp <;> with_reducible rfl))
    (try simp only [Act.put]); (try simp only [List.setIfInBounds_toArray]); (try simp only [List.set_cons_succ]); (try simp only [List.set_cons_zero])
    refine wpAnyH_take (i := 2) (oi := ⟨some 8, _, _, _, _, _⟩) (v := ?_) rfl (by kernel_rfl) (by kernel_rfl) (by kernel_rfl) (fun _ _ _ h => h) (Or.inl ⟨by kernel_rfl, ?_⟩) (by assumption) ?_
    rotate_left
    · (intro wS hSw; (try dsimp only at hSw); (go_simp <;> with_reducible rfl))
    (try simp only [Act.put]); (try simp only [List.setIfInBounds_toArray]); (try simp only [List.set_cons_succ]); (try simp only [List.set_cons_zero])
    refine wpAnyH_take (i := 3) (oi := ⟨some 9, _, _, _, _, _⟩) (v := ?_) rfl (by kernel_rfl) (by kernel_rfl) (by kernel_rfl) (fun _ _ _ h => h) (Or.inl ⟨by kernel_rfl, ?_⟩) (by assumption) ?_
    rotate_left
    · (intro wS hSw; (try dsimp only at hSw); (go_simp <;> with_reducible rfl))
    (try simp only [Act.put]); (try simp only [List.setIfInBounds_toArray]); (try simp only [List.set_cons_succ]); (try simp only [List.set_cons_zero])
    refine wpAnyH_take (i := 4) (oi := ⟨some 10, _, _, _, _, _⟩) (v := ?_) rfl (by kernel_rfl) (by kernel_rfl) (by kernel_rfl) (fun _ _ _ h => h) (Or.inl ⟨by kernel_rfl, ?_⟩) (by assumption) ?_
    rotate_left
    · (intro wS hSw; (try dsimp only at hSw); (go_simp <;> with_reducible rfl))
    (try simp only [Act.put]); (try simp only [List.setIfInBounds_toArray]); (try simp only [List.set_cons_succ]); (try simp only [List.set_cons_zero])
    refine wpAnyH_take (i := 5) (oi := ⟨some 11, _, _, _, _, _⟩) (v := ?_) rfl (by kernel_rfl) (by kernel_rfl) (by kernel_rfl) (fun _ _ _ h => h) (Or.inl ⟨by kernel_rfl, ?_⟩) (by assumption) ?_
    rotate_left
    · (intro wS hSw; (try dsimp only at hSw); (go_simp <;> with_reducible rfl))
    (try simp only [Act.put]); (try simp only [List.setIfInBounds_toArray]); (try simp only [List.set_cons_succ]); (try simp only [List.set_cons_zero])
    refine wpAnyH_take (i := 6) (oi := ⟨some 12, _, _, _, _, _⟩) (v := ?_) rfl (by kernel_rfl) (by kernel_rfl) (by kernel_rfl) (fun _ _ _ h => h) (Or.inl ⟨by kernel_rfl, ?_⟩) (by assumption) ?_
    rotate_left
    · (intro wS hSw; (try dsimp only at hSw); (go_simp <;> with_reducible rfl))
    (try simp only [Act.put]); (try simp only [List.setIfInBounds_toArray]); (try simp only [List.set_cons_succ]); (try simp only [List.set_cons_zero])
    refine wpAnyH_take (i := 7) (oi := ⟨some 13, _, _, _, _, _⟩) (v := ?_) rfl (by kernel_rfl) (by kernel_rfl) (by kernel_rfl) (fun _ _ _ h => h) (Or.inl ⟨by kernel_rfl, ?_⟩) (by assumption) ?_
    rotate_left
    · (intro wS hSw; (try dsimp only at hSw); (go_simp <;> with_reducible rfl))
    (try simp only [Act.put]); (try simp only [List.setIfInBounds_toArray]); (try simp only [List.set_cons_succ]); (try simp only [List.set_cons_zero])
    refine wpAnyH_take (i := 8) (oi := ⟨some 14, _, _, _, _, _⟩) (v := ?_) rfl (by kernel_rfl) (by kernel_rfl) (by kernel_rfl) (fun _ _ _ h => h) (Or.inl ⟨by kernel_rfl, ?_⟩) (by assumption) ?_
    rotate_left
    · (intro wS hSw; (try dsimp only at hSw); (go_simp <;> with_reducible rfl))
    (try simp only [Act.put]); (try simp only [List.setIfInBounds_toArray]); (try simp only [List.set_cons_succ]); (try simp only [List.set_cons_zero])
    refine wpAnyH_take (i := 9) (oi := ⟨some 15, _, _, _, _, _⟩) (v := ?_) rfl (by kernel_rfl) (by kernel_rfl) (by kernel_rfl) (fun _ _ _ h => h) (Or.inl ⟨by kernel_rfl, ?_⟩) (by assumption) ?_
    rotate_left
    · (intro wS hSw; (try dsimp only at hSw); (go_simp <;> with_reducible rfl))
    (try simp only [Act.put]); (try simp only [List.setIfInBounds_toArray]); (try simp only [List.set_cons_succ]); (try simp only [List.set_cons_zero])
    refine wpAnyH_ready (rs := [10, 11]) (by kernel_rfl) (by simp) ?_
    refine AllReadyH.cons rfl (fun K hK => ?_) (AllReadyH.cons rfl (fun K hK => ?_) AllReadyH.nil)
    · go_simp
      refine hK.out _ _ ?_ (fun hHeld2 => ?_)
      · exact y0
      clear hK K hHeld
      have hHeld := hHeld2
      clear hHeld2
      refine wpAnyH_ready (rs := [11]) (by kernel_rfl) (by simp) ?_
      refine AllReadyH.cons rfl (fun K hK => ?_) AllReadyH.nil
      go_simp
      refine hK.out _ _ ?_ (fun hHeld2 => ?_)
      · exact y0
      clear hK K hHeld
      have hHeld := hHeld2
      clear hHeld2
      refine wpAnyH_ready (rs := [12]) (by kernel_rfl) (by simp) ?_
      refine AllReadyH.cons rfl (fun K hK => ?_) AllReadyH.nil
      go_simp
      go_wp2_with (go_at_call 70; refine CD.out.mono ?_; rintro e w3 ⟨rfl, z0, z1, zf, HG⟩)
      refine hK.out _ _ ?_ (fun hHeld2 => ?_)
      · exact z0
      clear hK K hHeld
      have hHeld := hHeld2
      clear hHeld2
      refine wpAnyH_take (i := 13) (oi := ⟨some 19, _, _, _, _, _⟩) (v := ?_) rfl (by kernel_rfl) (by kernel_rfl) (by kernel_rfl) (fun _ _ _ h => h) (Or.inl ⟨by kernel_rfl, ?_⟩) (by assumption) ?_
      rotate_left
      · (intro wS hSw; (try dsimp only at hSw); (go_simp <;> with_reducible rfl))
      (try simp only [Act.put]); (try simp only [List.setIfInBounds_toArray]); (try simp only [List.set_cons_succ]); (try simp only [List.set_cons_zero])
      refine wpAnyH_take (i := 14) (oi := ⟨some 20, _, _, _, _, _⟩) (v := ?_) rfl (by kernel_rfl) (by kernel_rfl) (by kernel_rfl) (fun _ _ _ h => h) (Or.inl ⟨by kernel_rfl, ?_⟩) (by assumption) ?_
      rotate_left
      · (intro wS hSw; (try dsimp only at hSw); (go_simp <;> with_reducible rfl))
      (try simp only [Act.put]); (try simp only [List.setIfInBounds_toArray]); (try simp only [List.set_cons_succ]); (try simp only [List.set_cons_zero])
      refine wpAnyH_ready (rs := [15]) (by kernel_rfl) (by simp) ?_
      refine AllReadyH.cons rfl (fun K hK => ?_) AllReadyH.nil
      go_simp
      refine hK.out _ _ ?_ (fun hHeld2 => ?_)
      · exact (by rw [World.cell?_of_block (a := ⟨sb, 0, none⟩) (Below.heap_setCell _ _ _ _ (by show sb ≠ lb; exact hsl))]; exact z0)
      clear hK K hHeld
      have hHeld := hHeld2
      clear hHeld2
      refine wpAnyH_done (by kernel_rfl) ?_ _
      go_wp2
      go_meet
      case rel => exact ⟨rfl, HG⟩
    · go_simp
      refine hK.out _ _ ?_ (fun hHeld2 => ?_)
      · exact y0
      clear hK K hHeld
      have hHeld := hHeld2
      clear hHeld2
      refine wpAnyH_ready (rs := [10]) (by kernel_rfl) (by simp) ?_
      refine AllReadyH.cons rfl (fun K hK => ?_) AllReadyH.nil
      go_simp
      refine hK.out _ _ ?_ (fun hHeld2 => ?_)
      · exact y0
      clear hK K hHeld
      have hHeld := hHeld2
      clear hHeld2
      refine wpAnyH_ready (rs := [12]) (by kernel_rfl) (by simp) ?_
      refine AllReadyH.cons rfl (fun K hK => ?_) AllReadyH.nil
      go_simp
      go_wp2_with (go_at_call 70; refine CD.out.mono ?_; rintro e w3 ⟨rfl, z0, z1, zf, HG⟩)
      refine hK.out _ _ ?_ (fun hHeld2 => ?_)
      · exact z0
      clear hK K hHeld
      have hHeld := hHeld2
      clear hHeld2
      refine wpAnyH_take (i := 13) (oi := ⟨some 19, _, _, _, _, _⟩) (v := ?_) rfl (by kernel_rfl) (by kernel_rfl) (by kernel_rfl) (fun _ _ _ h => h) (Or.inl ⟨by kernel_rfl, ?_⟩) (by assumption) ?_
      rotate_left
      · (intro wS hSw; (try dsimp only at hSw); (go_simp <;> with_reducible rfl))
      (try simp only [Act.put]); (try simp only [List.setIfInBounds_toArray]); (try simp only [List.set_cons_succ]); (try simp only [List.set_cons_zero])
      refine wpAnyH_take (i := 14) (oi := ⟨some 20, _, _, _, _, _⟩) (v := ?_) rfl (by kernel_rfl) (by kernel_rfl) (by kernel_rfl) (fun _ _ _ h => h) (Or.inl ⟨by kernel_rfl, ?_⟩) (by assumption) ?_
      rotate_left
      · (intro wS hSw; (try dsimp only at hSw); (go_simp <;> with_reducible rfl))
      (try simp only [Act.put]); (try simp only [List.setIfInBounds_toArray]); (try simp only [List.set_cons_succ]); (try simp only [List.set_cons_zero])
      refine wpAnyH_ready (rs := [15]) (by kernel_rfl) (by simp) ?_
      refine AllReadyH.cons rfl (fun K hK => ?_) AllReadyH.nil
      go_simp
      refine hK.out _ _ ?_ (fun hHeld2 => ?_)
      · exact (by rw [World.cell?_of_block (a := ⟨sb, 0, none⟩) (Below.heap_setCell _ _ _ _ (by show sb ≠ lb; exact hsl))]; exact z0)
      clear hK K hHeld
      have hHeld := hHeld2
      clear hHeld2
      refine wpAnyH_done (by kernel_rfl) ?_ _
      go_wp2
      go_meet
      case rel => exact ⟨rfl, HG⟩
  case rest =>
    obtain ⟨rfl, HRS⟩ := hcut
    clear CD HO y0 y1
    have HRS2 : Hid (RS w wc base lb g c1 cap sb wk (relP n D wk p) (halfD n D wk 0)) := ⟨os_congr HRS.out.os (fun j _ => (if_neg (Nat.not_lt_zero _)).symm), HRS.out.sb, HRS.out.x, HRS.out.b⟩
    have y0 := HRS.out.sb
    have y1 : wc.cell? ⟨lb, 0, none⟩ = some (.slice (some ⟨g, 0, none⟩) c1 cap) := HRS.out.os.row.cell (i := 0) (by omega)
    clear HRS
    go_wp2
    go_loopw [29] (fun i wr => ∃ k : Nat, k ≤ c1 ∧ i = .int .i64 k ∧ Hid (RS w wr base lb g c1 cap sb wk (relP n D wk p) (halfD n D wk k))) (fun i _ => c1 - (intOf i).toNat)
    case atStart => exact ⟨0, Nat.zero_le _, rfl, HRS2⟩
    case round =>
      obtain ⟨k, hk, rfl, HR⟩ := hrel
      clear HRS2 y0 y1
      by_cases hlt : k < c1
      · have y0 := HR.out.sb
        have y1 : wr.cell? ⟨lb, 0, none⟩ = some (.slice (some ⟨g, 0, none⟩) c1 cap) := HR.out.os.row.cell (i := 0) (by omega)
        have y2 := HR.out.x
        obtain ⟨f, hr, _, _, _, _, hf⟩ := os_row HR.out.os
        have hci : k * 9 + 9 ≤ cap * 9 := by omega
        have hd : halfD n D wk k k = relD0 n D wk k := if_neg (Nat.lt_irrefl _)
        have a3 : wr.cell? ⟨g, k * 9 + 3, none⟩ = some (.int .i64 (relD0 n D wk k).own) := by rw [hr.cell (by omega), hf k 3 hlt (by omega), hd]; rfl
        have hwk1 : IntKind.i64.wrap (wk + 1) = wk + 1 := by rw [IntKind.wrap_i64]; omega
        by_cases ho : (relD0 n D wk k).own = wk + 1
        · have b3 : ((relD0 n D wk k).own == wk + 1) = true := by rw [beq_iff_eq]; exact ho
          have CL : Hid (∀ W, RS w W base lb g c1 cap sb wk (relP n D wk p) (halfD n D wk k) → Calls Try.prog 72 #[.pointer (some ⟨g, k * 9, none⟩)] W fun e w' => e = .returned (.tuple #[]) ∧ Hid (RS w w' base lb g c1 cap sb wk (relP n D wk p) (halfD n D wk (k + 1)))) := fun W h => rs_go h hlt ho hsg hgl
          clear ho hr hf hd
          go_wp2
          go_quiet (fail)
          go_wp2_with fail
          refine (CL.out _ (HR.out.drewN _)).mono ?_
          rintro e w2 ⟨rfl, H2⟩
          go_wp2
          go_roundw
          case rel => exact ⟨k + 1, by omega, by go_num, H2⟩
          case measure => simp [intOf]; omega
        · have b3 : ((relD0 n D wk k).own == wk + 1) = false := by rw [beq_eq_false_iff_ne]; exact ho
          have HS : Hid (RS w wr base lb g c1 cap sb wk (relP n D wk p) (halfD n D wk (k + 1))) := by rw [half_same ho]; exact HR
          clear ho hr hf hd
          go_wp2
          go_quiet (fail)
          go_wp2
          go_roundw
          case rel => exact ⟨k + 1, by omega, by go_num, HS.out.drewN _⟩
          case measure => simp [intOf]; omega
      · have hkn : k = c1 := by omega
        subst hkn
        go_wp2
        exact bodyPost_end (v := .tuple #[]) (by simp [results, Try.results39]) rfl ⟨rfl, by rw [← HC.out]; exact os_congr HR.out.os (fun j hj => if_pos hj), HR.out.sb, HR.out.b⟩

end Go.Proofs.Ytijgiingfgaakaa
