/-
  The model's classes: round after round.
-/
import Derived.Test.YtdgbcblajgmpcaaAlike
import Derived.Deep.RegionHeld3
namespace Go.Proofs.Ytdgbcblajgmpcaa
open Go.RowKit

/-- What a round has made: the new numbers of i nodes, and the first nodes of the classes. -/
structure Made (w0 wr : World) (N i cnt : Nat) (nx f : Nat → Nat) (fv : Value) : Prop where
  below : Below w0.heap.size w0 wr
  row : wr.rowIs w0.heap.size 3 N (fun j => if j < i then .int .i64 (nx j) else .int .i64 0)
  own : wr.ownsRow (w0.heap.size + 1) 3 1 fv cnt ((List.range cnt).map fun c => .int .i64 (f c))
  size : w0.heap.size + 1 ≤ wr.heap.size

theorem own_below {w w' : World} {base : Nat} {e : TypeId} {size : Nat} {v : Value} {n : Nat} {xs : List Value} (h : w.ownsRow base e size v n xs) (hb : Below w.heap.size w w') : w'.ownsRow base e size v n xs := by
  obtain ⟨h1, h2⟩ := h
  refine ⟨h1, ?_⟩
  rcases h2 with h2 | ⟨g, cap, cur, hv, hg, hh, r⟩
  · exact Or.inl h2
  · obtain ⟨hlt, _⟩ := Array.getElem?_eq_some_iff.1 hh
    exact Or.inr ⟨g, cap, cur, hv, hg, (hb.block g hlt).trans hh, r⟩

theorem Made.later {w0 wr w' : World} {N i cnt : Nat} {nx f : Nat → Nat} {fv : Value} (h : Made w0 wr N i cnt nx f fv) (hb : Below wr.heap.size wr w') : Made w0 w' N i cnt nx f fv :=
  ⟨h.below.trans (hb.mono h.below.size), h.row.of_block (hb.block _ h.row.lt), own_below h.own hb, Nat.le_trans h.size hb.size⟩

theorem made_start (w0 : World) (N : Nat) (nx f : Nat → Nat) : Made w0 ((w0.alloc (.cells (madeCells #[.int .i64 0] N) 3)).alloc (.cells #[] 3)) N 0 0 nx f (.slice (some ⟨w0.heap.size + 1, 0, none⟩) 0 0) := by
  refine ⟨bel2 _ _ _, ((World.rowIs_made w0 (.int .i64 0) N 3).alloc _).congr (fun j _ => by simp), ?_, by simp⟩
  have := World.ownsRow_made (base := w0.heap.size + 1) (e := 3) (size := 1) (w0.alloc (.cells (madeCells #[.int .i64 0] N) 3)) #[] 0 (by simp) (Nat.zero_le _) rfl
  simpa using this

theorem Made.put {w0 wr : World} {N i cnt : Nat} {nx f : Nat → Nat} {fv : Value} (h : Made w0 wr N i cnt nx f fv) (v : Nat) :
    Made w0 (wr.setCell ⟨w0.heap.size, i, none⟩ (.int .i64 v)) N (i + 1) cnt (fun a => if a = i then v else nx a) f fv := by
  refine ⟨h.below.setCell (Nat.le_refl _) _, (h.row.set i _).congr (fun j _ => ?_), ownsRow_setCell_below h.own (by show w0.heap.size < w0.heap.size + 1; omega) _, by simpa [World.setCell] using h.size⟩
  by_cases e : j = i
  · subst e; simp
  · rw [if_neg e]
    by_cases hlt : j < i
    · rw [if_pos hlt, if_pos (by omega), if_neg e]
    · rw [if_neg hlt, if_neg (by omega)]

theorem map_snoc (cnt i : Nat) (f : Nat → Nat) : ((List.range cnt).map fun c => Value.int .i64 (f c : Int)) ++ [Value.int .i64 (i : Int)] = (List.range (cnt + 1)).map fun c => Value.int .i64 ((if c = cnt then i else f c : Nat) : Int) := by
  rw [List.range_succ, List.map_append]
  congr 1
  · refine List.map_congr_left fun c hc => ?_
    have := List.mem_range.1 hc
    rw [if_neg (by omega)]
  · simp

theorem Made.push {w0 wr w1 : World} {N i cnt : Nat} {nx f : Nat → Nat} {g cap : Nat} {v' : Value} {o : Obj} (h : Made w0 wr N i cnt nx f (.slice (some ⟨g, 0, none⟩) cnt cap))
    (hown : w1.ownsRow (w0.heap.size + 1) 3 1 v' (cnt + 1) (((List.range cnt).map fun c => Value.int .i64 (f c : Int)) ++ [Value.int .i64 (i : Int)])) (hg : (wr.alloc o).grownBy w1 (some g)) :
    Made w0 w1 N i (cnt + 1) nx (fun c => if c = cnt then i else f c) v' ∧ ∃ g' cap', v' = .slice (some ⟨g', 0, none⟩) (cnt + 1) cap' := by
  have hgl : w0.heap.size + 1 ≤ g := (h.own.lt g rfl).1
  have hs : (wr.alloc o).heap.size = wr.heap.size + 1 := by simp
  have hsz := hg.size
  have hws := h.size
  refine ⟨⟨(h.below.alloc h.below.size o).grown hg (by rw [hs]; have := h.below.size; omega) (fun k hk => by cases hk; omega),
    (h.row.alloc o).of_block (hg.block _ (by rw [hs]; omega) (fun e => by cases e; omega)), by rw [← map_snoc]; exact hown, by omega⟩, ?_⟩
  rcases hown.2 with ⟨_, h0⟩ | ⟨g', cap', _, hv, _⟩
  · omega
  · exact ⟨g', cap', hv⟩

theorem own_cell {w : World} {base g n cap : Nat} {f : Nat → Nat} (h : w.ownsRow base 3 1 (.slice (some ⟨g, 0, none⟩) n cap) n ((List.range n).map fun c => Value.int .i64 (f c : Int))) {c : Nat} (hc : c < n) :
    w.cell? ⟨g, c, none⟩ = some (.int .i64 (f c)) := by
  rw [h.cellAt c (by omega)]; simp [hc]

set_option maxRecDepth 100000 in
set_option maxHeartbeats 16000000 in
theorem c12 (ao : Option Addr) (gb go N gc : Nat) (p : Nat → NP) (G : Nat → ND) (w : World) (h1 : NodesAt w ao gb go N p G) (hK : Kids N G) (hN : N ≤ 4000) :
    Calls Try.prog 12 #[.agg #[.slice ao N gc]] w fun e w' => ∃ (nb : Nat) (nx : Nat → Nat), e = .returned (.slice (some ⟨nb, 0, none⟩) N N) ∧ IntsAt w' (some ⟨nb, 0, none⟩) nb 0 N (fun i => (nx i : Int)) ∧
      (∀ a b, a < N → b < N → (nx a = nx b ↔ Same N G a b)) ∧ Below w.heap.size w w' := by
  have HB : Hid (∀ w', Below w.heap.size w w' → NodesAt w' ao gb go N p G) := fun w' hb => h1.below hb
  have HKK : Hid (Kids N G) := hK
  clear h1 hK
  have hmk := run_make_row' (P := Try.prog) 36 3 (.int .i64 0) 8 Try.underlying36 Try.info3 rfl .i64 .i64 N (by omega) (by omega)
  go_enter Try.func12, Try.ntmps12
  go_wp2
  go_loopw [4, 5, 6] (fun s4 s5 s6 wr => ∃ (r count cb : Nat) (cl : Nat → Nat), r ≤ N + 1 ∧ s6 = .int .i64 r ∧ s5 = .int .i64 count ∧ s4 = .slice (some ⟨cb, 0, none⟩) N N ∧ cb < wr.heap.size ∧
      IntsAt wr (some ⟨cb, 0, none⟩) cb 0 N (fun i => (cl i : Int)) ∧ Below w.heap.size w wr ∧ w.heap.size < wr.heap.size ∧ wr.cell? ⟨w.heap.size, 0, none⟩ = some (.slice ao N gc) ∧ Hid (Rnd N G cl r count) ∧ count ≤ 4001)
    (fun _ _ s6 _ => N + 1 - (intOf s6).toNat)
  case atStart =>
    have R := World.rowIs_made (w.alloc (.cells #[.slice ao N gc] 29)) (.int .i64 0) N 3
    simp only [World.size_alloc] at R
    exact ⟨0, 1, w.heap.size + 1, fun _ => 0, by omega, rfl, rfl, rfl, by simp, ⟨fun _ => rfl, fun i hi => by rw [Nat.zero_add, R.cell hi]; rfl, by omega⟩, bel2 _ _ _, by simp; omega, by simp, Rnd.start N G, by omega⟩
  case round =>
    rename World => w0
    obtain ⟨r, count, cb, cl, hr, rfl, rfl, rfl, hcb, hC, hb, hz, hbox, HR, hcount⟩ := hrel
    by_cases hrN : r ≤ N
    case neg =>
      have hr1 : r = N + 1 := by omega
      subst hr1
      have hN0 := HR.out.last
      have HE : Hid (∀ a b, a < N → b < N → (cl a = cl b ↔ Same N G a b)) := fun a b ha _ => absurd ha (by omega)
      clear hN0 HR
      go_wp2
      go_ret
      exact ⟨cb, cl, rfl, hC, HE.out, hb⟩
    go_wp2
    have hF0 := made_start w0 N (fun _ => 0) (fun _ => 0)
    go_loopw [8, 9] (fun s8 s9 wi => ∃ (i cnt g cap : Nat) (nx f : Nat → Nat), i ≤ N ∧ s9 = .int .i64 i ∧ s8 = .slice (some ⟨g, 0, none⟩) cnt cap ∧ Made w0 wi N i cnt nx f (.slice (some ⟨g, 0, none⟩) cnt cap) ∧ Hid (Part G cl i nx cnt f) ∧ cnt ≤ i)
      (fun _ s9 _ => N - (intOf s9).toNat)
    case atStart => exact ⟨0, 0, w0.heap.size + 1, 0, fun _ => 0, fun _ => 0, Nat.zero_le _, rfl, rfl, hF0, Part.zero _ _ _ _, Nat.le_refl _⟩
    case round =>
      rename World => wi
      obtain ⟨i, cnt, g, cap, nx, f, hi, rfl, rfl, hM, HP, hci⟩ := hrel
      clear hF0
      by_cases hiN : i < N
      case neg =>
        have hiN' : i = N := by omega
        subst hiN'
        have hI : IntsAt wi (some ⟨w0.heap.size, 0, none⟩) w0.heap.size 0 i (fun a => (nx a : Int)) := ⟨fun _ => rfl, fun a ha => by rw [Nat.zero_add, hM.row.cell ha, if_pos ha], by omega⟩
        have hbi : Below w.heap.size w wi := hb.trans (hM.below.mono hb.size)
        have hbox' : wi.cell? ⟨w.heap.size, 0, none⟩ = some (.slice ao i gc) := (hM.below.cell (p := ⟨w.heap.size, 0, none⟩) hz).trans hbox
        have hzi : w.heap.size < wi.heap.size := by have := hM.below.size; omega
        have hni : w0.heap.size < wi.heap.size := hM.row.lt
        clear hM
        by_cases hdone : cnt = count ∧ 0 < r
        · have HE : Hid (∀ a b, a < i → b < i → (nx a = nx b ↔ Same i G a b)) := HR.out.done HKK.out hdone.2 HP.out hdone.1
          have b1 : ((cnt : Int) == (count : Int)) = true := by rw [beq_iff_eq]; omega
          have b2 : (0 : Int) < (r : Int) := by omega
          clear hdone HR HP
          go_wp2
          go_ret
          exact ⟨w0.heap.size, nx, rfl, hI, HE.out, hbi⟩
        · have HR' : Hid (Rnd i G nx (r + 1) cnt) := HR.out.next HKK.out HP.out hdone
          clear HR HP
          by_cases hcc : cnt = count
          · have hr0 : r = 0 := by omega
            subst hr0
            have b1 : ((cnt : Int) == (count : Int)) = true := by rw [beq_iff_eq]; omega
            clear hdone hcc
            go_wp2
            go_roundw
            case rel => exact ⟨1, cnt, w0.heap.size, nx, by omega, by go_num, rfl, rfl, hni, hI, hbi, hzi, hbox', HR', by omega⟩
            case measure => simp [intOf]
          · have b1 : ((cnt : Int) == (count : Int)) = false := beq_eq_false_iff_ne.2 (by omega)
            clear hdone hcc
            go_wp2
            go_roundw
            case rel => exact ⟨r + 1, cnt, w0.heap.size, nx, by omega, by go_num, rfl, rfl, hni, hI, hbi, hzi, hbox', HR', by omega⟩
            case measure => simp [intOf]; omega
      clear hmk
      go_wp2
      go_loopw [10, 11] (fun s10 s11 wx => ∃ (c : Nat) (t : Int), c ≤ cnt ∧ s11 = .int .i64 c ∧ s10 = .int .i64 t ∧ Hid ((t = -1 ∧ ∀ c', c' < c → ¬ Eqv G cl (f c') i) ∨ ∃ c0 : Nat, c0 < c ∧ t = c0 ∧ Eqv G cl (f c0) i) ∧ Below wi.heap.size wi wx)
        (fun _ s11 _ => cnt - (intOf s11).toNat)
      case atStart => exact ⟨0, -1, Nat.zero_le _, rfl, rfl, Or.inl ⟨rfl, fun _ h => absurd h (Nat.not_lt_zero _)⟩, Below.refl _ _⟩
      case round =>
        rename World => wx
        obtain ⟨c, t, hc, rfl, rfl, HT, hbx⟩ := hrel
        have hMx := hM.later hbx
        have hbw : Below w.heap.size w wx := hb.trans (hMx.below.mono hb.size)
        by_cases hcc : c < cnt
        · have fc := own_cell hMx.own hcc
          have hfi : f c < i := (HP.out.first c hcc).1
          have hCx := hC.below hMx.below
          have c1 := hCx.cell (f c) (by omega)
          have c2 := hCx.cell i hiN
          simp only [Nat.zero_add] at c1 c2
          have bx : wx.cell? ⟨w.heap.size, 0, none⟩ = some (.slice ao N gc) := (hMx.below.cell (p := ⟨w.heap.size, 0, none⟩) hz).trans hbox
          have l1 : (f c : Int) < (N : Int) := by omega
          have l2 : (i : Int) < (N : Int) := by omega
          have l3 : (c : Int) < (cnt : Int) := by omega
          have NW : NodesAt wx.drew ao gb go N p G := HB.out _ hbw.drew
          have CW : IntsAt wx.drew (some ⟨cb, 0, none⟩) cb 0 N (fun i => (cl i : Int)) := hCx.below (Below.refl _ _).drew
          rcases HT.out with ⟨rfl, hno⟩ | ⟨c0, hc0, rfl, he⟩
          · have HNO : Hid (∀ c', c' < c → ¬ Eqv G cl (f c') i) := hno
            clear HT hno hM hMx hCx hbox hC
            by_cases hcl : cl (f c) = cl i
            · have HCL : Hid (cl (f c) = cl i) := hcl
              have bq : ((cl (f c) : Int) == (cl i : Int)) = true := by rw [beq_iff_eq]; omega
              clear hcl
              go_wp2
              have hfN : f c < N := by omega
              have zg : g < wx.heap.size := World.block_lt_of_cell? _ _ fc
              have zc : cb < wx.heap.size := World.block_lt_of_cell? _ _ c2
              have zw : w.heap.size < wx.heap.size := World.block_lt_of_cell? _ _ bx
              go_region_held3 (fun w' => w'.cell? ⟨g, c, none⟩ = some (.int .i64 (f c)) ∧ w'.cell? ⟨cb, f c, none⟩ = some (.int .i64 (cl (f c))) ∧ w'.cell? ⟨cb, i, none⟩ = some (.int .i64 (cl i)) ∧ w'.cell? ⟨w.heap.size, 0, none⟩ = some (.slice ao N gc)) (go_keep)
                (first | (go_at_call 22; refine (c22 ao gb go N gc p G (some ⟨cb, 0, none⟩) cb 0 N cl (f c) i _ NW CW HKK.out hfN hiN).mono ?_; rintro e w' ⟨q, rfl, hq, hb'⟩; have z1 := (hb'.cell (p := ⟨g, c, none⟩) zg).trans fc; have z2 := (hb'.cell (p := ⟨cb, f c, none⟩) zc).trans c1; have z3 := (hb'.cell (p := ⟨cb, i, none⟩) zc).trans c2; have z4 := (hb'.cell (p := ⟨w.heap.size, 0, none⟩) zw).trans bx))
              all_goals
                have HQ : Hid (q = true ↔ Alike G cl (f c) i) := hq
                have B3 : Below wi.heap.size wi w' := hbx.trans (Below.trans (Below.refl _ _).drew (hb'.mono hbx.size))
                clear hq hb' NW CW
                cases q
                · have HK : Hid (¬ Eqv G cl (f c) i) := fun h => by have := HQ.out.2 h.2; cases this
                  clear HQ
                  go_wp2
                  go_roundw
                  case rel => exact ⟨c + 1, -1, by omega, by go_num, rfl, Or.inl ⟨rfl, fun c' h' => by
                    by_cases e : c' = c
                    · subst e; exact HK.out
                    · exact HNO.out c' (by omega)⟩, B3⟩
                  case measure => simp [intOf]; omega
                · have HK : Hid (Eqv G cl (f c) i) := ⟨HCL.out, HQ.out.1 rfl⟩
                  clear HQ
                  go_wp2
                  go_roundw
                  case rel => exact ⟨c + 1, c, by omega, by go_num, rfl, Or.inr ⟨c, by omega, rfl, HK.out⟩, B3⟩
                  case measure => simp [intOf]; omega
            · have HK : Hid (¬ Eqv G cl (f c) i) := fun h => hcl h.1
              have bq : ((cl (f c) : Int) == (cl i : Int)) = false := beq_eq_false_iff_ne.2 (by omega)
              clear hcl NW CW
              go_wp2
              go_quiet (fail)
              go_wp2
              go_roundw
              case rel => exact ⟨c + 1, -1, by omega, by go_num, rfl, Or.inl ⟨rfl, fun c' h' => by
                by_cases e : c' = c
                · subst e; exact HK.out
                · exact HNO.out c' (by omega)⟩, hbx.trans ((below_drewN' _ _).mono hbx.size)⟩
              case measure => simp [intOf]; omega
          · have HE : Hid (Eqv G cl (f c0) i) := he
            have d0 : decide ((c0 : Int) < 0) = false := decide_eq_false (by omega)
            clear HT he hM hMx hCx hbox hC NW CW
            go_wp2
            go_quiet (fail)
            go_wp2
            go_roundw
            case rel => exact ⟨c + 1, c0, by omega, by go_num, rfl, Or.inr ⟨c0, by omega, rfl, HE.out⟩, hbx.trans ((below_drewN' _ _).mono hbx.size)⟩
            case measure => simp [intOf]; omega
        · have hcc' : c = cnt := by omega
          subst hcc'
          have l2 : (i : Int) < (N : Int) := by omega
          rcases HT.out with ⟨rfl, hno⟩ | ⟨c0, hc0, rfl, he⟩
          · have HP' : Hid (Part G cl (i + 1) (fun a => if a = i then c else nx a) (c + 1) (fun d => if d = c then i else f d)) := HP.out.fresh hno
            obtain ⟨i0, hi0, hz0, hz1, hz2⟩ := info_parts Try.info3
            have OWN := hMx.own
            have hsz := hMx.size
            clear HT hno HP hM
            go_wp2_with (first | (at_builtin; refine wpList_append_own _ rfl _ _ 36 rfl (w0.heap.size + 1) 3 i0 (.int .i64 0) 1 8 Try.underlying36 hi0 hz0 hz1 hz2 rfl (by decide) _ _ _ rfl (OWN.alloc _) ⟨wx.heap.size, 0, none⟩ 1 1 [.int .i64 (i : Int)] rfl rfl (cell_one_new _ _ _) (ints_oneCell .i64 [(i : Int)]) (by unfold maxLen; omega) (by omega) (by simp; omega) ?_; intro v' w1 hown' hgrow _; have PM := Made.push hMx hown' hgrow; have s1 := PM.1.row.cell hiN; have s2 := PM.1.row.frozen i; simp only [Nat.lt_irrefl, if_false] at s1))
            obtain ⟨g', cap', hv'⟩ := PM.2
            have HN := PM.1.put c
            clear PM hown' hgrow
            rw [hv'] at HN ⊢
            go_wp2
            go_roundw
            case rel => exact ⟨i + 1, c + 1, g', cap', _, _, by omega, by go_num, rfl, HN, HP', by omega⟩
            case measure => simp [intOf]; omega
          · have HP' : Hid (Part G cl (i + 1) (fun a => if a = i then c0 else nx a) c f) := HP.out.old hc0 he
            have s1 := hMx.row.cell hiN
            have s2 := hMx.row.frozen i
            simp only [Nat.lt_irrefl, if_false] at s1
            have HN := hMx.put c0
            have d0 : ¬ ((c0 : Int) < 0) := by omega
            clear HT he HP hM hMx
            go_wp2
            go_roundw
            case rel => exact ⟨i + 1, c, g, cap, _, f, by omega, by go_num, rfl, HN, HP', by omega⟩
            case measure => simp [intOf]; omega

end Go.Proofs.Ytdgbcblajgmpcaa
