/-
  A node is taken out of its part.
-/
import Derived.Test.YtpbpbppimkeodaaGreatDoorPt2
namespace Go.Proofs.YtpbpbppimkeodaaGreatDoor
open Go.RowKit Go.Maps

theorem icells_set (l : List Nat) (i a : Nat) : icells (l.set i a) = (icells l).set i (.int .i64 (a : Int)) := by
  unfold icells; rw [List.map_set]

theorem own_shorter {w : World} {base g cap n : Nat} {xs : List Value} {e : TypeId} (h : w.ownsRow base e 1 (.slice (some ⟨g, 0, none⟩) (n + 1) cap) (n + 1) xs) : w.ownsRow base e 1 (.slice (some ⟨g, 0, none⟩) n cap) n xs.dropLast := by
  obtain ⟨h1, h2⟩ := h
  refine ⟨by rw [List.length_dropLast]; omega, ?_⟩
  rcases h2 with ⟨hv, _⟩ | ⟨g', cap', cur, hv, hb, hh, hc, hm, hs, ht⟩
  · cases hv
  · simp only [Value.slice.injEq, Option.some.injEq, Addr.mk.injEq, and_true, true_and] at hv
    obtain ⟨rfl, rfl⟩ := hv
    refine Or.inr ⟨g, cap, cur, rfl, hb, hh, by omega, hm, hs, ?_⟩
    rw [← ht, List.dropLast_eq_take, List.length_take, List.take_take]
    congr 1
    have : cur.toList.length = cap * 1 := by rw [Array.length_toList]; exact hs
    omega

theorem own_cap {w : World} {base g cap n size : Nat} {xs : List Value} {e : TypeId} (h : w.ownsRow base e size (.slice (some ⟨g, 0, none⟩) n cap) n xs) : n ≤ cap := by
  rcases h.2 with ⟨hv, _⟩ | ⟨g', cap', cur, hv, hb, hh, hc, r⟩
  · cases hv
  · simp only [Value.slice.injEq] at hv
    omega

theorem Pt.take {w : World} {base pb bo ba N rb capR L cap g part i last : Nat} {wv qv : Value} {rvs : Nat → Value} {s : PS}
    (h : Pt w base pb bo ba N (.slice (some ⟨rb, 0, none⟩) s.nr capR) wv qv rvs s) (hp : part < s.nr) (hL : L + 1 = (s.rows part).length) (hv : rvs part = .slice (some ⟨g, 0, none⟩) (L + 1) cap) :
    Pt (((w.setCell ⟨g, i, none⟩ (.int .i64 (last : Int))).setCell ⟨ba, last, none⟩ (.int .i64 (i : Int))).setCell ⟨rb, part, none⟩ (.slice (some ⟨g, 0, none⟩) L cap)) base pb bo ba N (.slice (some ⟨rb, 0, none⟩) s.nr capR) wv qv (upd rvs part (.slice (some ⟨g, 0, none⟩) L cap))
      { s with loc := upd s.loc last i, rows := upd s.rows part ((s.rows part).set i last).dropLast } ∧ Fr base w (((w.setCell ⟨g, i, none⟩ (.int .i64 (last : Int))).setCell ⟨ba, last, none⟩ (.int .i64 (i : Int))).setCell ⟨rb, part, none⟩ (.slice (some ⟨g, 0, none⟩) L cap)) (pblk pb bo ba (.slice (some ⟨rb, 0, none⟩) s.nr capR) wv qv rvs s.nr) (pblk pb bo ba (.slice (some ⟨rb, 0, none⟩) s.nr capR) wv qv (upd rvs part (.slice (some ⟨g, 0, none⟩) L cap)) s.nr) := by
  have P0 : pblk pb bo ba (.slice (some ⟨rb, 0, none⟩) s.nr capR) wv qv rvs s.nr 0 = some pb := rfl
  have P2 : pblk pb bo ba (.slice (some ⟨rb, 0, none⟩) s.nr capR) wv qv rvs s.nr 2 = some ba := rfl
  have P3 : pblk pb bo ba (.slice (some ⟨rb, 0, none⟩) s.nr capR) wv qv rvs s.nr 3 = some rb := rfl
  have PP : pblk pb bo ba (.slice (some ⟨rb, 0, none⟩) s.nr capR) wv qv rvs s.nr (part + 6) = some g := by simp only [pblk]; rw [if_pos hp, hv]; rfl
  have lt := h.blk_lt
  have hg : ∀ k, k ≠ part + 6 → ∀ x, pblk pb bo ba (.slice (some ⟨rb, 0, none⟩) s.nr capR) wv qv rvs s.nr k = some x → x ≠ g := fun k hk x hx e => hk (h.dis _ _ x hx (by rw [PP, e]))
  have key : ∀ k x, k ≠ 2 → k ≠ 3 → k ≠ part + 6 → pblk pb bo ba (.slice (some ⟨rb, 0, none⟩) s.nr capR) wv qv rvs s.nr k = some x → (((w.setCell ⟨g, i, none⟩ (.int .i64 (last : Int))).setCell ⟨ba, last, none⟩ (.int .i64 (i : Int))).setCell ⟨rb, part, none⟩ (.slice (some ⟨g, 0, none⟩) L cap)).heap[x]? = w.heap[x]? := fun k x h2 h3 hk hx => by
    rw [Below.heap_setCell _ _ _ _ (by show x ≠ rb; exact fun e => h3 (h.dis _ _ x hx (by rw [P3, e]))), Below.heap_setCell _ _ _ _ (by show x ≠ ba; exact fun e => h2 (h.dis _ _ x hx (by rw [P2, e]))), Below.heap_setCell _ _ _ _ (by show x ≠ g; exact hg k hk x hx)]
  have nar : ba ≠ rb := fun e => by have := h.dis 2 3 ba P2 (by rw [P3, e]); omega
  have nga : g ≠ ba := fun e => by have := h.dis (part + 6) 2 g PP (by rw [P2, e]); omega
  have ngr : g ≠ rb := fun e => by have := h.dis (part + 6) 3 g PP (by rw [P3, e]); omega
  have HD := dis_upd (v := .slice (some ⟨g, 0, none⟩) L cap) h hp (g := g) rfl (by rw [hv]; exact Or.inl rfl)
  have hI := h.inner part hp
  rw [hv, ← hL] at hI
  refine ⟨⟨h.row.of_block (key 0 pb (by omega) (by omega) (by omega) P0), h.of_.of_block (key 1 bo (by omega) (by omega) (by omega) rfl), ?_, ?_, fun j hj => ?_, own_block h.waits (fun k e => key 4 k (by omega) (by omega) (by omega) e.symm), own_block h.waiting (fun k e => key 5 k (by omega) (by omega) (by omega) e.symm), HD, ⟨h.big.1, h.big.2.1, h.big.2.2.1, by simpa [World.setCell] using h.big.2.2.2⟩⟩, ⟨⟨rfl, rfl, rfl, by simp [World.setCell], fun k hk => ?_⟩, fun k hk hno => ?_, fun j x e => ?_⟩⟩
  · have r1 : (w.setCell ⟨g, i, none⟩ (.int .i64 (last : Int))).rowIs ba 3 N (fun i => .int .i64 (s.loc i : Int)) := h.loc_.of_block (Below.heap_setCell _ _ _ _ (by show ba ≠ g; exact fun e => nga e.symm))
    refine ((r1.set last (.int .i64 (i : Int))).of_block (Below.heap_setCell _ _ _ _ (by show ba ≠ rb; exact nar))).congr (fun k _ => ?_)
    simp only [upd]
    by_cases e : k = last
    · rw [if_pos e, if_pos e]
    · rw [if_neg e, if_neg e]
  · have hr : ((w.setCell ⟨g, i, none⟩ (.int .i64 (last : Int))).setCell ⟨ba, last, none⟩ (.int .i64 (i : Int))).ownsRow base 25 1 (.slice (some ⟨rb, 0, none⟩) s.nr capR) s.nr ((List.range s.nr).map rvs) := own_block h.rows (fun k e => by
      have : k = rb := by simpa [Value.ownBlock] using e
      subst this
      rw [Below.heap_setCell _ _ _ _ (by show k ≠ ba; exact fun e => nar e.symm), Below.heap_setCell _ _ _ _ (by show k ≠ g; exact fun e => ngr e.symm)])
    have := (hr.stored part (.slice (some ⟨g, 0, none⟩) L cap)).1
    rw [map_set] at this
    exact this
  · by_cases e : j = part
    · subst e
      show World.ownsRow _ base 3 1 (upd rvs j _ j) (upd s.rows j _ j).length (icells (upd s.rows j _ j))
      rw [upd_same, upd_same]
      have h1 := (hI.stored i (.int .i64 (last : Int))).1
      rw [← icells_set] at h1
      have h2 := own_shorter h1
      have e1 : ((s.rows j).set i last).dropLast.length = L := by rw [List.length_dropLast, List.length_set]; omega
      have e2 : icells (((s.rows j).set i last).dropLast) = (icells ((s.rows j).set i last)).dropLast := by unfold icells; rw [List.map_dropLast]
      rw [e1, e2]
      exact own_block h2 (fun k e => by
        have : k = g := by simpa [Value.ownBlock] using e
        subst this
        rw [Below.heap_setCell _ _ _ _ (by show k ≠ rb; exact ngr), Below.heap_setCell _ _ _ _ (by show k ≠ ba; exact nga)])
    · show World.ownsRow _ base 3 1 (upd rvs part _ j) (upd s.rows part _ j).length (icells (upd s.rows part _ j))
      rw [upd_other rvs _ e, upd_other s.rows _ e]
      exact own_block (h.inner j hj) (fun k q => key (j + 6) k (by omega) (by omega) (by omega) (by simp only [pblk]; rw [if_pos (show j < s.nr from hj)]; exact q.symm))
  · have h2 := (lt 2 ba P2).1
    have h3 := (lt 3 rb P3).1
    have h6 := (lt (part + 6) g PP).1
    rw [Below.heap_setCell _ _ _ _ (by show k ≠ rb; omega), Below.heap_setCell _ _ _ _ (by show k ≠ ba; omega), Below.heap_setCell _ _ _ _ (by show k ≠ g; omega)]
  · rw [Below.heap_setCell _ _ _ _ (by show k ≠ rb; exact fun e => hno 3 (by rw [P3, e])), Below.heap_setCell _ _ _ _ (by show k ≠ ba; exact fun e => hno 2 (by rw [P2, e])), Below.heap_setCell _ _ _ _ (by show k ≠ g; exact fun e => hno (part + 6) (by rw [PP, e]))]
  · rw [pblk_upd hp] at e
    by_cases q : j = part + 6
    · rw [if_pos q] at e
      exact Or.inl ⟨part + 6, by rw [PP]; exact e⟩
    · rw [if_neg q] at e
      exact Or.inl ⟨j, e⟩


set_option maxRecDepth 100000 in
set_option maxHeartbeats 4000000 in
theorem c113 (base pb bo ba N : Nat) (rv wv qv : Value) (rvs : Nat → Value) (s : PS) (node part i last L : Nat) (w : World) (h : Pt w base pb bo ba N rv wv qv rvs s) (hn : node < N) (hpo : s.of node = part) (hp : part < s.nr) (hr : s.nr ≤ 1048576) (_hN : N ≤ 1048576)
    (hi : s.loc node = i) (hL : L + 1 = (s.rows part).length) (hiL : i < L + 1) (hla : (s.rows part).getD L 0 = last) (hlN : last < N) (hl : L ≤ 1048576) :
    Calls Tryz.prog 122 #[.pointer (some ⟨pb, 0, none⟩), .int .i64 (node : Int)] w fun e w' => e = .returned (.tuple #[]) ∧ ∃ v', Pt w' base pb bo ba N rv wv qv (upd rvs part v') { s with loc := upd s.loc last i, rows := upd s.rows part ((s.rows part).set i last).dropLast } ∧ Fr base w w' (pblk pb bo ba rv wv qv rvs s.nr) (pblk pb bo ba rv wv qv (upd rvs part v') s.nr) := by
  obtain ⟨rb, capR, rfl, hrc, hrf, hrl⟩ := own_some h.rows (by omega)
  have hI := h.inner part hp
  rw [← hL] at hI
  obtain ⟨g, cap, hv, hgc, hgf, hgl⟩ := own_some hI (by omega)
  have HH : Hid (Pt w base pb bo ba N (.slice (some ⟨rb, 0, none⟩) s.nr capR) wv qv rvs s) := h
  have HV : Hid (rvs part = .slice (some ⟨g, 0, none⟩) (L + 1) cap) := hv
  have HL : Hid (L + 1 = (s.rows part).length) := hL
  have r0 : w.cell? ⟨pb, 0, none⟩ = some (.slice (some ⟨bo, 0, none⟩) N N) := h.row.cell (i := 0) (by omega)
  have r1 : w.cell? ⟨pb, 1, none⟩ = some (.slice (some ⟨rb, 0, none⟩) s.nr capR) := h.row.cell (i := 1) (by omega)
  have r2 : w.cell? ⟨pb, 2, none⟩ = some (.slice (some ⟨ba, 0, none⟩) N N) := h.row.cell (i := 2) (by omega)
  have c0 : w.cell? ⟨bo, node, none⟩ = some (.int .i64 (part : Int)) := by rw [h.of_.cell hn, hpo]
  have d0 : w.cell? ⟨ba, node, none⟩ = some (.int .i64 (i : Int)) := by rw [h.loc_.cell hn, hi]
  have d1 := h.loc_.cell hlN
  have d2 := h.loc_.frozen last
  have x0 : w.cell? ⟨rb, part, none⟩ = some (.slice (some ⟨g, 0, none⟩) (L + 1) cap) := by rw [hrc part hp]; simp [hp, hv]
  have x1 := hrf part
  have y0 : w.cell? ⟨g, L, none⟩ = some (.int .i64 (last : Int)) := by
    rw [hgc L (by omega)]
    have hlen : L < (s.rows part).length := by omega
    rw [← hla]
    simp [icells, List.getD, List.getElem?_eq_getElem hlen]
  obtain ⟨yv, y1⟩ : ∃ yv, w.cell? ⟨g, i, none⟩ = some yv := by
    rw [hgc i hiL]
    have hlen : i < (s.rows part).length := by omega
    exact ⟨_, by simp [icells, List.getElem?_eq_getElem hlen]; rfl⟩
  have y2 := hgf i
  have hcap : L + 1 ≤ cap := by rw [hv] at hI; exact own_cap hI
  have hcap2 : (L : Int) ≤ (cap : Int) := by omega
  have hcap3 : (0 : Int) ≤ (L : Int) := by omega
  have dd : ∀ a b x y : Nat, pblk pb bo ba (.slice (some ⟨rb, 0, none⟩) s.nr capR) wv qv rvs s.nr a = some x → pblk pb bo ba (.slice (some ⟨rb, 0, none⟩) s.nr capR) wv qv rvs s.nr b = some y → a ≠ b → x ≠ y := fun a b x y ha hb hab e => hab (h.dis a b x ha (by rw [hb, e]))
  have PP : pblk pb bo ba (.slice (some ⟨rb, 0, none⟩) s.nr capR) wv qv rvs s.nr (part + 6) = some g := by simp only [pblk]; rw [if_pos hp, hv]; rfl
  have n1 : pb ≠ g := dd 0 (part + 6) pb g rfl PP (by omega)
  have n2 : bo ≠ g := dd 1 (part + 6) bo g rfl PP (by omega)
  have n3 : ba ≠ g := dd 2 (part + 6) ba g rfl PP (by omega)
  have n4 : rb ≠ g := dd 3 (part + 6) rb g rfl PP (by omega)
  have n5 : pb ≠ ba := dd 0 2 pb ba rfl rfl (by omega)
  have n6 : bo ≠ ba := dd 1 2 bo ba rfl rfl (by omega)
  have n7 : rb ≠ ba := dd 3 2 rb ba rfl rfl (by omega)
  have n8 : pb ≠ rb := dd 0 3 pb rb rfl rfl (by omega)
  have n9 : bo ≠ rb := dd 1 3 bo rb rfl rfl (by omega)
  clear h hrc hrf hgc hgf hI hv hL dd PP hpo hi hla
  go_enter Tryz.func122, Tryz.ntmps122
  have hi1 : (node : Int) < (N : Int) := by omega
  have hi2 : (part : Int) < (s.nr : Int) := by omega
  have hw1 : IntKind.i64.wrap ((L : Int) + 1 - 1) = (L : Int) := by rw [IntKind.wrap_i64]; omega
  have hw2 : IntKind.i64.wrap (L : Int) = (L : Int) := by rw [IntKind.wrap_i64]; omega
  have hw3 : (L : Int) < (L : Int) + 1 := by omega
  have hw4 : (i : Int) < (L : Int) + 1 := by omega
  have hw5 : (last : Int) < (N : Int) := by omega
  go_wp2_with fail
  go_quiet (fail)
  go_wp2_with fail
  obtain ⟨wa, hwa⟩ : ∃ wa, wa = (w.drewN nq).setCell ⟨g, i, none⟩ (.int .i64 (last : Int)) := ⟨_, rfl⟩
  have HWA : Hid (wa = (w.drewN nq).setCell ⟨g, i, none⟩ (.int .i64 (last : Int))) := hwa
  have a0 : wa.cell? ⟨pb, 0, none⟩ = some (.slice (some ⟨bo, 0, none⟩) N N) := by rw [hwa, far_cell (by show pb ≠ g; exact n1)]; exact r0
  have a1 : wa.cell? ⟨pb, 1, none⟩ = some (.slice (some ⟨rb, 0, none⟩) s.nr capR) := by rw [hwa, far_cell (by show pb ≠ g; exact n1)]; exact r1
  have a2 : wa.cell? ⟨pb, 2, none⟩ = some (.slice (some ⟨ba, 0, none⟩) N N) := by rw [hwa, far_cell (by show pb ≠ g; exact n1)]; exact r2
  have a3 : wa.cell? ⟨ba, node, none⟩ = some (.int .i64 (i : Int)) := by rw [hwa, far_cell (by show ba ≠ g; exact n3)]; exact d0
  have a4 : wa.cell? ⟨ba, last, none⟩ = some (.int .i64 (s.loc last : Int)) := by rw [hwa, far_cell (by show ba ≠ g; exact n3)]; exact d1
  have a5 : wa.frozen? ⟨ba, last, none⟩ = false := by rw [hwa, World.frozen?_of_block (w := w.drewN nq) (Below.heap_setCell _ _ _ _ (by show ba ≠ g; exact n3))]; exact d2
  have a6 : wa.cell? ⟨bo, node, none⟩ = some (.int .i64 (part : Int)) := by rw [hwa, far_cell (by show bo ≠ g; exact n2)]; exact c0
  have a7 : wa.cell? ⟨rb, part, none⟩ = some (.slice (some ⟨g, 0, none⟩) (L + 1) cap) := by rw [hwa, far_cell (by show rb ≠ g; exact n4)]; exact x0
  have a8 : wa.frozen? ⟨rb, part, none⟩ = false := by rw [hwa, World.frozen?_of_block (w := w.drewN nq) (Below.heap_setCell _ _ _ _ (by show rb ≠ g; exact n4))]; exact x1
  have b0 : (wa.setCell ⟨ba, last, none⟩ (.int .i64 (i : Int))).cell? ⟨pb, 0, none⟩ = some (.slice (some ⟨bo, 0, none⟩) N N) := by rw [far_cell (by show pb ≠ ba; exact n5)]; exact a0
  have b1 : (wa.setCell ⟨ba, last, none⟩ (.int .i64 (i : Int))).cell? ⟨pb, 1, none⟩ = some (.slice (some ⟨rb, 0, none⟩) s.nr capR) := by rw [far_cell (by show pb ≠ ba; exact n5)]; exact a1
  have b2 : (wa.setCell ⟨ba, last, none⟩ (.int .i64 (i : Int))).cell? ⟨pb, 2, none⟩ = some (.slice (some ⟨ba, 0, none⟩) N N) := by rw [far_cell (by show pb ≠ ba; exact n5)]; exact a2
  have b3 : (wa.setCell ⟨ba, last, none⟩ (.int .i64 (i : Int))).cell? ⟨ba, node, none⟩ = some (.int .i64 (i : Int)) := by
    by_cases e : node = last
    · subst e
      exact World.cell?_setCell_same _ _ _ a3
    · rw [World.cell?_setCell_other _ _ _ _ (fun q => e (by have := congrArg Addr.off q; first | exact this | exact this.symm))]; exact a3
  have b6 : (wa.setCell ⟨ba, last, none⟩ (.int .i64 (i : Int))).cell? ⟨bo, node, none⟩ = some (.int .i64 (part : Int)) := by rw [far_cell (by show bo ≠ ba; exact n6)]; exact a6
  have b7 : (wa.setCell ⟨ba, last, none⟩ (.int .i64 (i : Int))).cell? ⟨rb, part, none⟩ = some (.slice (some ⟨g, 0, none⟩) (L + 1) cap) := by rw [far_cell (by show rb ≠ ba; exact n7)]; exact a7
  have b8 : (wa.setCell ⟨ba, last, none⟩ (.int .i64 (i : Int))).frozen? ⟨rb, part, none⟩ = false := by rw [World.frozen?_of_block (w := wa) (Below.heap_setCell _ _ _ _ (by show rb ≠ ba; exact n7))]; exact a8
  rw [← hwa]
  clear r0 r1 r2 c0 d0 d1 d2 x0 x1 y0 y1 y2 hwa
  go_region_held3 (fun w' => w'.cell? ⟨pb, 2, none⟩ = some (.slice (some ⟨ba, 0, none⟩) N N) ∧ w'.cell? ⟨ba, node, none⟩ = some (.int .i64 (i : Int))) (go_keep) (fail)
  all_goals
    obtain ⟨wb, hwb⟩ : ∃ wb, wb = wa.setCell ⟨ba, last, none⟩ (.int .i64 (i : Int)) := ⟨_, rfl⟩
    have HWB : Hid (wb = wa.setCell ⟨ba, last, none⟩ (.int .i64 (i : Int))) := hwb
    rw [← hwb] at b0 b1 b6 b7 b8 ⊢
    have e0 : (wb.setCell ⟨rb, part, none⟩ (.slice (some ⟨g, 0, none⟩) L cap)).cell? ⟨pb, 0, none⟩ = some (.slice (some ⟨bo, 0, none⟩) N N) := by rw [far_cell (by show pb ≠ rb; exact n8)]; exact b0
    have e1 : (wb.setCell ⟨rb, part, none⟩ (.slice (some ⟨g, 0, none⟩) L cap)).cell? ⟨pb, 1, none⟩ = some (.slice (some ⟨rb, 0, none⟩) s.nr capR) := by rw [far_cell (by show pb ≠ rb; exact n8)]; exact b1
    have e6 : (wb.setCell ⟨rb, part, none⟩ (.slice (some ⟨g, 0, none⟩) L cap)).cell? ⟨bo, node, none⟩ = some (.int .i64 (part : Int)) := by rw [far_cell (by show bo ≠ rb; exact n9)]; exact b6
    clear hwb b2 b3 a0 a1 a2 a3 a4 a5 a6 a7 a8
    go_wp2_with fail
    go_region_held3 (fun w' => w'.cell? ⟨pb, 0, none⟩ = some (.slice (some ⟨bo, 0, none⟩) N N) ∧ w'.cell? ⟨pb, 1, none⟩ = some (.slice (some ⟨rb, 0, none⟩) s.nr capR) ∧ w'.cell? ⟨bo, node, none⟩ = some (.int .i64 (part : Int))) (go_keep) (fail)
    all_goals
      have FIN := Pt.take (i := i) (last := last) HH.out hp HL.out HV.out
      have FH : Hid (Pt (wb.setCell ⟨rb, part, none⟩ (.slice (some ⟨g, 0, none⟩) L cap)) base pb bo ba N (.slice (some ⟨rb, 0, none⟩) s.nr capR) wv qv (upd rvs part (.slice (some ⟨g, 0, none⟩) L cap)) { s with loc := upd s.loc last i, rows := upd s.rows part ((s.rows part).set i last).dropLast } ∧ Fr base w (wb.setCell ⟨rb, part, none⟩ (.slice (some ⟨g, 0, none⟩) L cap)) (pblk pb bo ba (.slice (some ⟨rb, 0, none⟩) s.nr capR) wv qv rvs s.nr) (pblk pb bo ba (.slice (some ⟨rb, 0, none⟩) s.nr capR) wv qv (upd rvs part (.slice (some ⟨g, 0, none⟩) L cap)) s.nr)) := by
        rw [HWB.out, HWA.out]
        have B := FIN.2
        exact ⟨FIN.1.later (Nat.le_refl _) (fun _ _ _ => rfl), ⟨⟨rfl, rfl, rfl, B.below.size, B.below.block⟩, B.frame, B.fresh⟩⟩
      clear FIN
      go_wp2
      exact bodyPost_end (v := .tuple #[]) (by simp [results, Tryz.results122]) rfl ⟨rfl, .slice (some ⟨g, 0, none⟩) L cap, by
        obtain ⟨f1, f2⟩ := FH.out
        exact ⟨f1.later (Nat.le_refl _) (fun _ _ _ => rfl), ⟨⟨f2.below.os, f2.below.tape, f2.below.output, f2.below.size, f2.below.block⟩, f2.frame, f2.fresh⟩⟩⟩

end Go.Proofs.YtpbpbppimkeodaaGreatDoor
