/-
  Tables: an append where there is room; the opened table has room for one more.
-/
import Derived.Test.YtpbebpcoeeednaaTabQ
namespace Go.Proofs.Ytpbebpcoeeednaa
open Go.RowKit

section
variable {P : Program} (w : World)
/-- An append where there is room stays where it is. -/
theorem run_append_stays (t ty : TypeId) (base : Nat) (e : TypeId) (i : TypeInfo) (size : Nat) (ht : P.underlying t = some (.slice e)) (hi : P.info? e = some i)
    (hsize : i.size = size) (g cap n : Nat) (xs : List Value) (hown : w.ownsRow base e size (.slice (some ⟨g, 0, none⟩) n cap) n xs)
    (ad : Addr) (m c : Nat) (news : List Value) (hl : news.length = m * size) (hnews : ∀ j u, news[j]? = some u → w.cell? (ad.add j) = some u) (h1 : ∀ u ∈ news, u.oneCell' = true)
    (hroom : n + m ≤ cap) :
    ∃ w', (Builtin.append_ #[t, t] ty #[.slice (some ⟨g, 0, none⟩) n cap, .slice (some ad) m c]).run P w = .ok (.slice (some ⟨g, 0, none⟩) (n + m) cap) w' ∧
      w'.ownsRow base e size (.slice (some ⟨g, 0, none⟩) (n + m) cap) (n + m) (xs ++ news) ∧ w.grownBy w' (some g) := by
  subst hsize
  have hlen : (xs ++ news).length = (n + m) * i.size := by rw [List.length_append, hown.1, hl, Nat.add_mul]
  rcases hown.2 with ⟨h, _⟩ | ⟨g', cap', cur, hv, hbg, hg, hnc, hcm, hcs, htake⟩
  · cases h
  · simp only [Value.slice.injEq, Option.some.injEq, Addr.mk.injEq] at hv
    obtain ⟨⟨rfl, _, _⟩, _, rfl⟩ := hv
    have hfit : n * i.size + news.length ≤ cur.size := by rw [hl, hcs, ← Nat.add_mul]; exact Nat.mul_le_mul_right _ hroom
    have hr := run_append_room (P := P) w t ty e i ht hi g n cap cur hg ad m c news hl hnews h1 hroom hfit
    refine ⟨_, hr, ⟨hlen, .inr ⟨g, cap, _, rfl, hbg, setRow_heap w g cur _ e _ hg, hroom, hcm, ?_, ?_⟩⟩, ⟨rfl, rfl, rfl, by simp, fun k _ hk => setRow_other w g k _ (fun e => hk (by rw [e]))⟩⟩
    · simp only [List.size_toArray, List.length_append, List.length_take, List.length_drop, Array.length_toList]
      omega
    · rw [htake, ← hlen]
      exact List.take_left

theorem wp_append_stays {o : Oper} {a : Act} {K : Act → World → Prop} {Q : Exit → Act → World → Prop} (s x : Operand) (t : TypeId)
    (ho : o.op = .call { callee := .builtin .append, args := #[s, x], argTypes := #[t, t] })
    (base : Nat) (e : TypeId) (i : TypeInfo) (size : Nat) (ht : P.underlying t = some (.slice e)) (hi : P.info? e = some i) (hsize : i.size = size)
    (g cap n : Nat) (xs : List Value) (hs : a.eval s = .slice (some ⟨g, 0, none⟩) n cap) (hown : w.ownsRow base e size (.slice (some ⟨g, 0, none⟩) n cap) n xs)
    (ad : Addr) (m c : Nat) (news : List Value) (hx : a.eval x = .slice (some ad) m c) (hl : news.length = m * size) (hnews : ∀ j u, news[j]? = some u → w.cell? (ad.add j) = some u) (h1 : ∀ u ∈ news, u.oneCell' = true)
    (hroom : n + m ≤ cap)
    (h : ∀ w', w'.ownsRow base e size (.slice (some ⟨g, 0, none⟩) (n + m) cap) (n + m) (xs ++ news) → w.grownBy w' (some g) → K (a.put o.dst (.slice (some ⟨g, 0, none⟩) (n + m) cap)) w') : o.wp P a w K Q := by
  obtain ⟨w', hr, h2, h3⟩ := run_append_stays (P := P) w t o.type base e i size ht hi hsize g cap n xs hown ad m c news hl hnews h1 hroom
  unfold Oper.wp execOp
  simp only [ho, resolve, invoke, builtin, Sem.run_bind, Sem.run_pure, Result.andThen_ok, List.map_toArray, List.map_cons, List.map_nil, hs, hx, hr]
  exact h w' h2 h3

theorem wpList_append_stays {ops : Array Oper} {rest : List Oper} {o : Oper} {a : Act} {Q : Exit → Act → World → Prop} (hgd : o.guard = none) (s x : Operand) (t : TypeId)
    (ho : o.op = .call { callee := .builtin .append, args := #[s, x], argTypes := #[t, t] })
    (base : Nat) (e : TypeId) (i : TypeInfo) (size : Nat) (ht : P.underlying t = some (.slice e)) (hi : P.info? e = some i) (hsize : i.size = size)
    (g cap n : Nat) (xs : List Value) (hs : a.eval s = .slice (some ⟨g, 0, none⟩) n cap) (hown : w.ownsRow base e size (.slice (some ⟨g, 0, none⟩) n cap) n xs)
    (ad : Addr) (m c : Nat) (news : List Value) (hx : a.eval x = .slice (some ad) m c) (hl : news.length = m * size) (hnews : ∀ j u, news[j]? = some u → w.cell? (ad.add j) = some u) (h1 : ∀ u ∈ news, u.oneCell' = true)
    (hroom : n + m ≤ cap)
    (h : ∀ w', w'.ownsRow base e size (.slice (some ⟨g, 0, none⟩) (n + m) cap) (n + m) (xs ++ news) → w.grownBy w' (some g) → wpList P ops Q rest (a.put o.dst (.slice (some ⟨g, 0, none⟩) (n + m) cap)) w') : wpList P ops Q (o :: rest) a w :=
  wpList_plain hgd fun _ hK => wp_append_stays w s x t ho base e i size ht hi hsize g cap n xs hs hown ad m c news hx hl hnews h1 hroom fun w' h2 h3 => hK _ _ (h w' h2 h3)

theorem step_append_stays {ops : Array Oper} {o : Oper} {a : Act} {K : Act → World → Prop} {Q : Exit → Act → World → Prop} {E : Prop} (hgd : o.guard = none) (s x : Operand) (t : TypeId)
    (ho : o.op = .call { callee := .builtin .append, args := #[s, x], argTypes := #[t, t] })
    (base : Nat) (e : TypeId) (i : TypeInfo) (size : Nat) (ht : P.underlying t = some (.slice e)) (hi : P.info? e = some i) (hsize : i.size = size)
    (g cap n : Nat) (xs : List Value) (hs : a.eval s = .slice (some ⟨g, 0, none⟩) n cap) (hown : w.ownsRow base e size (.slice (some ⟨g, 0, none⟩) n cap) n xs)
    (ad : Addr) (m c : Nat) (news : List Value) (hx : a.eval x = .slice (some ad) m c) (hl : news.length = m * size) (hnews : ∀ j u, news[j]? = some u → w.cell? (ad.add j) = some u) (h1 : ∀ u ∈ news, u.oneCell' = true)
    (hroom : n + m ≤ cap)
    (h : ∀ w', w'.ownsRow base e size (.slice (some ⟨g, 0, none⟩) (n + m) cap) (n + m) (xs ++ news) → w.grownBy w' (some g) → K (a.put o.dst (.slice (some ⟨g, 0, none⟩) (n + m) cap)) w') :
    if Region.wanted o (yielded ops a.tmps) = true then Oper.wp P o a w K Q else E := by
  have hw : Region.wanted o (yielded ops a.tmps) = true := by simp [Region.wanted, hgd]
  rw [if_pos hw]
  exact wp_append_stays w s x t ho base e i size ht hi hsize g cap n xs hs hown ad m c news hx hl hnews h1 hroom h
end

set_option maxRecDepth 100000 in
set_option maxHeartbeats 2000000 in
theorem r69 (n : Nat) (w : World) (hn : n ≤ 1048577) (p : Nat → SP) (D : Nat → SD) :
    Calls Try.prog 91 #[.int .i64 (n : Int), kf, of_] w fun e w' => ∃ lb g, e = .returned (.pointer (some ⟨lb, 0, none⟩)) ∧ OS w' w.heap.size lb (.slice (some ⟨g, 0, none⟩) 0 n) 0 p D ∧ Below w.heap.size w w' := by
  have hmk := make81 n hn
  have HM : Hid ((w.alloc (.cells (madeCells #[.int .i64 0, .string ByteArray.empty, .int .i64 0, .int .i64 0, .bool false, .string ByteArray.empty, .slice none 0 0, .int .i64 0, .int .i64 0] (n * 9)) 81)).ownsRow w.heap.size 81 9 (.slice (some ⟨w.heap.size, 0, none⟩) 0 n) 0 []) :=
    World.ownsRow_made w _ n (Nat.le_refl _) (by unfold maxLen; omega) (by rw [size_madeCells])
  go_enter Try.func91, Try.ntmps91
  go_wp2
  have hrow := row3 (w.alloc (.cells (madeCells #[.int .i64 0, .string ByteArray.empty, .int .i64 0, .int .i64 0, .bool false, .string ByteArray.empty, .slice none 0 0, .int .i64 0, .int .i64 0] (n * 9)) 81)) (.slice (some ⟨w.heap.size, 0, none⟩) 0 n) kf of_ 110
  rw [World.size_alloc] at hrow
  go_ret
  exact ⟨w.heap.size + 1, w.heap.size, rfl, ⟨hrow, HM.out.alloc _, by omega, by simp [Value.ownBlock], ⟨_, _, rfl⟩⟩, bel2 _ _ _⟩

set_option maxRecDepth 100000 in
set_option maxHeartbeats 2000000 in
theorem r50 (n : Nat) (w : World) (hn : n ≤ 1048577) (p : Nat → SP) (D : Nat → SD) :
    Calls Try.prog 69 #[.int .i64 (n : Int)] w fun e w' => ∃ sb lb g, e = .returned (.pointer (some ⟨sb, 0, none⟩)) ∧ OS w' w.heap.size lb (.slice (some ⟨g, 0, none⟩) 0 n) 0 p D ∧ w'.cell? ⟨sb, 0, none⟩ = some (.pointer (some ⟨lb, 0, none⟩)) ∧ w.heap.size ≤ sb ∧ sb ≠ lb ∧ sb ≠ g ∧ Below w.heap.size w w' := by
  go_enter Try.func69, Try.ntmps69
  go_wp2_with fail
  refine (r69 n w hn p D).mono ?_
  rintro e w1 ⟨lb, g, rfl, HO, hb1⟩
  have HH : Hid (OS w1 w.heap.size lb (.slice (some ⟨g, 0, none⟩) 0 n) 0 p D ∧ Below w.heap.size w w1) := ⟨HO, hb1⟩
  clear HO hb1
  go_wp2
  go_ret
  obtain ⟨h1, h2⟩ := HH.out
  refine ⟨w1.heap.size, lb, g, rfl, h1.below (bel1 _ _), by simp, h2.size, ?_, ?_, h2.trans ((bel1 _ _).mono h2.size)⟩
  · have := h1.row.lt; omega
  · intro e; have := (h1.own.lt w1.heap.size (by rw [e]; rfl)).2; omega

theorem os_stay {w X w3 : World} {base lb n cap g : Nat} {o : Obj} {p : Nat → SP} {D : Nat → SD} (h : OS w base lb (.slice (some ⟨g, 0, none⟩) n cap) n p D) (hX : Below w.heap.size w X)
    (hown3 : w3.ownsRow base 81 9 (.slice (some ⟨g, 0, none⟩) (n + 1) cap) (n + 1) (ecells p D n ++ ec (p n) (D n))) (hg3 : (X.alloc o).drew.grownBy w3 (some g)) :
    Kept (fun b => b < w.heap.size ∧ b ≠ lb ∧ b ≠ g) w (w3.setCell ⟨lb, 0, none⟩ (.slice (some ⟨g, 0, none⟩) (n + 1) cap)) ∧
      OS (w3.setCell ⟨lb, 0, none⟩ (.slice (some ⟨g, 0, none⟩) (n + 1) cap)) base lb (.slice (some ⟨g, 0, none⟩) (n + 1) cap) (n + 1) p D := by
  obtain ⟨k, sv', h1, h2⟩ := os_step h hX hown3 hg3 (Or.inl rfl)
  have hgl : g ≠ lb := fun e => h.ne (by rw [← e]; rfl)
  have hsz := hX.size
  have hll := h.row.lt
  have b3 : w3.heap[lb]? = w.heap[lb]? := by
    rw [hg3.block lb (by simp; omega) (fun e => hgl (by cases e; rfl))]
    show (X.alloc o).heap[lb]? = _
    rw [Below.heap_alloc _ _ _ (by omega), hX.block lb hll]
  refine ⟨⟨k.os, k.tape, k.output, k.size, fun x ⟨e1, e2, e3⟩ => k.block x ⟨e1, e2, fun e => e3 (by simpa [Value.ownBlock] using e)⟩⟩, ⟨?_, ?_, h.lo, fun e => hgl (by simpa [Value.ownBlock] using e.symm), ⟨_, _, rfl⟩⟩⟩
  · exact ((h.row.of_block b3).set 0 _).congr (fun i hi => by
      match i, hi with
      | 0, _ => rfl
      | 1, _ => rfl
      | 2, _ => rfl)
  · refine own_same hown3 (fun x hx => ?_)
    have : x = g := by simpa [Value.ownBlock] using hx.symm
    subst this
    exact Below.heap_setCell _ _ _ _ (by show x ≠ lb; exact hgl)

set_option maxRecDepth 100000 in
set_option maxHeartbeats 4000000 in
theorem r53z (base lb g cap n : Nat) (p : Nat → SP) (D : Nat → SD) (w : World) (h : OS w base lb (.slice (some ⟨g, 0, none⟩) n cap) n p D) (hrm : n + 1 ≤ cap) (hn : Hid (n = 0)) (hn2 : n ≤ 1048576) (hs : base ≤ w.heap.size) :
    Calls Try.prog 72 #[.pointer (some ⟨lb, 0, none⟩), edv (p n) (D n)] w fun e w' => e = .returned (.bool true) ∧ Kept (fun b => b < w.heap.size ∧ b ≠ lb ∧ b ≠ g) w w' ∧ OS w' base lb (.slice (some ⟨g, 0, none⟩) (n + 1) cap) (n + 1) p D := by
  unfold edv
  have HH : Hid (OS w base lb (.slice (some ⟨g, 0, none⟩) n cap) n p D) := h
  have hR := h.row.alloc (.cells #[.int .i64 (D n).k, .string (D n).m, .int .i64 (D n).sin, .int .i64 (D n).own, .bool (D n).has, .string (D n).v, .slice (p n).a (D n).n (p n).c, .int .i64 (D n).ver, .int .i64 (D n).chg] 81)
  have c0 : (w.alloc (.cells #[.int .i64 (D n).k, .string (D n).m, .int .i64 (D n).sin, .int .i64 (D n).own, .bool (D n).has, .string (D n).v, .slice (p n).a (D n).n (p n).c, .int .i64 (D n).ver, .int .i64 (D n).chg] 81)).cell? ⟨lb, 0, none⟩ = some (.slice (some ⟨g, 0, none⟩) n cap) := hR.cell (i := 0) (by omega)
  have n0 : decide (0 < n) = false := decide_eq_false (by have := hn.out; omega)
  clear h hR
  go_enter Try.func72, Try.ntmps72
  go_wp2
  go_quiet (fail)
  go_wp2
  have BX0 : Hid (Below w.heap.size w ((w.alloc (.cells #[.int .i64 (D n).k, .string (D n).m, .int .i64 (D n).sin, .int .i64 (D n).own, .bool (D n).has, .string (D n).v, .slice (p n).a (D n).n (p n).c, .int .i64 (D n).ver, .int .i64 (D n).chg] 81)).drewN nq)) := below_drewN (bel1 _ _) _
  have rB : ((w.alloc (.cells #[.int .i64 (D n).k, .string (D n).m, .int .i64 (D n).sin, .int .i64 (D n).own, .bool (D n).has, .string (D n).v, .slice (p n).a (D n).n (p n).c, .int .i64 (D n).ver, .int .i64 (D n).chg] 81)).drewN nq).rowIs w.heap.size 81 9 (v9 (.int .i64 (D n).k) (.string (D n).m) (.int .i64 (D n).sin) (.int .i64 (D n).own) (.bool (D n).has) (.string (D n).v) (.slice (p n).a (D n).n (p n).c) (.int .i64 (D n).ver) (.int .i64 (D n).chg)) := row9 w (.int .i64 (D n).k) (.string (D n).m) (.int .i64 (D n).sin) (.int .i64 (D n).own) (.bool (D n).has) (.string (D n).v) (.slice (p n).a (D n).n (p n).c) (.int .i64 (D n).ver) (.int .i64 (D n).chg) 81
  obtain ⟨X, hX⟩ : ∃ X, X = (w.alloc (.cells #[.int .i64 (D n).k, .string (D n).m, .int .i64 (D n).sin, .int .i64 (D n).own, .bool (D n).has, .string (D n).v, .slice (p n).a (D n).n (p n).c, .int .i64 (D n).ver, .int .i64 (D n).chg] 81)).drewN nq := ⟨_, rfl⟩
  rw [← hX] at BX0 rB
  rw [← hX]
  have BX : Hid (Below w.heap.size w X) := BX0
  obtain ⟨e0, e1, e2, e3, e4, e5, e6, e7, e8⟩ := nine_cells rB
  have hwX : w.heap.size < X.heap.size := rB.lt
  clear hX BX0 rB c0
  obtain ⟨i0, hi0, hz0, hz1, hz2⟩ := info_parts' Try.info81
  have hsX := BX.out.size
  have hll := HH.out.row.lt
  have OWN : X.ownsRow base 81 9 (.slice (some ⟨g, 0, none⟩) n cap) n (ecells p D n) := (HH.out.below BX.out).own
  have r2 : X.rowIs lb 110 3 (v3 (.slice (some ⟨g, 0, none⟩) n cap) kf of_) := (HH.out.below BX.out).row
  have n1 : some lb ≠ (Value.slice (some ⟨g, 0, none⟩) n cap).ownBlock := HH.out.ne
  have d1 : X.cell? ⟨lb, 0, none⟩ = some (.slice (some ⟨g, 0, none⟩) n cap) := r2.cell (i := 0) (by omega)
  have d2 := r2.frozen 0
  have d1' : ((X.alloc (.cells #[.int .i64 (D n).k, .string (D n).m, .int .i64 (D n).sin, .int .i64 (D n).own, .bool (D n).has, .string (D n).v, .slice (p n).a (D n).n (p n).c, .int .i64 (D n).ver, .int .i64 (D n).chg] 81)).drew).cell? ⟨lb, 0, none⟩ = some (.slice (some ⟨g, 0, none⟩) n cap) := (r2.alloc (.cells #[.int .i64 (D n).k, .string (D n).m, .int .i64 (D n).sin, .int .i64 (D n).own, .bool (D n).has, .string (D n).v, .slice (p n).a (D n).n (p n).c, .int .i64 (D n).ver, .int .i64 (D n).chg] 81)).cell (i := 0) (by omega)
  have d2' : ((X.alloc (.cells #[.int .i64 (D n).k, .string (D n).m, .int .i64 (D n).sin, .int .i64 (D n).own, .bool (D n).has, .string (D n).v, .slice (p n).a (D n).n (p n).c, .int .i64 (D n).ver, .int .i64 (D n).chg] 81)).drew).frozen? ⟨lb, 0, none⟩ = false := (r2.alloc (.cells #[.int .i64 (D n).k, .string (D n).m, .int .i64 (D n).sin, .int .i64 (D n).own, .bool (D n).has, .string (D n).v, .slice (p n).a (D n).n (p n).c, .int .i64 (D n).ver, .int .i64 (D n).chg] 81)).frozen 0
  have hbs : base ≤ X.heap.size := by omega
  have hbb : (n + 1) * 104 ≤ 140737488355328 := by omega
  have hml2 : n + 1 ≤ maxLen := by unfold maxLen; omega
  have hll2 : lb < X.heap.size := by omega
  go_region_law (refine step_append_stays _ (by rfl) _ _ _ (by rfl) base 81 i0 9 Try.underlying105 hi0 hz1 g cap n (ecells p D n) (by rfl) ((OWN.alloc _).drew) ⟨X.heap.size, 0, none⟩ 1 1 (ec (p n) (D n)) (by rfl) (by rfl) (World.news_of_block (cs := #[.int .i64 (D n).k, .string (D n).m, .int .i64 (D n).sin, .int .i64 (D n).own, .bool (D n).has, .string (D n).v, .slice (p n).a (D n).n (p n).c, .int .i64 (D n).ver, .int .i64 (D n).chg]) (t := 81) (fr := (0, 0)) (heap_alloc_new X _)) (by simp [ec, Value.oneCell']) hrm ?_; intro w3 hown3 hg3; have f1 : w3.cell? ⟨lb, 0, none⟩ = some (.slice (some ⟨g, 0, none⟩) n cap) := (hg3.cell_far ⟨lb, 0, none⟩ (by simp; omega) n1).trans d1'; have f2 : w3.frozen? ⟨lb, 0, none⟩ = false := (hg3.frozen_far ⟨lb, 0, none⟩ (by simp; omega) n1).trans d2')
  all_goals
    have FIN : Hid (_ ∧ _) := os_stay HH.out BX.out hown3 hg3
    clear hown3 hg3 f1 f2 d1 d2 d1' d2' OWN r2 e0 e1 e2 e3 e4 e5 e6 e7 e8
    go_wp2
    go_ret
    exact ⟨rfl, FIN.out⟩

/-- What putLast gives. -/
def PlPostR (w : World) (base lb g cap n : Nat) (p : Nat → SP) (D : Nat → SD) (r : Int) (e : Ending) (w' : World) : Prop :=
  e = .returned (.bool (decide (r < 0))) ∧ Kept (fun b => b < w.heap.size ∧ b ≠ lb ∧ b ≠ g) w w' ∧ (r < 0 → OS w' base lb (.slice (some ⟨g, 0, none⟩) (n + 1) cap) (n + 1) p D)

set_option maxRecDepth 100000 in
set_option maxHeartbeats 8000000 in
theorem r53s (base lb g cap n q : Nat) (p : Nat → SP) (D : Nat → SD) (w : World) (h : OS w base lb (.slice (some ⟨g, 0, none⟩) n cap) n p D) (hrm : n + 1 ≤ cap) (hn : Hid (n = q + 1)) (hn2 : n ≤ 1048576) (hs : base ≤ w.heap.size) :
    Calls Try.prog 72 #[.pointer (some ⟨lb, 0, none⟩), edv (p n) (D n)] w fun e w' => PlPostR w base lb g cap n p D (ck (D q).k (D q).m (D n).k (D n).m) e w' := by
  unfold edv
  have HH : Hid (OS w base lb (.slice (some ⟨g, 0, none⟩) n cap) n p D) := h
  obtain ⟨oa, hoa⟩ : ∃ oa : Option Addr, oa = some ⟨g, 0, none⟩ := ⟨_, rfl⟩
  have HZ : Hid (∀ W, Below (w.alloc (.cells #[.int .i64 (D n).k, .string (D n).m, .int .i64 (D n).sin, .int .i64 (D n).own, .bool (D n).has, .string (D n).v, .slice (p n).a (D n).n (p n).c, .int .i64 (D n).ver, .int .i64 (D n).chg] 81)).heap.size (w.alloc (.cells #[.int .i64 (D n).k, .string (D n).m, .int .i64 (D n).sin, .int .i64 (D n).own, .bool (D n).has, .string (D n).v, .slice (p n).a (D n).n (p n).c, .int .i64 (D n).ver, .int .i64 (D n).chg] 81)) W → Reads w W lb g n q cap p D) := fun W hW => reads_of h (by have := hn.out; omega) hW
  have hz : w.heap.size < (w.alloc (.cells #[.int .i64 (D n).k, .string (D n).m, .int .i64 (D n).sin, .int .i64 (D n).own, .bool (D n).has, .string (D n).v, .slice (p n).a (D n).n (p n).c, .int .i64 (D n).ver, .int .i64 (D n).chg] 81)).heap.size := by simp
  have HXB : Hid (Below w.heap.size w (w.alloc (.cells #[.int .i64 (D n).k, .string (D n).m, .int .i64 (D n).sin, .int .i64 (D n).own, .bool (D n).has, .string (D n).v, .slice (p n).a (D n).n (p n).c, .int .i64 (D n).ver, .int .i64 (D n).chg] 81))) := bel1 _ _
  have R0 := HZ.out _ (Below.refl _ _)
  obtain ⟨r, hr⟩ : ∃ r, r = ck (D q).k (D q).m (D n).k (D n).m := ⟨_, rfl⟩
  rw [← hr]
  have CA : Hid (∀ W, Calls Try.prog 92 #[.agg #[.int .i64 (D q).k, .string (D q).m, .int .i64 (D q).sin, .int .i64 (D q).own, .bool (D q).has, .string (D q).v, .slice (p q).a (D q).n (p q).c, .int .i64 (D q).ver, .int .i64 (D q).chg]] W fun e w' => e = .returned (.agg #[.int .i64 (D q).k, .string (D q).m]) ∧ Below W.heap.size W w') := fun W => c70 _ _ _ _ _ _ _ _ _ _ _ W
  have CB : Hid (∀ W, Calls Try.prog 92 #[.agg #[.int .i64 (D n).k, .string (D n).m, .int .i64 (D n).sin, .int .i64 (D n).own, .bool (D n).has, .string (D n).v, .slice (p n).a (D n).n (p n).c, .int .i64 (D n).ver, .int .i64 (D n).chg]] W fun e w' => e = .returned (.agg #[.int .i64 (D n).k, .string (D n).m]) ∧ Below W.heap.size W w') := fun W => c70 _ _ _ _ _ _ _ _ _ _ _ W
  have CC : Hid (∀ W, Calls Try.prog 93 #[.agg #[.int .i64 (D q).k, .string (D q).m], .agg #[.int .i64 (D n).k, .string (D n).m]] W fun e w' => e = .returned (.int .i64 r) ∧ Below W.heap.size W w') := fun W => by rw [hr]; exact c71 _ _ _ _ W
  have n0 : 0 < n := by have := hn.out; omega
  have hw1 : IntKind.i64.wrap ((n : Int) - 1) = (q : Int) := by have := hn.out; rw [IntKind.wrap_i64]; omega
  have hq1 : (q : Int) < (n : Int) := by have := hn.out; omega
  have hq2 : (0 : Int) ≤ (q : Int) := by omega
  have l0 : (w.alloc (.cells #[.int .i64 (D n).k, .string (D n).m, .int .i64 (D n).sin, .int .i64 (D n).own, .bool (D n).has, .string (D n).v, .slice (p n).a (D n).n (p n).c, .int .i64 (D n).ver, .int .i64 (D n).chg] 81)).cell? ⟨lb, 0, none⟩ = some (.slice (some ⟨g, 0, none⟩) n cap) := R0.1
  have HR0 : Hid (Reads w (w.alloc (.cells #[.int .i64 (D n).k, .string (D n).m, .int .i64 (D n).sin, .int .i64 (D n).own, .bool (D n).has, .string (D n).v, .slice (p n).a (D n).n (p n).c, .int .i64 (D n).ver, .int .i64 (D n).chg] 81)) lb g n q cap p D) := R0
  clear h hr hoa R0 oa
  go_enter Try.func72, Try.ntmps72
  go_wp2_with (fail)
  clear l0
  obtain ⟨WX, hWX⟩ : ∃ WX, WX = w.alloc (.cells #[.int .i64 (D n).k, .string (D n).m, .int .i64 (D n).sin, .int .i64 (D n).own, .bool (D n).has, .string (D n).v, .slice (p n).a (D n).n (p n).c, .int .i64 (D n).ver, .int .i64 (D n).chg] 81) := ⟨_, rfl⟩
  rw [← hWX] at HZ hz HXB HR0
  rw [← hWX]
  have R0 := HR0.out
  unfold Reads at R0
  obtain ⟨l0, l1, l2, g0, g1, g2, g3, g4, g5, g6, g7, g8, b0, b1, b2, b3, b4, b5, b6, b7, b8⟩ := R0
  clear hWX HR0
  have CA' : Hid (∀ W, Below WX.heap.size WX W → Calls Try.prog 92 #[.agg #[.int .i64 (D q).k, .string (D q).m, .int .i64 (D q).sin, .int .i64 (D q).own, .bool (D q).has, .string (D q).v, .slice (p q).a (D q).n (p q).c, .int .i64 (D q).ver, .int .i64 (D q).chg]] W fun e w' => e = .returned (.agg #[.int .i64 (D q).k, .string (D q).m]) ∧ Hid (Below WX.heap.size WX w')) := fun W hW => (CA.out W).mono fun e w' ⟨he, hb⟩ => ⟨he, hW.trans (hb.mono hW.size)⟩
  have CB' : Hid (∀ W, Hid (Below WX.heap.size WX W) → Calls Try.prog 92 #[.agg #[.int .i64 (D n).k, .string (D n).m, .int .i64 (D n).sin, .int .i64 (D n).own, .bool (D n).has, .string (D n).v, .slice (p n).a (D n).n (p n).c, .int .i64 (D n).ver, .int .i64 (D n).chg]] W fun e w' => e = .returned (.agg #[.int .i64 (D n).k, .string (D n).m]) ∧ Hid (Below WX.heap.size WX w')) := fun W hW => (CB.out W).mono fun e w' ⟨he, hb⟩ => ⟨he, hW.out.trans (hb.mono hW.out.size)⟩
  have CC' : Hid (∀ W, Hid (Below WX.heap.size WX W) → Calls Try.prog 93 #[.agg #[.int .i64 (D q).k, .string (D q).m], .agg #[.int .i64 (D n).k, .string (D n).m]] W fun e w' => e = .returned (.int .i64 r) ∧ Hid (Below WX.heap.size WX w')) := fun W hW => (CC.out W).mono fun e w' ⟨he, hb⟩ => ⟨he, hW.out.trans (hb.mono hW.out.size)⟩
  clear CA CB CC
  go_region_held3 (fun w' => w'.cell? ⟨lb, 0, none⟩ = some (.slice (some ⟨g, 0, none⟩) n cap) ∧ w'.cell? ⟨lb, 1, none⟩ = some kf ∧ w'.cell? ⟨lb, 2, none⟩ = some of_ ∧ w'.cell? ⟨g, q * 9, none⟩ = some (.int .i64 (D q).k) ∧ w'.cell? ⟨g, q * 9 + 1, none⟩ = some (.string (D q).m) ∧ w'.cell? ⟨g, q * 9 + 2, none⟩ = some (.int .i64 (D q).sin) ∧ w'.cell? ⟨g, q * 9 + 3, none⟩ = some (.int .i64 (D q).own) ∧ w'.cell? ⟨g, q * 9 + 4, none⟩ = some (.bool (D q).has) ∧ w'.cell? ⟨g, q * 9 + 5, none⟩ = some (.string (D q).v) ∧ w'.cell? ⟨g, q * 9 + 6, none⟩ = some (.slice (p q).a (D q).n (p q).c) ∧ w'.cell? ⟨g, q * 9 + 7, none⟩ = some (.int .i64 (D q).ver) ∧ w'.cell? ⟨g, q * 9 + 8, none⟩ = some (.int .i64 (D q).chg) ∧ w'.cell? ⟨w.heap.size, 0, none⟩ = some (.int .i64 (D n).k) ∧ w'.cell? ⟨w.heap.size, 1, none⟩ = some (.string (D n).m) ∧ w'.cell? ⟨w.heap.size, 2, none⟩ = some (.int .i64 (D n).sin) ∧ w'.cell? ⟨w.heap.size, 3, none⟩ = some (.int .i64 (D n).own) ∧ w'.cell? ⟨w.heap.size, 4, none⟩ = some (.bool (D n).has) ∧ w'.cell? ⟨w.heap.size, 5, none⟩ = some (.string (D n).v) ∧ w'.cell? ⟨w.heap.size, 6, none⟩ = some (.slice (p n).a (D n).n (p n).c) ∧ w'.cell? ⟨w.heap.size, 7, none⟩ = some (.int .i64 (D n).ver) ∧ w'.cell? ⟨w.heap.size, 8, none⟩ = some (.int .i64 (D n).chg)) (go_keep)
    (first
      | (go_at_call 92; first | ((with_reducible refine (CA'.out _ (Below.refl _ _).drew).mono ?_); rintro e w3 ⟨rfl, H3⟩; obtain ⟨l0x, l1x, l2x, g0x, g1x, g2x, g3x, g4x, g5x, g6x, g7x, g8x, b0x, b1x, b2x, b3x, b4x, b5x, b6x, b7x, b8x⟩ := HZ.out w3 H3.out) | ((with_reducible refine (CB'.out _ H3).mono ?_); rintro e w4 ⟨rfl, H4⟩; obtain ⟨l0y, l1y, l2y, g0y, g1y, g2y, g3y, g4y, g5y, g6y, g7y, g8y, b0y, b1y, b2y, b3y, b4y, b5y, b6y, b7y, b8y⟩ := HZ.out w4 H4.out))
      | (go_at_call 93; (with_reducible refine (CC'.out _ H4).mono ?_); rintro e w5 ⟨rfl, H5⟩; obtain ⟨l0z, l1z, l2z, g0z, g1z, g2z, g3z, g4z, g5z, g6z, g7z, g8z, b0z, b1z, b2z, b3z, b4z, b5z, b6z, b7z, b8z⟩ := HZ.out w5 H5.out))
  clear l0 l1 l2 g0 g1 g2 g3 g4 g5 g6 g7 g8 b0 b1 b2 b3 b4 b5 b6 b7 b8 l0x l1x l2x g0x g1x g2x g3x g4x g5x g6x g7x g8x b0x b1x b2x b3x b4x b5x b6x b7x b8x l0y l1y l2y g0y g1y g2y g3y g4y g5y g6y g7y g8y b0y b1y b2y b3y b4y b5y b6y b7y b8y l0z l1z l2z g0z g1z g2z g3z g4z g5z g6z g7z g8z CA' CB' CC' HZ H3 H4 hw1 hq1 hq2
  have BX : Hid (Below w.heap.size w w5) := HXB.out.trans (H5.out.mono HXB.out.size)
  have hww : w.heap.size < w5.heap.size := Nat.lt_of_lt_of_le hz H5.out.size
  clear H5 HXB hz
  by_cases hr : r < 0
  · have HR : Hid (r < 0) := hr
    go_wp2
    obtain ⟨i0, hi0, hz0, hz1, hz2⟩ := info_parts' Try.info81
    have hsw5 := BX.out.size
    have hll := HH.out.row.lt
    have OWN : w5.ownsRow base 81 9 (.slice (some ⟨g, 0, none⟩) n cap) n (ecells p D n) := (HH.out.below BX.out).own
    have r2 : w5.rowIs lb 110 3 (v3 (.slice (some ⟨g, 0, none⟩) n cap) kf of_) := (HH.out.below BX.out).row
    have n1 : some lb ≠ (Value.slice (some ⟨g, 0, none⟩) n cap).ownBlock := HH.out.ne
    have d1 : w5.cell? ⟨lb, 0, none⟩ = some (.slice (some ⟨g, 0, none⟩) n cap) := r2.cell (i := 0) (by omega)
    have d2 := r2.frozen 0
    have d1' : ((w5.alloc (.cells #[.int .i64 (D n).k, .string (D n).m, .int .i64 (D n).sin, .int .i64 (D n).own, .bool (D n).has, .string (D n).v, .slice (p n).a (D n).n (p n).c, .int .i64 (D n).ver, .int .i64 (D n).chg] 81)).drew).cell? ⟨lb, 0, none⟩ = some (.slice (some ⟨g, 0, none⟩) n cap) := (r2.alloc (.cells #[.int .i64 (D n).k, .string (D n).m, .int .i64 (D n).sin, .int .i64 (D n).own, .bool (D n).has, .string (D n).v, .slice (p n).a (D n).n (p n).c, .int .i64 (D n).ver, .int .i64 (D n).chg] 81)).cell (i := 0) (by omega)
    have d2' : ((w5.alloc (.cells #[.int .i64 (D n).k, .string (D n).m, .int .i64 (D n).sin, .int .i64 (D n).own, .bool (D n).has, .string (D n).v, .slice (p n).a (D n).n (p n).c, .int .i64 (D n).ver, .int .i64 (D n).chg] 81)).drew).frozen? ⟨lb, 0, none⟩ = false := (r2.alloc (.cells #[.int .i64 (D n).k, .string (D n).m, .int .i64 (D n).sin, .int .i64 (D n).own, .bool (D n).has, .string (D n).v, .slice (p n).a (D n).n (p n).c, .int .i64 (D n).ver, .int .i64 (D n).chg] 81)).frozen 0
    have hbs : base ≤ w5.heap.size := by omega
    have hbb : (n + 1) * 104 ≤ 140737488355328 := by omega
    have hml2 : n + 1 ≤ maxLen := by unfold maxLen; omega
    have hll2 : lb < w5.heap.size := by omega
    go_region_law (refine step_append_stays _ (by rfl) _ _ _ (by rfl) base 81 i0 9 Try.underlying105 hi0 hz1 g cap n (ecells p D n) (by rfl) ((OWN.alloc _).drew) ⟨w5.heap.size, 0, none⟩ 1 1 (ec (p n) (D n)) (by rfl) (by rfl) (World.news_of_block (cs := #[.int .i64 (D n).k, .string (D n).m, .int .i64 (D n).sin, .int .i64 (D n).own, .bool (D n).has, .string (D n).v, .slice (p n).a (D n).n (p n).c, .int .i64 (D n).ver, .int .i64 (D n).chg]) (t := 81) (fr := (0, 0)) (heap_alloc_new w5 _)) (by simp [ec, Value.oneCell']) hrm ?_; intro w3 hown3 hg3; have f1 : w3.cell? ⟨lb, 0, none⟩ = some (.slice (some ⟨g, 0, none⟩) n cap) := (hg3.cell_far ⟨lb, 0, none⟩ (by simp; omega) n1).trans d1'; have f2 : w3.frozen? ⟨lb, 0, none⟩ = false := (hg3.frozen_far ⟨lb, 0, none⟩ (by simp; omega) n1).trans d2')
    all_goals
      have FIN : Hid (_ ∧ _) := os_stay HH.out BX.out hown3 hg3
      clear hown3 hg3 f1 f2 d1 d2 d1' d2' OWN r2 b0z b1z b2z b3z b4z b5z b6z b7z b8z
      go_wp2
      go_ret
      exact ⟨ret_bool (decide_eq_true HR.out).symm, FIN.out.1, fun _ => FIN.out.2⟩
  · have HR : Hid (¬ r < 0) := hr
    have hr' : 0 ≤ r := by omega
    clear hr
    go_wp2
    go_ret
    exact ⟨ret_bool (decide_eq_false (by have := HR.out; omega)).symm, ⟨BX.out.os, BX.out.tape, BX.out.output, BX.out.size, fun k hk => BX.out.block k hk.1⟩, fun h => absurd h (by have := HR.out; omega)⟩

/-- What putLast gives, whatever the length. -/
def PutPostR (w : World) (base lb g cap n : Nat) (p : Nat → SP) (D : Nat → SD) (e : Ending) (w' : World) : Prop :=
  e = .returned (.bool (pl D n)) ∧ Kept (fun b => b < w.heap.size ∧ b ≠ lb ∧ b ≠ g) w w' ∧ (pl D n = true → OS w' base lb (.slice (some ⟨g, 0, none⟩) (n + 1) cap) (n + 1) p D)

theorem r53 (base lb g cap n : Nat) (p : Nat → SP) (D : Nat → SD) (w : World) (h : OS w base lb (.slice (some ⟨g, 0, none⟩) n cap) n p D) (hrm : n + 1 ≤ cap) (hn : n ≤ 1048576) (hs : base ≤ w.heap.size) :
    Calls Try.prog 72 #[.pointer (some ⟨lb, 0, none⟩), edv (p n) (D n)] w fun e w' => PutPostR w base lb g cap n p D e w' := by
  match n, h, hn, hrm with
  | 0, h, hn, hrm => exact (r53z base lb g cap 0 p D w h hrm rfl hn hs).mono fun e w' ⟨he, h1, h2⟩ => ⟨he, h1, fun _ => h2⟩
  | q + 1, h, hn, hrm => exact (r53s base lb g cap (q + 1) q p D w h hrm rfl hn hs).mono fun e w' ⟨he, h1, h2⟩ => ⟨he.trans (ret_bool (ck_lt _ _ _ _)), h1, fun hp => h2 (of_decide_eq_true ((ck_lt _ _ _ _).trans hp))⟩

end Go.Proofs.Ytpbebpcoeeednaa
