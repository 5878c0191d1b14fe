/-
  No ? can be reached: the law's own search.
-/
import Derived.Test.YtoanhnmpkonbfaaGreatDoorME
import Derived.Test.YtoanhnmpkonbfaaGreatDoorMB
import Derived.BigQuiet
import Derived.Deep.AppendLies
namespace Go.Proofs.YtoanhnmpkonbfaaGreatDoor
open Go.RowKit Go.Maps

/-- What the search holds: the first k of those that were met are looked at. -/
structure NaI (N : Nat) (G : Nat → ND) (a : Nat) (ms : List Nat) (k : Nat) : Prop where
  nodup : ms.Nodup
  lt : ∀ x, x ∈ ms → x < N
  mem : a ∈ ms
  don : ∀ i, i < k → (G (ms.getD i 0)).kind ≠ 0 ∧ ∀ j, j < (G (ms.getD i 0)).nk → kid (G (ms.getD i 0)) j ∈ ms

theorem NaI.len {N : Nat} {G : Nat → ND} {a k : Nat} {ms : List Nat} (h : NaI N G a ms k) : ms.length ≤ N := by
  have := nodup_len (l' := List.range N) h.nodup (fun x hx => List.mem_range.2 (h.lt x hx))
  simpa using this

theorem NaI.end {N : Nat} {G : Nat → ND} {a k : Nat} {ms : List Nat} (h : NaI N G a ms k) (hk : ms.length ≤ k) : NoAny G a := by
  refine ⟨fun x => x ∈ ms, h.mem, fun x hx => ?_⟩
  obtain ⟨i, hi, rfl⟩ := List.getElem_of_mem hx
  have e : ms.getD i 0 = ms[i] := by simp [List.getD, List.getElem?_eq_getElem hi]
  have := h.don i (by omega)
  rw [e] at this
  exact this

theorem NaI.start {N : Nat} {G : Nat → ND} {a : Nat} (ha : a < N) : NaI N G a [a] 0 :=
  ⟨by simp, fun x hx => by rw [List.mem_singleton] at hx; subst hx; exact ha, by simp, fun i hi => absurd hi (Nat.not_lt_zero _)⟩

theorem NaI.more {N : Nat} {G : Nat → ND} {a k : Nat} {ms : List Nat} (h : NaI N G a ms k) (hk : k ≤ ms.length) {x : Nat} (hx : x < N) (hn : x ∉ ms) : NaI N G a (ms ++ [x]) k := by
  refine ⟨?_, fun y hy => ?_, List.mem_append_left _ h.mem, fun i hi => ?_⟩
  · rw [List.nodup_append]
    refine ⟨h.nodup, by simp, fun y hy z hz e => ?_⟩
    rw [List.mem_singleton] at hz
    subst hz e
    exact hn hy
  · rcases List.mem_append.1 hy with q | q
    · exact h.lt y q
    · rw [List.mem_singleton] at q; subst q; exact hx
  · have e : (ms ++ [x]).getD i 0 = ms.getD i 0 := by simp [List.getD, List.getElem?_append_left (show i < ms.length by omega)]
    rw [e]
    obtain ⟨d1, d2⟩ := h.don i hi
    exact ⟨d1, fun j hj => List.mem_append_left _ (d2 j hj)⟩

theorem NaI.next {N : Nat} {G : Nat → ND} {a k : Nat} {ms : List Nat} (h : NaI N G a ms k) (h0 : (G (ms.getD k 0)).kind ≠ 0) (h1 : ∀ j, j < (G (ms.getD k 0)).nk → kid (G (ms.getD k 0)) j ∈ ms) : NaI N G a ms (k + 1) :=
  ⟨h.nodup, h.lt, h.mem, fun i hi => by
    by_cases e : i = k
    · subst e; exact ⟨h0, h1⟩
    · exact h.don i (by omega)⟩

/-- Whether x is among the first k. -/
def seenTo (ms : List Nat) (x : Nat) (k : Nat) : Bool := (ms.take k).contains x
theorem seen_zero (ms : List Nat) (x : Nat) : seenTo ms x 0 = false := by simp [seenTo]
theorem seen_step {ms : List Nat} {x k : Nat} (hk : k < ms.length) : seenTo ms x (k + 1) = (seenTo ms x k || ms.getD k 0 == x) := by
  have e : ms.getD k 0 = ms[k] := by simp [List.getD, List.getElem?_eq_getElem hk]
  unfold seenTo
  rw [List.take_add_one, List.getElem?_eq_getElem hk, e, Bool.eq_iff_iff]
  simp only [List.contains_iff_mem, Option.toList_some, List.mem_append, List.mem_singleton, Bool.or_eq_true, beq_iff_eq]
  exact ⟨fun h => h.imp id Eq.symm, fun h => h.imp id Eq.symm⟩
theorem seen_all (ms : List Nat) (x : Nat) : seenTo ms x ms.length = true ↔ x ∈ ms := by simp [seenTo]

theorem own_cellN {w : World} {base g n cap : Nat} {l : List Nat} (h : w.ownsRow base 3 1 (.slice (some ⟨g, 0, none⟩) n cap) n (icells l)) {c : Nat} (hc : c < n) : w.cell? ⟨g, c, none⟩ = some (.int .i64 (l.getD c 0 : Int)) := by
  have hl : l.length = n := by simpa [icells] using h.1
  rw [h.cellAt c (by omega)]
  simp [icells, List.getD, List.getElem?_eq_getElem (show c < l.length by omega)]

theorem grown_below {w w1 w2 : World} {base : Nat} {v : Value} {o : Obj} (hb : Below base w w1) (hs : base ≤ w1.heap.size) (hg : (w1.alloc o).grownBy w2 v.ownBlock) (hv : ∀ j, v.ownBlock = some j → base ≤ j) : Below base w w2 := by
  refine ⟨hg.os.trans hb.os, hg.tape.trans hb.tape, hg.output.trans hb.output, ?_, fun j hj => ?_⟩
  · have h1 := hb.size
    have h2 := hg.size
    simp at h2
    omega
  · rw [hg.block j (by simp; omega) (fun e => by have := hv j e.symm; omega), Below.heap_alloc _ _ _ (by omega)]
    exact hb.block j hj

set_option maxRecDepth 100000 in
set_option maxHeartbeats 16000000 in
theorem l_noAny (ao : Option Addr) (gb go N gc : Nat) (p : Nat → NP) (G : Nat → ND) (a : Nat) (w : World) (h1 : NodesAt w ao gb go N p G) (hK : Kids N G) (hnk : ∀ i, i < N → (G i).nk ≤ 1048576) (hN : N ≤ 4000) (ha : a < N) :
    Calls Tryz.prog 10 #[.agg #[.slice ao N gc], .int .i64 (a : Int)] w fun e w' => ∃ r, e = .returned (.bool r) ∧ (r = true → NoAny G a) ∧ Below w.heap.size w w' := by
  have HB : Hid (∀ w', Below w.heap.size w w' → NodesAt w' ao gb go N p G) := fun w' hb => h1.below hb
  have HKK : Hid (Kids N G) := hK
  have HNKB : Hid (∀ i, i < N → (G i).nk ≤ 1048576) := hnk
  have eA := h1.at_ (by omega)
  subst eA
  clear h1 hK hnk
  obtain ⟨W0, hW0⟩ : ∃ W0, W0 = w.alloc (.cells #[.slice (some ⟨gb, go, none⟩) N gc] 25) := ⟨_, rfl⟩
  have B0 : Below w.heap.size w W0 := by rw [hW0]; exact bel1 _ _
  have z0 : W0.heap.size = w.heap.size + 1 := by rw [hW0]; simp
  have cg0 : W0.cell? ⟨w.heap.size, 0, none⟩ = some (.slice (some ⟨gb, go, none⟩) N gc) := by rw [hW0]; exact (row1 _ _ _).cell (i := 0) (by omega)
  have SO : Hid ((W0.alloc (.cells #[.int .i64 (a : Int)] 3)).ownsRow W0.heap.size 3 1 (.slice (some ⟨W0.heap.size, 0, none⟩) 1 1) 1 (icells [a])) := World.ownsRow_lit W0 #[.int .i64 (a : Int)] 1 (Nat.le_refl _) (by unfold maxLen; omega) (by rfl)
  obtain ⟨i1, hj0, hj1, hj2, hj3⟩ := info_parts Tryz.info3
  go_enter Tryz.func10, Tryz.ntmps10
  go_wp2
  rw [← hW0]
  clear hW0
  have HZ0 : Hid (W0.heap.size = w.heap.size + 1) := z0
  have z0' : w.heap.size < W0.heap.size := by omega
  clear z0
  go_loopw [5, 6] (fun v i wr => ∃ (k n g cap : Nat) (ms : List Nat), n = ms.length ∧ k ≤ n ∧ i = .int .i64 k ∧ v = .slice (some ⟨g, 0, none⟩) n cap ∧ wr.ownsRow W0.heap.size 3 1 v n (icells ms) ∧ Below W0.heap.size W0 wr ∧ Hid (NaI N G a ms k) ∧ n ≤ N) (fun _ i _ => N + 1 - (intOf i).toNat)
  case atStart =>
    have z0 := HZ0.out
    exact ⟨0, 1, W0.heap.size, 1, [a], rfl, by omega, rfl, by rw [z0], by have := SO.out; rw [z0] at this ⊢; exact this, bel1 _ _, NaI.start ha, by omega⟩
  case round =>
    obtain ⟨k, n, g, cap, ms, hn0, hk, rfl, rfl, hO, hb, HI, hnN⟩ := hrel
    have HN0 : Hid (n = ms.length) := hn0
    have hlk : ∀ {x}, x < n → x < ms.length := fun h => by omega
    clear hn0
    clear SO
    have hbs := hb.size
    have BW : Below w.heap.size w wr := B0.trans (hb.mono B0.size)
    have cg : wr.cell? ⟨w.heap.size, 0, none⟩ = some (.slice (some ⟨gb, go, none⟩) N gc) := (hb.cell (p := ⟨w.heap.size, 0, none⟩) (by show w.heap.size < W0.heap.size; omega)).trans cg0
    by_cases hlt : k < n
    case neg =>
      have FIN : Hid (NoAny G a) := HI.out.end (by have := HN0.out; omega)
      clear hO HI
      go_wp2
      go_ret
      exact ⟨true, rfl, fun _ => FIN.out, BW⟩
    obtain ⟨x, hx⟩ : ∃ x, x = ms.getD k 0 := ⟨_, rfl⟩
    have cx := own_cellN hO hlt
    rw [← hx] at cx
    have hxN : x < N := by rw [hx]; exact HI.out.lt _ (by simp [List.getD, List.getElem?_eq_getElem (hlk hlt)])
    have HX : Hid (ms.getD k 0 = x) := hx.symm
    clear hx
    have NG := HB.out wr BW
    have g0 := NG.c0 x hxN
    have g1 := NG.c1 x hxN
    have g2 := NG.c2 x hxN
    have NK0 : Hid (IntsAt wr (p x).a2 (p x).b2 (p x).o2 (G x).nk (G x).kd) := (NG.node x hxN).kids
    clear NG
    have lx : (x : Int) < (N : Int) := by omega
    have hdk := HNKB.out x hxN
    have lk : (k : Int) < (n : Int) := by omega
    obtain ⟨d, hd⟩ : ∃ d, d = G x := ⟨_, rfl⟩
    obtain ⟨pb, hpb⟩ : ∃ q, q = p x := ⟨_, rfl⟩
    have HKX : Hid (∀ j, j < d.nk → 0 ≤ d.kd j ∧ d.kd j < N) := by rw [hd]; exact HKK.out x hxN
    rw [← hd] at g0 g1 g2 NK0 hdk
    rw [← hpb] at g1 g2 NK0
    have HD : Hid (G x = d) := hd.symm
    have HPB : Hid (p x = pb) := hpb.symm
    clear hd hpb
    obtain ⟨W1, hW1⟩ : ∃ W1, W1 = (wr.alloc (.cells #[.int .i64 d.kind, .slice pb.a1 d.nn pb.c1, .slice pb.a2 d.nk pb.c2] 39)).drew := ⟨_, rfl⟩
    have RO := row3 wr (.int .i64 d.kind) (.slice pb.a1 d.nn pb.c1) (.slice pb.a2 d.nk pb.c2) 39
    have BO : Below wr.heap.size wr W1 := by rw [hW1]; exact (bel1 _ _).drew
    have z1 : W1.heap.size = wr.heap.size + 1 := by rw [hW1]; simp
    have t0 : W1.cell? ⟨wr.heap.size, 0, none⟩ = some (.int .i64 d.kind) := by rw [hW1]; exact RO.cell (i := 0) (by omega)
    have t2 : W1.cell? ⟨wr.heap.size, 2, none⟩ = some (.slice pb.a2 d.nk pb.c2) := by rw [hW1]; exact RO.cell (i := 2) (by omega)
    have HNK : Hid (∀ w', Below w.heap.size w w' → IntsAt w' pb.a2 pb.b2 pb.o2 d.nk d.kd) := fun w' hb' => by
      have := ((HB.out w' hb').node x hxN).kids
      rw [HD.out, HPB.out] at this
      exact this
    have Z0 := bel1 wr (.cells #[.int .i64 0, .slice none 0 0, .slice none 0 0] 39)
    have R0 := row3 wr (.int .i64 0) (.slice none 0 0) (.slice none 0 0) 39
    have cx' := (Z0.cell (p := ⟨g, k, none⟩) (World.block_lt_of_cell? _ _ cx)).trans cx
    have g0' := (Z0.cell (p := ⟨gb, go + x * 3, none⟩) (World.block_lt_of_cell? _ _ g0)).trans g0
    have g1' := (Z0.cell (p := ⟨gb, go + x * 3 + 1, none⟩) (World.block_lt_of_cell? _ _ g1)).trans g1
    have g2' := (Z0.cell (p := ⟨gb, go + x * 3 + 2, none⟩) (World.block_lt_of_cell? _ _ g2)).trans g2
    have cg' := (Z0.cell (p := ⟨w.heap.size, 0, none⟩) (World.block_lt_of_cell? _ _ cg)).trans cg
    have b0 := R0.cell (i := 0) (by omega)
    have b1 := R0.cell (i := 1) (by omega)
    have b2 := R0.cell (i := 2) (by omega)
    have f0 := R0.frozen 0
    have f1 := R0.frozen 1
    have f2 := R0.frozen 2
    go_wp2
    go_region
    rw [← hW1]
    clear hW1 Z0 R0 cx' g0' g1' g2' cg' b0 b1 b2 f0 f1 f2 RO cx g0 g1 g2 cg NK0
    have BW1 : Below w.heap.size w W1 := BW.trans (BO.mono BW.size)
    by_cases hk0 : d.kind = 0
    case pos =>
      have q0 : (d.kind == 0) = true := by rw [beq_iff_eq]; exact hk0
      clear hO HI hk0
      go_wp2
      go_ret
      exact ⟨false, rfl, (fun h => by cases h), BW1⟩
    have q0 : (d.kind == 0) = false := beq_eq_false_iff_ne.2 hk0
    have HK0 : Hid (d.kind ≠ 0) := hk0
    clear hk0
    have ST2 : Hid (W1.ownsRow W0.heap.size 3 1 (.slice (some ⟨g, 0, none⟩) n cap) n (icells ms) ∧ Below W0.heap.size W0 W1 ∧ NaI N G a ms k ∧ ms.getD k 0 = x) := ⟨own_block hO (fun j e => BO.block j (hO.lt j e.symm).2), hb.trans (BO.mono hb.size), HI.out, HX.out⟩
    have gne : g < wr.heap.size := (hO.lt g rfl).2
    clear hO hb HI HX BW
    go_wp2
    go_loopw [5, 8] (fun v j wy => ∃ (jj n g cap : Nat) (ms : List Nat), n = ms.length ∧ k < n ∧ jj ≤ d.nk ∧ j = .int .i64 jj ∧ v = .slice (some ⟨g, 0, none⟩) n cap ∧ wy.ownsRow W0.heap.size 3 1 v n (icells ms) ∧ Below W0.heap.size W0 wy ∧ wy.cell? ⟨wr.heap.size, 2, none⟩ = some (.slice pb.a2 d.nk pb.c2) ∧ g ≠ wr.heap.size ∧ n ≤ N ∧ Hid (NaI N G a ms k ∧ ms.getD k 0 = x ∧ ∀ t, t < jj → kid d t ∈ ms)) (fun _ j _ => d.nk - (intOf j).toNat)
    case atStart => exact ⟨0, n, g, cap, ms, HN0.out, hlt, Nat.zero_le _, rfl, rfl, ST2.out.1, ST2.out.2.1, t2, by omega, hnN, ⟨ST2.out.2.2.1, ST2.out.2.2.2, fun t ht => absurd ht (Nat.not_lt_zero _)⟩⟩
    case round =>
      rename World => wy
      clear ST2 t2 t0 lk hlt hk hnN gne HN0 hlk
      obtain ⟨jj, n, g, cap, ms, hn0, hkn, hj, rfl, rfl, hO, hb, cb, hgne, hnN, HI⟩ := hrel
      have HN0 : Hid (n = ms.length) := hn0
      have hlk : ∀ {x}, x < n → x < ms.length := fun h => by omega
      clear hn0
      have hbs2 := hb.size
      have BY : Below w.heap.size w wy := B0.trans (hb.mono B0.size)
      by_cases hjl : jj < d.nk
      case neg =>
        have HE : Hid (NaI N G a ms (k + 1)) := by
          obtain ⟨e1, e2, e3⟩ := HI.out
          refine e1.next ?_ ?_
          · rw [e2, HD.out]; exact HK0.out
          · rw [e2, HD.out]; exact fun t ht => e3 t (by omega)
        clear HI
        go_wp2
        go_roundw
        case rel => exact ⟨k + 1, n, g, cap, ms, HN0.out, by omega, by go_num, rfl, hO, hb, HE, hnN⟩
        case measure => simp [intOf]; omega
      obtain ⟨y, hy⟩ : ∃ y : Nat, d.kd jj = (y : Int) := ⟨(d.kd jj).toNat, by have := (HKX.out jj hjl).1; omega⟩
      have hyN : y < N := by have := (HKX.out jj hjl).2; omega
      have HY : Hid (kid d jj = y) := by show (d.kd jj).toNat = y; omega
      have HCK : Hid (∀ w', Below w.heap.size w w' → pb.a2 = some ⟨pb.b2, pb.o2, none⟩ ∧ w'.cell? ⟨pb.b2, pb.o2 + jj, none⟩ = some (.int .i64 (y : Int))) := fun w' hb' => by
        have := HNK.out w' hb'
        exact ⟨this.at_ (by omega), by rw [← hy]; exact this.cell jj hjl⟩
      have eP := (HCK.out wy BY).1
      rw [eP] at cb
      clear hy
      have HSW : Hid (seenTo ms y 0 = false) := seen_zero ms y
      go_wp2
      go_loopw [9, 10] (fun s kk wz => ∃ t : Nat, t ≤ n ∧ kk = .int .i64 t ∧ s = .bool (seenTo ms y t) ∧ Below wy.heap.size wy wz) (fun _ kk _ => n - (intOf kk).toNat)
      case atStart => exact ⟨0, Nat.zero_le _, rfl, by rw [HSW.out], Below.refl _ _⟩
      case round =>
        rename World => wz
        obtain ⟨t, ht, rfl, rfl, hbz⟩ := hrel
        have BZ : Below w.heap.size w wz := BY.trans (hbz.mono BY.size)
        have cbz : wz.cell? ⟨wr.heap.size, 2, none⟩ = some (.slice (some ⟨pb.b2, pb.o2, none⟩) d.nk pb.c2) := (hbz.cell (p := ⟨wr.heap.size, 2, none⟩) (World.block_lt_of_cell? _ _ cb)).trans cb
        have ckz := (HCK.out wz BZ).2
        have hOz : wz.ownsRow W0.heap.size 3 1 (.slice (some ⟨g, 0, none⟩) n cap) n (icells ms) := own_block hO (fun j e => hbz.block j (hO.lt j e.symm).2)
        by_cases htl : t < n
        case pos =>
          have cm := own_cellN hOz htl
          obtain ⟨z, hz⟩ : ∃ z, z = ms.getD t 0 := ⟨_, rfl⟩
          have HS1 : Hid (seenTo ms y (t + 1) = (seenTo ms y t || z == y)) := by show seenTo ms y (t + 1) = _; rw [hz]; exact seen_step (hlk htl)
          rw [← hz] at cm
          obtain ⟨b, hbq⟩ : ∃ b, b = seenTo ms y t := ⟨_, rfl⟩
          rw [← hbq] at HS1 ⊢
          clear hz hbq hOz
          have lt1 : (t : Int) < (n : Int) := by omega
          have lt2 : (jj : Int) < (d.nk : Int) := by omega
          by_cases hzy : z = y
          case pos =>
            have q1 : ((z : Int) == (y : Int)) = true := by rw [beq_iff_eq]; omega
            have HR : Hid (seenTo ms y (t + 1) = true) := by show seenTo ms y (t + 1) = true; rw [HS1.out]; simp [hzy]
            clear HS1 hzy
            go_wp2
            go_quiet (fail)
            go_wp2
            go_roundw
            case rel => exact ⟨t + 1, by omega, by go_num, by rw [HR.out], by first | exact hbz | exact hbz.drew | exact below_drewN hbz _⟩
            case measure => simp [intOf]; omega
          case neg =>
            have q1 : ((z : Int) == (y : Int)) = false := beq_eq_false_iff_ne.2 (by omega)
            have HR : Hid (seenTo ms y (t + 1) = b) := by show seenTo ms y (t + 1) = b; rw [HS1.out]; simp [hzy]
            clear HS1 hzy
            go_wp2
            go_quiet (fail)
            go_wp2
            go_roundw
            case rel => exact ⟨t + 1, by omega, by go_num, by rw [HR.out], by first | exact hbz | exact hbz.drew | exact below_drewN hbz _⟩
            case measure => simp [intOf]; omega
        have htn : t = n := by omega
        have HSE : Hid (seenTo ms y t = true ↔ y ∈ ms) := by show seenTo ms y t = true ↔ _; rw [htn, HN0.out]; exact seen_all ms y
        have hbW : Below W0.heap.size W0 wz := hb.trans (hbz.mono hb.size)
        have hzs := hbz.size
        have qtn : ¬ (t : Int) < (n : Int) := by omega
        clear htl htn
        cases hse : seenTo ms y t
        case true =>
          have HE : Hid (NaI N G a ms k ∧ ms.getD k 0 = x ∧ ∀ t, t < jj + 1 → kid d t ∈ ms) := by
            obtain ⟨e1, e2, e3⟩ := HI.out
            refine ⟨e1, e2, fun u hu => ?_⟩
            by_cases e : u = jj
            · subst e; rw [HY.out]; exact HSE.out.1 hse
            · exact e3 u (by omega)
          clear HI HSE hse
          go_wp2
          go_roundw
          case rel => exact ⟨jj + 1, n, g, cap, ms, HN0.out, hkn, by omega, by go_num, rfl, hOz, hbW, (by first | exact cbz | (rw [eP]; exact cbz)), hgne, hnN, HE⟩
          case measure => simp [intOf]; omega
        case false =>
          have hni : y ∉ ms := fun h => by have := HSE.out.2 h; rw [hse] at this; cases this
          have HE : Hid (NaI N G a (ms ++ [y]) k ∧ (ms ++ [y]).getD k 0 = x ∧ ∀ t, t < jj + 1 → kid d t ∈ ms ++ [y]) := by
            obtain ⟨e1, e2, e3⟩ := HI.out
            refine ⟨e1.more (Nat.le_of_lt (hlk hkn)) hyN hni, ?_, fun u hu => ?_⟩
            · rw [← e2]; simp [List.getD, List.getElem?_append_left (hlk hkn)]
            · by_cases e : u = jj
              · subst e; rw [HY.out]; simp
              · exact List.mem_append_left _ (e3 u (by omega))
          clear HI HSE hse hni
          have hle : n + 1 ≤ N := by have := HE.out.1.len; have := HN0.out; simp at *; omega
          go_wp2_with (first | (at_builtin; refine wpList_append_lies _ rfl _ _ 33 rfl W0.heap.size 3 i1 _ 1 8 Tryz.underlying33 hj0 hj1 hj2 hj3 rfl (by omega) (.slice (some ⟨g, 0, none⟩) n cap) n (icells ms) rfl (hOz.alloc _) ⟨wz.heap.size, 0, none⟩ 1 1 [.int .i64 (y : Int)] rfl rfl (cell_one_new _ _ _) (by simp [Value.oneCell']) (by omega) (by unfold maxLen; omega) (by omega) (by simp; omega) (wz.heap.size + 1) (by simp) ?_; intro gg cap6 w6 hown6 hg6 hat6 hlt6))
          have hbox : wr.heap.size < wy.heap.size := World.block_lt_of_cell? _ _ cb
          have HN : Hid (w6.ownsRow W0.heap.size 3 1 (.slice (some ⟨gg, 0, none⟩) (n + 1) cap6) (n + 1) (icells (ms ++ [y])) ∧ Below W0.heap.size W0 w6 ∧ w6.cell? ⟨wr.heap.size, 2, none⟩ = some (.slice (some ⟨pb.b2, pb.o2, none⟩) d.nk pb.c2) ∧ gg ≠ wr.heap.size) := by
            refine ⟨by unfold icells; rw [List.map_append]; exact hown6, grown_below hbW (by omega) hg6 (fun j hj => (hOz.lt j hj).1), ?_, ?_⟩
            · refine (World.cell?_of_block (w := wz) ((hg6.block _ (by simp; omega) (by simp [Value.ownBlock]; omega)).trans (Below.heap_alloc _ _ _ (by show wr.heap.size < wz.heap.size; omega)))).trans cbz
            · rcases hat6 with e | e
              · have : g = gg := by simpa [Value.ownBlock] using e
                omega
              · omega
          clear hown6 hg6 hat6 hO hOz hb hbz
          go_wp2
          go_roundw
          case rel => exact ⟨jj + 1, n + 1, gg, cap6, ms ++ [y], by rw [HN0.out]; simp, by omega, by omega, by go_num, (by first | rfl | exact ⟨rfl, rfl, rfl⟩), HN.out.1, HN.out.2.1, (by first | exact HN.out.2.2.1 | (rw [eP]; exact HN.out.2.2.1)), HN.out.2.2.2, hle, HE⟩
          case measure => simp [intOf]; omega

end Go.Proofs.YtoanhnmpkonbfaaGreatDoor
