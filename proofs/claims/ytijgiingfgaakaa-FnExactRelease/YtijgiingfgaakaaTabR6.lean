/-
  Tables: the model's Release.
-/
import Derived.Test.YtijgiingfgaakaaTabR5
import Derived.Test.YtijgiingfgaakaaTabX5
namespace Go.Proofs.Ytijgiingfgaakaa
open Go.RowKit

theorem heap_alloc_at1 (w : World) (o o2 : Obj) : ((w.alloc o).alloc o2).heap[w.heap.size + 1]? = some o2 := by
  have := heap_alloc_new (w.alloc o) o2
  rw [World.size_alloc] at this
  exact this

theorem sv_own {d : SD} (h : sv d = true) (h2 : d.has = false) : d.own ≠ 0 := by
  unfold sv at h
  rw [h2] at h
  simp only [Bool.and_eq_true, Bool.false_eq_true, if_false, decide_eq_true_eq] at h
  have := h.2.1
  unfold held at this
  omega

theorem vt_sv {n i : Nat} {D : Nat → SD} (h : vt n D = true) (hi : i < n) : sv (D i) = true := by
  unfold vt allTo at h
  rw [Bool.and_eq_true, List.all_eq_true] at h
  have := h.2 i (List.mem_range.2 hi)
  unfold so at this
  rw [Bool.and_eq_true] at this
  exact this.1

theorem relD_at {n q ck : Nat} {D : Nat → SD} {wk : Int} (h : kt n D wk ck = q) : relD n D wk ck = rel wk (D q) := by unfold relD; rw [h]
theorem relD_k {n q ck : Nat} {D : Nat → SD} {wk : Int} (h : kt n D wk ck = q) : (relD n D wk ck).n = (D q).n ∧ (relD n D wk ck).dk = (D q).dk ∧ (relD n D wk ck).dm = (D q).dm := by
  rw [relD_at h]; unfold rel; split <;> exact ⟨rfl, rfl, rfl⟩

set_option maxRecDepth 100000 in
set_option maxHeartbeats 8000000 in
theorem s_Release (ao : Option Addr) (b o n c : Nat) (p : Nat → SP) (D : Nat → SD) (wk : Int) (w : World) (h1 : SlotsAt w ao b o n p D) (hn : n ≤ 1048576) (hs : ∀ i, i < n → small (D i)) :
    Calls Try.prog 9 #[.agg #[.slice ao n c], .int .i64 wk] w fun e w' =>
      TabPost w (if okR n D wk then kc D wk n else 0) (relD n D wk) e w' := by
  obtain ⟨i0, hi0, hz0, hz1, hz2⟩ := info_parts' Try.info40
  have HB : Hid (∀ w', Below w.heap.size w w' → SlotsAt w' ao b o n p D) := fun w' hb => h1.below hb
  have HG : Hid (∀ i, i < n → (D i).n ≤ 1048576) := fun i hi => (hs i hi).2.2.1
  have A1 := h1.at_
  clear h1 hs
  obtain ⟨n', hn'⟩ : ∃ n', n' = if okR n D wk then kc D wk n else 0 := ⟨_, rfl⟩
  rw [← hn']
  have HN : Hid (n' = if okR n D wk then kc D wk n else 0) := hn'
  clear hn'
  have O0 := World.ownsRow_lit (base := w.heap.size + 1 + 1) (e := 40) (size := 9) ((w.alloc (.cells #[.slice ao n c] 28)).alloc (.cells #[.slice none 0 0] 28)) #[] 0 (by simp) (by unfold maxLen; omega) rfl
  simp only [World.size_alloc] at O0
  have r1 := ((row1 w (.slice ao n c) 28).alloc (.cells #[.slice none 0 0] 28)).alloc (.cells #[] 40)
  have r2 := (row1 (w.alloc (.cells #[.slice ao n c] 28)) (.slice none 0 0) 28).alloc (.cells #[] 40)
  rw [World.size_alloc] at r2
  have B0 := bel3 w (.cells #[.slice ao n c] 28) (.cells #[.slice none 0 0] 28) (.cells #[] 40)
  have H0 : Hid (_ ∧ _ ∧ _ ∧ _) := ⟨bld_start (p := p) (D := relD n D wk) O0, r1, r2, B0⟩
  clear O0 r1 r2 B0
  go_enter Try.func9, Try.ntmps9
  go_wp2_with fail
  refine (c7 ao b o n c p D _ (HB.out _ (bel3 _ _ _ _))).mono ?_
  rintro e w1 ⟨rfl, hb1⟩
  have H1 : Hid (Bld w1 (w.heap.size + 1 + 1) (.slice (some ⟨w.heap.size + 1 + 1, 0, none⟩) 0 0) 0 p (relD n D wk) ∧ w1.rowIs w.heap.size 28 1 (fun _ => .slice ao n c) ∧ w1.rowIs (w.heap.size + 1) 28 1 (fun _ => .slice none 0 0) ∧ Below w.heap.size w w1) := ⟨H0.out.1.below hb1, H0.out.2.1.of_block (hb1.block _ H0.out.2.1.lt), H0.out.2.2.1.of_block (hb1.block _ H0.out.2.2.1.lt), H0.out.2.2.2.trans (hb1.mono H0.out.2.2.2.size)⟩
  clear hb1 H0
  have r0 := H1.out.2.2.1.cell (i := 0) (by omega)
  have rf := H1.out.2.2.1.frozen 0
  obtain ⟨v, hv⟩ : ∃ v, vt n D = v := ⟨_, rfl⟩
  rw [hv]
  have HV : Hid (vt n D = v) := hv
  clear hv
  cases v
  · have HN0 : Hid (n' = 0) := by show n' = 0; rw [HN.out]; exact if_neg (by unfold okR; rw [HV.out]; simp)
    go_wp2
    refine bodyPost_ret (v := .agg #[.slice (some ⟨w.heap.size + 1 + 1, 0, none⟩) 0 0]) (by simp [results, Try.results9, go_sem, r0]) rfl ?_
    rw [HN0.out]
    exact ⟨_, 0, 0, p, rfl, tab_none _ _ _ _ _ _ _, H1.out.2.2.2.setCell (by show w.heap.size ≤ w.heap.size + 1; omega) _⟩
  obtain ⟨qb, hq⟩ : ∃ q : Bool, q = decide (0 ≤ wk ∧ wk < 16) := ⟨_, rfl⟩
  have HQW : Hid (qb = decide (0 ≤ wk ∧ wk < 16)) := hq
  have C56 : Hid (∀ W, Calls Try.prog 34 #[.int .i64 wk] W fun e w' => e = .returned (.bool qb) ∧ w' = W) := fun W => by rw [hq]; exact t_workerOk wk W
  clear hq
  cases qb
  · have HN0 : Hid (n' = 0) := by show n' = 0; rw [HN.out]; exact if_neg (by unfold okR; rw [HV.out, ← HQW.out]; simp)
    go_wp2_with (go_at_call 34; refine (C56.out _).mono ?_; rintro e w3 ⟨rfl, hw3⟩; subst hw3)
    refine bodyPost_ret (v := .agg #[.slice (some ⟨w.heap.size + 1 + 1, 0, none⟩) 0 0]) (by simp [results, Try.results9, go_sem, r0]) rfl ?_
    rw [HN0.out]
    exact ⟨_, 0, 0, p, rfl, tab_none _ _ _ _ _ _ _, H1.out.2.2.2.setCell (by show w.heap.size ≤ w.heap.size + 1; omega) _⟩
  have p3 : 0 ≤ wk ∧ wk < 16 := of_decide_eq_true HQW.out.symm
  have HN1 : Hid (n' = kc D wk n) := by show n' = kc D wk n; rw [HN.out]; exact if_pos (by unfold okR; rw [HV.out, ← HQW.out]; rfl)
  have hwk1 : IntKind.i64.wrap (wk + 1) = wk + 1 := by rw [IntKind.wrap_i64]; omega
  clear p3
  go_wp2_with (go_at_call 34; refine (C56.out _).mono ?_; rintro e w3 ⟨rfl, hw3⟩; subst hw3)
  clear C56 r0 rf
  go_loopw [5, 6] (fun s i wr => ∃ (k : Nat) (q : Nat → SP), k ≤ n ∧ i = .int .i64 k ∧ ∃ ck, ck = kc D wk k ∧ Hid (Bld wr (w.heap.size + 1 + 1) s ck q (relD n D wk) ∧ wr.rowIs w.heap.size 28 1 (fun _ => .slice ao n c) ∧ wr.rowIs (w.heap.size + 1) 28 1 (fun _ => .slice none 0 0) ∧ Below w.heap.size w wr)) (fun _ i _ => n - (intOf i).toNat)
  case atStart => exact ⟨0, p, Nat.zero_le _, rfl, 0, (kc_zero _ _).symm, H1⟩
  case round =>
    clear H1
    obtain ⟨k, q, hk, rfl, ck, hck, HQ⟩ := hrel
    have HCK : Hid (ck = kc D wk k) := hck
    have hckk : ck ≤ k := by rw [hck]; exact kc_le _ _ _
    clear hck
    obtain ⟨oa, cap2, rfl⟩ := own_form HQ.out.1.own
    have x0 := HQ.out.2.1.cell (i := 0) (by omega)
    by_cases hlt : k < n
    · have q1 := HB.out wr HQ.out.2.2.2
      have e1 := A1 (by omega)
      obtain ⟨a0, a1, a2, a3, a4, a5, a6, a7, a8⟩ := q1.nine k hlt
      have HNS : Hid (SlotAt wr (p k) (D k)) := q1.slot k hlt
      have HSV : Hid (sv (D k) = true) := vt_sv HV.out hlt
      have hws := HQ.out.2.2.1.lt
      clear q1
      subst e1
      go_wp2_with fail
      refine (c61 (p k) (D k) _ HNS.out (HG.out k hlt)).mono ?_
      rintro e w2 ⟨ka, kc', rfl, O2, hb2⟩
      have C2 : Hid (Below wr.heap.size wr w2) := hb2
      have HW2 : Hid (Below w.heap.size w w2) := HQ.out.2.2.2.trans (hb2.mono HQ.out.2.2.2.size)
      have HK2 : Hid (w2.ownsRow wr.heap.size 37 2 (.slice ka (D k).n kc') (D k).n (kcells (D k).dk (D k).dm (D k).n)) := O2
      have HR2 : Hid (w2.rowIs w.heap.size 28 1 (fun _ => .slice (some ⟨b, o, none⟩) n c) ∧ w2.rowIs (w.heap.size + 1) 28 1 (fun _ => .slice none 0 0)) := ⟨HQ.out.2.1.of_block (hb2.block _ HQ.out.2.1.lt), HQ.out.2.2.1.of_block (hb2.block _ HQ.out.2.2.1.lt)⟩
      have hws2 : w.heap.size + 1 < w2.heap.size := HR2.out.2.lt
      have hsz2 : wr.heap.size ≤ w2.heap.size := hb2.size
      clear O2 hb2 a0 a1 a2 a3 a4 a5 a6 a7 a8 x0 HNS
      unfold sdl
      obtain ⟨hh, hhe⟩ : ∃ hh, (D k).has = hh := ⟨_, rfl⟩
      have HHE : Hid ((D k).has = hh) := hhe
      rw [hhe]
      clear hhe
      by_cases ho : (D k).own = wk + 1
      · have b3 : ((D k).own == wk + 1) = true := by rw [beq_iff_eq]; exact ho
        have HO : Hid ((D k).own = wk + 1) := ho
        clear ho
        cases hh
        · have HDL : Hid (del wk (D k) = true) := by show del wk (D k) = true; unfold del; rw [HHE.out, decide_eq_true HO.out]; rfl
          have HF4 : Hid (∀ o, Below w.heap.size w (w2.alloc o)) := fun o => HW2.out.alloc HW2.out.size _
          go_wp2
          go_roundw
          case rel =>
            exact ⟨k + 1, q, by omega, by go_num, ck, (by rw [kc_del HDL.out, ← HCK.out]), ⟨HQ.out.1.below (C2.out.alloc C2.out.size _), HR2.out.1.alloc _, HR2.out.2.alloc _, HF4.out _⟩⟩
          case measure => simp [intOf]; omega
        · have HDL : Hid (del wk (D k) = false) := by show del wk (D k) = false; unfold del; rw [HHE.out]; simp
          have HKT : Hid (kt n D wk ck = k) := by show kt n D wk ck = k; rw [HCK.out]; exact kt_at hlt HDL.out
          have EL : Hid (slc ⟨ka, 0, 0, kc'⟩ (relD n D wk ck) = [.int .i64 (D k).k, .string (D k).m, .bool true, .string (D k).v, .slice ka (D k).n kc', .int .i64 (D k).ver, .int .i64 (D k).chg, .int .i64 0, .int .i64 0]) := by show slc _ _ = _; rw [relD_at HKT.out]; unfold rel; rw [if_pos HO.out]; unfold slc; rw [HHE.out]
          have C3 : Hid (Below wr.heap.size wr (w2.alloc (.cells #[.int .i64 (D k).k, .string (D k).m, .bool true, .string (D k).v, .slice ka (D k).n kc', .int .i64 (D k).ver, .int .i64 (D k).chg, .int .i64 0, .int .i64 0] 40))) := C2.out.alloc C2.out.size _
          have HW3 : Hid (Below w.heap.size w (w2.alloc (.cells #[.int .i64 (D k).k, .string (D k).m, .bool true, .string (D k).v, .slice ka (D k).n kc', .int .i64 (D k).ver, .int .i64 (D k).chg, .int .i64 0, .int .i64 0] 40))) := HW2.out.alloc HW2.out.size _
          have HB3 : Hid (Bld (w2.alloc (.cells #[.int .i64 (D k).k, .string (D k).m, .bool true, .string (D k).v, .slice ka (D k).n kc', .int .i64 (D k).ver, .int .i64 (D k).chg, .int .i64 0, .int .i64 0] 40)) (w.heap.size + 1 + 1) (.slice oa ck cap2) ck q (relD n D wk)) := HQ.out.1.below C3.out
          have HK3 : Hid ((w2.alloc (.cells #[.int .i64 (D k).k, .string (D k).m, .bool true, .string (D k).v, .slice ka (D k).n kc', .int .i64 (D k).ver, .int .i64 (D k).chg, .int .i64 0, .int .i64 0] 40)).ownsRow wr.heap.size 37 2 (.slice ka (D k).n kc') (D k).n (kcells (D k).dk (D k).dm (D k).n)) := HK2.out.alloc _
          have HR3 : Hid ((w2.alloc (.cells #[.int .i64 (D k).k, .string (D k).m, .bool true, .string (D k).v, .slice ka (D k).n kc', .int .i64 (D k).ver, .int .i64 (D k).chg, .int .i64 0, .int .i64 0] 40)).rowIs w.heap.size 28 1 (fun _ => .slice (some ⟨b, o, none⟩) n c) ∧ (w2.alloc (.cells #[.int .i64 (D k).k, .string (D k).m, .bool true, .string (D k).v, .slice ka (D k).n kc', .int .i64 (D k).ver, .int .i64 (D k).chg, .int .i64 0, .int .i64 0] 40)).rowIs (w.heap.size + 1) 28 1 (fun _ => .slice none 0 0)) := ⟨HR2.out.1.alloc _, HR2.out.2.alloc _⟩
          go_wp2_with (first | (at_builtin; refine wpList_append_lies _ rfl _ _ 26 rfl (w.heap.size + 1 + 1) 40 i0 _ 9 104 Try.underlying26 hi0 hz0 hz1 hz2 rfl (by omega) (.slice oa ck cap2) ck (scells q (relD n D wk) ck) rfl (HB3.out.own.alloc _) ⟨w2.heap.size + 1, 0, none⟩ 1 1 [.int .i64 (D k).k, .string (D k).m, .bool true, .string (D k).v, .slice ka (D k).n kc', .int .i64 (D k).ver, .int .i64 (D k).chg, .int .i64 0, .int .i64 0] rfl rfl (World.news_of_block (cs := #[.int .i64 (D k).k, .string (D k).m, .bool true, .string (D k).v, .slice ka (D k).n kc', .int .i64 (D k).ver, .int .i64 (D k).chg, .int .i64 0, .int .i64 0]) (t := 40) (fr := (0, 0)) (heap_alloc_at1 w2 _ _)) (by simp [Value.oneCell']) (by omega) (by unfold maxLen; omega) (by omega) (by simp; omega) (w2.heap.size + 1 + 1) (by simp) ?_; intro gg cap3 w3 hown3 hg3 hat hlt3))
          rw [← EL.out] at hown3
          have FIN : Hid (∃ q', Bld w3 (w.heap.size + 1 + 1) (.slice (some ⟨gg, 0, none⟩) (ck + 1) cap3) (ck + 1) q' (relD n D wk)) := bld_step (w1 := w2.alloc (.cells #[.int .i64 (D k).k, .string (D k).m, .bool true, .string (D k).v, .slice ka (D k).n kc', .int .i64 (D k).ver, .int .i64 (D k).chg, .int .i64 0, .int .i64 0] 40)) HQ.out.1 C3.out (by rw [(relD_k HKT.out).1, (relD_k HKT.out).2.1, (relD_k HKT.out).2.2]; exact HK3.out) (by omega) hown3 hg3 (by rw [World.size_alloc]; exact hat)
          have FB : Hid (Below w.heap.size w w3) := grown_below (HW3.out.alloc HW3.out.size _) hg3 (fun x e => by have := (HB3.out.own.lt x e).1; omega)
          have FR : Hid (w3.rowIs w.heap.size 28 1 (fun _ => .slice (some ⟨b, o, none⟩) n c) ∧ w3.rowIs (w.heap.size + 1) 28 1 (fun _ => .slice none 0 0)) :=
            ⟨(HR3.out.1.alloc _).of_block (hg3.block _ (by simp; omega) (fun e => by have := (HB3.out.own.lt _ e.symm).1; omega)), (HR3.out.2.alloc _).of_block (hg3.block _ (by simp; omega) (fun e => by have := (HB3.out.own.lt _ e.symm).1; omega))⟩
          clear hown3 hg3 hat
          go_roundw
          case rel =>
            obtain ⟨q', hq'⟩ := FIN.out
            exact ⟨k + 1, q', by omega, by go_num, ck + 1, (by rw [kc_keep HDL.out, ← HCK.out]), ⟨hq', FR.out.1, FR.out.2, FB.out⟩⟩
          case measure => simp [intOf]; omega
      · have b3 : ((D k).own == wk + 1) = false := by rw [beq_eq_false_iff_ne]; exact ho
        have HDL : Hid (del wk (D k) = false) := by show del wk (D k) = false; unfold del; rw [decide_eq_false ho]; rfl
        have HKT : Hid (kt n D wk ck = k) := by show kt n D wk ck = k; rw [HCK.out]; exact kt_at hlt HDL.out
        have HO : Hid (¬ (D k).own = wk + 1) := ho
        clear ho
        cases hh
        · have b4 : ((D k).own == 0) = false := by rw [beq_eq_false_iff_ne]; exact sv_own HSV.out HHE.out
          have EL : Hid (slc ⟨ka, 0, 0, kc'⟩ (relD n D wk ck) = [.int .i64 (D k).k, .string (D k).m, .bool false, .string (D k).v, .slice ka (D k).n kc', .int .i64 (D k).ver, .int .i64 (D k).chg, .int .i64 (D k).own, .int .i64 (D k).sin]) := by show slc _ _ = _; rw [relD_at HKT.out]; unfold rel; rw [if_neg HO.out]; unfold slc; rw [HHE.out]
          have C3 : Hid (Below wr.heap.size wr (w2.alloc (.cells #[.int .i64 (D k).k, .string (D k).m, .bool false, .string (D k).v, .slice ka (D k).n kc', .int .i64 (D k).ver, .int .i64 (D k).chg, .int .i64 (D k).own, .int .i64 (D k).sin] 40))) := C2.out.alloc C2.out.size _
          have HW3 : Hid (Below w.heap.size w (w2.alloc (.cells #[.int .i64 (D k).k, .string (D k).m, .bool false, .string (D k).v, .slice ka (D k).n kc', .int .i64 (D k).ver, .int .i64 (D k).chg, .int .i64 (D k).own, .int .i64 (D k).sin] 40))) := HW2.out.alloc HW2.out.size _
          have HB3 : Hid (Bld (w2.alloc (.cells #[.int .i64 (D k).k, .string (D k).m, .bool false, .string (D k).v, .slice ka (D k).n kc', .int .i64 (D k).ver, .int .i64 (D k).chg, .int .i64 (D k).own, .int .i64 (D k).sin] 40)) (w.heap.size + 1 + 1) (.slice oa ck cap2) ck q (relD n D wk)) := HQ.out.1.below C3.out
          have HK3 : Hid ((w2.alloc (.cells #[.int .i64 (D k).k, .string (D k).m, .bool false, .string (D k).v, .slice ka (D k).n kc', .int .i64 (D k).ver, .int .i64 (D k).chg, .int .i64 (D k).own, .int .i64 (D k).sin] 40)).ownsRow wr.heap.size 37 2 (.slice ka (D k).n kc') (D k).n (kcells (D k).dk (D k).dm (D k).n)) := HK2.out.alloc _
          have HR3 : Hid ((w2.alloc (.cells #[.int .i64 (D k).k, .string (D k).m, .bool false, .string (D k).v, .slice ka (D k).n kc', .int .i64 (D k).ver, .int .i64 (D k).chg, .int .i64 (D k).own, .int .i64 (D k).sin] 40)).rowIs w.heap.size 28 1 (fun _ => .slice (some ⟨b, o, none⟩) n c) ∧ (w2.alloc (.cells #[.int .i64 (D k).k, .string (D k).m, .bool false, .string (D k).v, .slice ka (D k).n kc', .int .i64 (D k).ver, .int .i64 (D k).chg, .int .i64 (D k).own, .int .i64 (D k).sin] 40)).rowIs (w.heap.size + 1) 28 1 (fun _ => .slice none 0 0)) := ⟨HR2.out.1.alloc _, HR2.out.2.alloc _⟩
          go_wp2_with (first | (at_builtin; refine wpList_append_lies _ rfl _ _ 26 rfl (w.heap.size + 1 + 1) 40 i0 _ 9 104 Try.underlying26 hi0 hz0 hz1 hz2 rfl (by omega) (.slice oa ck cap2) ck (scells q (relD n D wk) ck) rfl (HB3.out.own.alloc _) ⟨w2.heap.size + 1, 0, none⟩ 1 1 [.int .i64 (D k).k, .string (D k).m, .bool false, .string (D k).v, .slice ka (D k).n kc', .int .i64 (D k).ver, .int .i64 (D k).chg, .int .i64 (D k).own, .int .i64 (D k).sin] rfl rfl (World.news_of_block (cs := #[.int .i64 (D k).k, .string (D k).m, .bool false, .string (D k).v, .slice ka (D k).n kc', .int .i64 (D k).ver, .int .i64 (D k).chg, .int .i64 (D k).own, .int .i64 (D k).sin]) (t := 40) (fr := (0, 0)) (heap_alloc_at1 w2 _ _)) (by simp [Value.oneCell']) (by omega) (by unfold maxLen; omega) (by omega) (by simp; omega) (w2.heap.size + 1 + 1) (by simp) ?_; intro gg cap3 w3 hown3 hg3 hat hlt3))
          rw [← EL.out] at hown3
          have FIN : Hid (∃ q', Bld w3 (w.heap.size + 1 + 1) (.slice (some ⟨gg, 0, none⟩) (ck + 1) cap3) (ck + 1) q' (relD n D wk)) := bld_step (w1 := w2.alloc (.cells #[.int .i64 (D k).k, .string (D k).m, .bool false, .string (D k).v, .slice ka (D k).n kc', .int .i64 (D k).ver, .int .i64 (D k).chg, .int .i64 (D k).own, .int .i64 (D k).sin] 40)) HQ.out.1 C3.out (by rw [(relD_k HKT.out).1, (relD_k HKT.out).2.1, (relD_k HKT.out).2.2]; exact HK3.out) (by omega) hown3 hg3 (by rw [World.size_alloc]; exact hat)
          have FB : Hid (Below w.heap.size w w3) := grown_below (HW3.out.alloc HW3.out.size _) hg3 (fun x e => by have := (HB3.out.own.lt x e).1; omega)
          have FR : Hid (w3.rowIs w.heap.size 28 1 (fun _ => .slice (some ⟨b, o, none⟩) n c) ∧ w3.rowIs (w.heap.size + 1) 28 1 (fun _ => .slice none 0 0)) :=
            ⟨(HR3.out.1.alloc _).of_block (hg3.block _ (by simp; omega) (fun e => by have := (HB3.out.own.lt _ e.symm).1; omega)), (HR3.out.2.alloc _).of_block (hg3.block _ (by simp; omega) (fun e => by have := (HB3.out.own.lt _ e.symm).1; omega))⟩
          clear hown3 hg3 hat
          go_roundw
          case rel =>
            obtain ⟨q', hq'⟩ := FIN.out
            exact ⟨k + 1, q', by omega, by go_num, ck + 1, (by rw [kc_keep HDL.out, ← HCK.out]), ⟨hq', FR.out.1, FR.out.2, FB.out⟩⟩
          case measure => simp [intOf]; omega
        · have EL : Hid (slc ⟨ka, 0, 0, kc'⟩ (relD n D wk ck) = [.int .i64 (D k).k, .string (D k).m, .bool true, .string (D k).v, .slice ka (D k).n kc', .int .i64 (D k).ver, .int .i64 (D k).chg, .int .i64 (D k).own, .int .i64 (D k).sin]) := by show slc _ _ = _; rw [relD_at HKT.out]; unfold rel; rw [if_neg HO.out]; unfold slc; rw [HHE.out]
          have C3 : Hid (Below wr.heap.size wr (w2.alloc (.cells #[.int .i64 (D k).k, .string (D k).m, .bool true, .string (D k).v, .slice ka (D k).n kc', .int .i64 (D k).ver, .int .i64 (D k).chg, .int .i64 (D k).own, .int .i64 (D k).sin] 40))) := C2.out.alloc C2.out.size _
          have HW3 : Hid (Below w.heap.size w (w2.alloc (.cells #[.int .i64 (D k).k, .string (D k).m, .bool true, .string (D k).v, .slice ka (D k).n kc', .int .i64 (D k).ver, .int .i64 (D k).chg, .int .i64 (D k).own, .int .i64 (D k).sin] 40))) := HW2.out.alloc HW2.out.size _
          have HB3 : Hid (Bld (w2.alloc (.cells #[.int .i64 (D k).k, .string (D k).m, .bool true, .string (D k).v, .slice ka (D k).n kc', .int .i64 (D k).ver, .int .i64 (D k).chg, .int .i64 (D k).own, .int .i64 (D k).sin] 40)) (w.heap.size + 1 + 1) (.slice oa ck cap2) ck q (relD n D wk)) := HQ.out.1.below C3.out
          have HK3 : Hid ((w2.alloc (.cells #[.int .i64 (D k).k, .string (D k).m, .bool true, .string (D k).v, .slice ka (D k).n kc', .int .i64 (D k).ver, .int .i64 (D k).chg, .int .i64 (D k).own, .int .i64 (D k).sin] 40)).ownsRow wr.heap.size 37 2 (.slice ka (D k).n kc') (D k).n (kcells (D k).dk (D k).dm (D k).n)) := HK2.out.alloc _
          have HR3 : Hid ((w2.alloc (.cells #[.int .i64 (D k).k, .string (D k).m, .bool true, .string (D k).v, .slice ka (D k).n kc', .int .i64 (D k).ver, .int .i64 (D k).chg, .int .i64 (D k).own, .int .i64 (D k).sin] 40)).rowIs w.heap.size 28 1 (fun _ => .slice (some ⟨b, o, none⟩) n c) ∧ (w2.alloc (.cells #[.int .i64 (D k).k, .string (D k).m, .bool true, .string (D k).v, .slice ka (D k).n kc', .int .i64 (D k).ver, .int .i64 (D k).chg, .int .i64 (D k).own, .int .i64 (D k).sin] 40)).rowIs (w.heap.size + 1) 28 1 (fun _ => .slice none 0 0)) := ⟨HR2.out.1.alloc _, HR2.out.2.alloc _⟩
          go_wp2_with (first | (at_builtin; refine wpList_append_lies _ rfl _ _ 26 rfl (w.heap.size + 1 + 1) 40 i0 _ 9 104 Try.underlying26 hi0 hz0 hz1 hz2 rfl (by omega) (.slice oa ck cap2) ck (scells q (relD n D wk) ck) rfl (HB3.out.own.alloc _) ⟨w2.heap.size + 1, 0, none⟩ 1 1 [.int .i64 (D k).k, .string (D k).m, .bool true, .string (D k).v, .slice ka (D k).n kc', .int .i64 (D k).ver, .int .i64 (D k).chg, .int .i64 (D k).own, .int .i64 (D k).sin] rfl rfl (World.news_of_block (cs := #[.int .i64 (D k).k, .string (D k).m, .bool true, .string (D k).v, .slice ka (D k).n kc', .int .i64 (D k).ver, .int .i64 (D k).chg, .int .i64 (D k).own, .int .i64 (D k).sin]) (t := 40) (fr := (0, 0)) (heap_alloc_at1 w2 _ _)) (by simp [Value.oneCell']) (by omega) (by unfold maxLen; omega) (by omega) (by simp; omega) (w2.heap.size + 1 + 1) (by simp) ?_; intro gg cap3 w3 hown3 hg3 hat hlt3))
          rw [← EL.out] at hown3
          have FIN : Hid (∃ q', Bld w3 (w.heap.size + 1 + 1) (.slice (some ⟨gg, 0, none⟩) (ck + 1) cap3) (ck + 1) q' (relD n D wk)) := bld_step (w1 := w2.alloc (.cells #[.int .i64 (D k).k, .string (D k).m, .bool true, .string (D k).v, .slice ka (D k).n kc', .int .i64 (D k).ver, .int .i64 (D k).chg, .int .i64 (D k).own, .int .i64 (D k).sin] 40)) HQ.out.1 C3.out (by rw [(relD_k HKT.out).1, (relD_k HKT.out).2.1, (relD_k HKT.out).2.2]; exact HK3.out) (by omega) hown3 hg3 (by rw [World.size_alloc]; exact hat)
          have FB : Hid (Below w.heap.size w w3) := grown_below (HW3.out.alloc HW3.out.size _) hg3 (fun x e => by have := (HB3.out.own.lt x e).1; omega)
          have FR : Hid (w3.rowIs w.heap.size 28 1 (fun _ => .slice (some ⟨b, o, none⟩) n c) ∧ w3.rowIs (w.heap.size + 1) 28 1 (fun _ => .slice none 0 0)) :=
            ⟨(HR3.out.1.alloc _).of_block (hg3.block _ (by simp; omega) (fun e => by have := (HB3.out.own.lt _ e.symm).1; omega)), (HR3.out.2.alloc _).of_block (hg3.block _ (by simp; omega) (fun e => by have := (HB3.out.own.lt _ e.symm).1; omega))⟩
          clear hown3 hg3 hat
          go_roundw
          case rel =>
            obtain ⟨q', hq'⟩ := FIN.out
            exact ⟨k + 1, q', by omega, by go_num, ck + 1, (by rw [kc_keep HDL.out, ← HCK.out]), ⟨hq', FR.out.1, FR.out.2, FB.out⟩⟩
          case measure => simp [intOf]; omega
    · have hkn : k = n := by omega
      subst hkn
      have f0 := HQ.out.2.2.1.frozen 0
      have c0 := HQ.out.2.2.1.cell (i := 0) (by omega)
      go_wp2
      refine bodyPost_ret (v := .agg #[.slice oa ck cap2]) (by simp [results, Try.results9, go_sem, c0]) rfl ?_
      obtain ⟨b, hT⟩ := HQ.out.1.tab
      rw [HN1.out, ← HCK.out]
      have hws := HQ.out.2.2.1.lt
      exact ⟨oa, b, cap2, q, rfl, (hT.set (a := ⟨w.heap.size + 1, 0, none⟩) (by show w.heap.size + 1 < _; omega) _).wide (by omega) (by simp), HQ.out.2.2.2.setCell (by show w.heap.size ≤ w.heap.size + 1; omega) _⟩

end Go.Proofs.Ytijgiingfgaakaa
