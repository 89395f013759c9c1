/- The document's net: Take. -/
import Derived.Test.YtghngopclhhoeaaDoorLpDJ
namespace Go.Proofs.YtghngopclhhoeaaDoor
open Go.RowKit
set_option maxRecDepth 8000
set_option linter.unusedSimpArgs false
set_option linter.unusedVariables false

set_option maxHeartbeats 2000000 in
theorem rTake_no {w : World} {d : Nat} {n : Int} {base : Nat} {v : Value} {l : List MsG} (h : Dn w d n base v l) (p : Int) (hp : p < 0 ∨ (l.length : Int) ≤ p) :
    Calls Tryd.prog 20 #[.pointer (some ⟨d, 0, none⟩), .int .i64 p] w fun e w' => e = .returned (.tuple #[.agg #[.int .i8 0, .int .i8 0, .slice none 0 0, .bool false], .int .i64 220]) ∧ Below w.heap.size w w' := by
  have hB := oneL w (.cells #[.int .i8 0, .int .i8 0, .slice none 0 0, .bool false] 72)
  have hr := heap_alloc_new w (.cells #[.int .i8 0, .int .i8 0, .slice none 0 0, .bool false] 72)
  have h1 := h.below hB
  obtain ⟨va, vc, rfl⟩ := rowSl h.ow.row
  have c1 := h1.c1
  have hz := lt_of_block h1.hb
  have HH : Hid (Below w.heap.size w (w.alloc (.cells #[.int .i8 0, .int .i8 0, .slice none 0 0, .bool false] 72))) := hB
  clear h h1 hB
  by_cases q : p < 0
  · have d1 : decide (p < 0) = true := decide_eq_true q
    go_enter Tryd.func20, Tryd.ntmps20
    go_wp2_with fail
    exact bodyPost_ret (ms_ret Tryd.results20 _ _ _ _ _ _ _ rfl rfl hr rfl) rfl ⟨rfl, HH.out⟩
  · have d1 : decide (p < 0) = false := decide_eq_false q
    have d2 : decide ((l.length : Int) ≤ p) = true := decide_eq_true (by omega)
    go_enter Tryd.func20, Tryd.ntmps20
    go_wp2_with fail
    exact bodyPost_ret (ms_ret Tryd.results20 _ _ _ _ _ _ _ rfl rfl hr rfl) rfl ⟨rfl, HH.out⟩

/-- The first of a list. -/
theorem SeesG.first {w : World} {g c : Nat} {A R : List MsG} (h : SeesG w (.slice (some ⟨g, 0, none⟩) (A ++ R).length c) (A ++ R)) : SeesG w (.slice (some ⟨g, 0, none⟩) A.length c) A := by
  obtain ⟨a, c', e, h1, h2, h3⟩ := h
  simp only [Value.slice.injEq, true_and] at e
  obtain ⟨rfl, rfl⟩ := e
  rw [List.length_append] at h1
  refine ⟨_, c, rfl, by omega, fun m hm => h2 m (List.mem_append_left _ hm), fun hne => ?_⟩
  obtain ⟨b, off, e, h4⟩ := h3 (fun e => hne (List.append_eq_nil_iff.1 e).1)
  refine ⟨b, off, e, fun i m hi j u hj => h4 i m ?_ j u hj⟩
  rw [List.getElem?_append_left (List.getElem?_eq_some_iff.1 hi).1]
  exact hi

set_option maxHeartbeats 8000000 in
theorem rTake_yes {w : World} {d : Nat} {n : Int} {base : Nat} {v : Value} {A B : List MsG} {x : MsG} (h : Dn w d n base v (A ++ x :: B)) (hbase : base ≤ w.heap.size) (hl : (A ++ x :: B).length ≤ 100000000) :
    Calls Tryd.prog 20 #[.pointer (some ⟨d, 0, none⟩), .int .i64 (A.length : Nat)] w fun e w' => e = .returned (.tuple #[.agg x.cells.toArray, .int .i64 0]) ∧ ∃ v' A', Dn w' d n base v' (A' ++ B) ∧ AlikeG A A' ∧ Kept w w' (fun k => k = d) ∧ (∀ k, v'.ownBlock = some k → w.heap.size ≤ k) ∧ (∀ m ∈ A', ∀ k, m.v.ownBlock = some k → w.heap.size ≤ k) := by
  have hxl : (A ++ x :: B)[A.length]? = some x := by rw [List.getElem?_append_right (Nat.le_refl _), Nat.sub_self]; rfl
  obtain ⟨g, vc, ma, mc, rfl, hmv, hg, _⟩ := h.at' hxl
  obtain ⟨N, hN⟩ : ∃ N, N = (A ++ x :: B).length := ⟨_, rfl⟩
  have hNl : N = A.length + B.length + 1 := by rw [hN]; simp; omega
  rw [← hN] at hl
  have HD : Hid (Dn w d n base (.slice (some ⟨g, 0, none⟩) N vc) (A ++ x :: B) ∧ x.v = .slice ma x.bs.length mc ∧ N = (A ++ x :: B).length ∧ N = A.length + B.length + 1) := ⟨by rw [hN]; exact h, hmv, hN, hNl⟩
  have hNc : N ≤ vc := by
    obtain ⟨_, ⟨e, h0⟩ | ⟨g', cap, cur, e, _, _, a4, _⟩⟩ := h.ow.row
    · simp at h0
    · simp only [Value.slice.injEq] at e; omega
  have l1 : A.length < N := by omega
  have l2 : A.length ≤ vc := by omega
  have l3 : A.length ≤ N := by omega
  have d1 : decide ((A.length : Int) < 0) = false := decide_eq_false (by omega)
  have d2 : decide (N ≤ A.length) = false := decide_eq_false (by omega)
  have e1 : IntKind.i64.wrap ((A.length : Int) + 1) = ((A.length + 1 : Nat) : Int) := by rw [IntKind.wrap_i64]; omega
  have HAT : Hid (∀ W, Below w.heap.size w W → (W.cell? ⟨d, 1, none⟩ = some (.slice (some ⟨g, 0, none⟩) N vc) ∧ d < W.heap.size ∧ g < W.heap.size) ∧ (∀ (i : Nat) (m : MsG), (A ++ x :: B)[i]? = some m → ∃ za zc, m.v = .slice za m.bs.length zc ∧ W.cell? ⟨g, i * 4, none⟩ = some (.int .i8 m.f) ∧ W.cell? ⟨g, i * 4 + 1, none⟩ = some (.int .i8 m.t) ∧ W.cell? ⟨g, i * 4 + 2, none⟩ = some (.slice za m.bs.length zc) ∧ W.cell? ⟨g, i * 4 + 3, none⟩ = some (.bool m.sp)) ∧ Dn W d n base (.slice (some ⟨g, 0, none⟩) N vc) (A ++ x :: B)) := fun W hW => by
    have hw := HD.out.1.below hW
    refine ⟨⟨hw.c1, lt_of_block hw.hb, by have := hW.size; omega⟩, fun i m hi => ?_, hw⟩
    obtain ⟨g', c', za, zc, ee, e2, _, q0, q1, q2, q3⟩ := hw.at' hi
    simp only [Value.slice.injEq, Option.some.injEq, Addr.mk.injEq, and_true] at ee
    obtain ⟨rfl, _⟩ := ee
    exact ⟨za, zc, e2, q0, q1, q2, q3⟩
  obtain ⟨w2, hw2⟩ : ∃ w2, w2 = (w.alloc (.cells #[.int .i8 0, .int .i8 0, .slice none 0 0, .bool false] 72)).alloc (.cells #[.int .i8 x.f, .int .i8 x.t, .slice ma x.bs.length mc, .bool x.sp] 72) := ⟨_, rfl⟩
  have H2 : Hid (Below w.heap.size w w2 ∧ w2.heap[w.heap.size]? = some (.cells #[.int .i8 0, .int .i8 0, .slice none 0 0, .bool false] 72 (0, 0)) ∧ w2.heap[w.heap.size + 1]? = some (.cells #[.int .i8 x.f, .int .i8 x.t, .slice ma x.bs.length mc, .bool x.sp] 72 (0, 0))) := by
    obtain ⟨f1, f2, f3, _⟩ := two_allocL w (.cells #[.int .i8 0, .int .i8 0, .slice none 0 0, .bool false] 72) (.cells #[.int .i8 x.f, .int .i8 x.t, .slice ma x.bs.length mc, .bool x.sp] 72)
    rw [hw2]; exact ⟨f1, f2, f3⟩
  obtain ⟨⟨p0, p1, p2⟩, pat, _⟩ := HAT.out _ (oneL w (.cells #[.int .i8 0, .int .i8 0, .slice none 0 0, .bool false] 72))
  obtain ⟨za, zc, ez, q0, q1, q2, q3⟩ := pat A.length x hxl
  rw [hmv] at ez
  simp only [Value.slice.injEq, true_and] at ez
  obtain ⟨rfl, rfl⟩ := ez
  clear h hmv hxl hN hNl hNc pat
  go_enter Tryd.func20, Tryd.ntmps20
  go_upto_region 4 with fail
  rw [← hw2]
  clear hw2 p0 p1 p2 q0 q1 q2 q3
  obtain ⟨⟨p0, p1, p2⟩, _, hdn2⟩ := HAT.out _ H2.out.1
  have HC : Hid (Calls Tryd.prog 54 #[.slice (some ⟨g, 0, none⟩) A.length vc] w2 fun e w' => ∃ v' l', e = .returned v' ∧ OwG w' w2.heap.size v' l' ∧ AlikeG A l' ∧ Below w2.heap.size w2 w') := by
    refine copyMs_any (SeesG.first (R := x :: B) ?_) (by have := HD.out.2.2.2; omega) (fun m hm => hdn2.hi m (List.mem_append_left _ hm))
    have := hdn2.ow.sees
    rw [HD.out.2.2.1] at this
    exact this
  clear hdn2
  go_wp2_with fail
  refine Calls.mono HC.out ?_
  rintro _ w4 ⟨v4, A', rfl, h4, hal, b4⟩
  obtain ⟨a4, c4, rfl⟩ := rowSl h4.row
  have hAl : A'.length = A.length := hal.1.symm
  have hw2s := H2.out.1.size
  have H4 : Hid ((Below w.heap.size w w4 ∧ OwG w4 w.heap.size (.slice a4 A'.length c4) A' ∧ AlikeG A A') ∧ w4.heap[w.heap.size]? = some (.cells #[.int .i8 0, .int .i8 0, .slice none 0 0, .bool false] 72 (0, 0)) ∧ w4.heap[w.heap.size + 1]? = some (.cells #[.int .i8 x.f, .int .i8 x.t, .slice ma x.bs.length mc, .bool x.sp] 72 (0, 0)) ∧ A'.length = A.length ∧ (∀ k, (Value.slice a4 A'.length c4).ownBlock = some k → k ≠ w.heap.size) ∧ (∀ k, (Value.slice a4 A'.length c4).ownBlock = some k → k ≠ w.heap.size + 1)) := ⟨⟨H2.out.1.trans (b4.mono hw2s), ⟨row_lowerl h4.row hw2s, fun m hm => row_lowerl (h4.own m hm) hw2s⟩, hal⟩, boxL H2.out.2.1 b4, boxL H2.out.2.2 b4, hAl, fun k e => by
    have := (h4.row.lt k e).1; have := lt_of_block H2.out.2.1; omega, fun k e => by
    have := (h4.row.lt k e).1; have := lt_of_block H2.out.2.2; omega⟩
  clear h4 hal b4 HC H2 p0 p1 p2 hw2s hAl
  go_wp2_with fail
  go_loopw [7, 8] (fun vl vi wr => ∃ (i j : Nat) (a : Option Addr) (c : Nat) (L : Nat), i ≤ N ∧ vi = .int .i64 (i : Int) ∧ vl = .slice a L c ∧ Hid (i = A.length + 1 + j ∧ L = (A' ++ B.take j).length ∧ Below w.heap.size w wr ∧ wr.ownsRow w.heap.size 72 4 (.slice a L c) L (gFlat (A' ++ B.take j)) ∧ (∀ m ∈ A', Owns wr w.heap.size m.v m.bs) ∧ wr.heap[w.heap.size]? = some (.cells #[.int .i8 0, .int .i8 0, .slice none 0 0, .bool false] 72 (0, 0)) ∧ wr.heap[w.heap.size + 1]? = some (.cells #[.int .i8 x.f, .int .i8 x.t, .slice ma x.bs.length mc, .bool x.sp] 72 (0, 0)) ∧ (∀ k, (Value.slice a L c).ownBlock = some k → k ≠ w.heap.size) ∧ (∀ k, (Value.slice a L c).ownBlock = some k → k ≠ w.heap.size + 1))) (fun _ vi _ => N - (intOf vi).toNat)
  case atStart => exact ⟨A.length + 1, 0, a4, c4, A'.length, by omega, rfl, rfl, rfl, by simp, H4.out.1.1, by simpa using H4.out.1.2.1.row, H4.out.1.2.1.own, H4.out.2.1, H4.out.2.2.1, H4.out.2.2.2.2⟩
  case round =>
    obtain ⟨i, j, a, c, L, hi, rfl, rfl, HJ⟩ := hrel
    rename World => wr
    obtain ⟨⟨p0, p1, p2⟩, pat, hdn⟩ := HAT.out _ HJ.out.2.2.1
    have hwr := HJ.out.2.2.1.size
    by_cases hlt : i < N
    · have hd : decide ((i : Int) < (N : Int)) = true := by simp; omega
      have hjB : j < B.length := by have := HD.out.2.2.2; have := HJ.out.1; omega
      obtain ⟨y, hy⟩ : ∃ y, B[j]? = some y := ⟨_, List.getElem?_eq_getElem hjB⟩
      have hyi : (A ++ x :: B)[i]? = some y := by
        rw [HJ.out.1, List.getElem?_append_right (by omega), show A.length + 1 + j - A.length = j + 1 by omega]
        exact hy
      obtain ⟨za, zc, ez, q0, q1, q2, q3⟩ := pat i y hyi
      have o5 := oneL wr (.cells #[.int .i8 y.f, .int .i8 y.t, .slice za y.bs.length zc, .bool y.sp] 72)
      have hO := heap_alloc_new wr (.cells #[.int .i8 y.f, .int .i8 y.t, .slice za y.bs.length zc, .bool y.sp] 72)
      have hrow5 := rowKl HJ.out.2.2.2.1 (Below.kept o5) (fun g hg => by have := (HJ.out.2.2.2.1.lt g hg).2; omega)
      have hN2 : N ≤ 100000000 := hl
      have hL : L ≤ 2000000000 := by have := HJ.out.2.1; rw [List.length_append, List.length_take] at this; have := H4.out.2.2.2.1; have := HD.out.2.2.2; omega
      rw [HJ.out.2.1] at hrow5
      obtain ⟨v7, w7, hr, ho7, hk7, hnw⟩ := app_g (x := y) (fun u hu => by
        simp only [MsG.cells, List.mem_cons, List.not_mem_nil, or_false] at hu
        rcases hu with rfl | rfl | rfl | rfl
        · rfl
        · rfl
        · rw [ez]; rfl
        · rfl) hrow5 (by simp only [MsG.cells, ez]; exact hO) (by rw [← HJ.out.2.1]; exact hL) (Nat.le_trans hwr o5.size)
      obtain ⟨a7, c7, rfl⟩ := rowSl ho7
      rw [← HJ.out.2.1] at hr hk7 hnw
      have eL : (A' ++ List.take j B ++ [y]).length = L + 1 := by rw [List.length_append, ← HJ.out.2.1]; rfl
      have eT : A' ++ List.take j B ++ [y] = A' ++ List.take (j + 1) B := by rw [take_atL hy, List.append_assoc]
      rw [eL] at hr hnw
      have hnr : ∀ q, (∀ k, (Value.slice a L c).ownBlock = some k → k ≠ q) → q < wr.heap.size → ∀ k, (Value.slice a7 (L + 1) c7).ownBlock = some k → k ≠ q := fun q h1 h2 k e => by
        rcases hnw with e2 | ⟨k', e2, h3⟩
        · exact h1 k (e2 ▸ e)
        · have h4 : some k' = some k := e2 ▸ e
          have := o5.size
          simp at h4; omega
      have HJ7 : Hid (i + 1 = A.length + 1 + (j + 1) ∧ L + 1 = (A' ++ B.take (j + 1)).length ∧ Below w.heap.size w w7 ∧ w7.ownsRow w.heap.size 72 4 (.slice a7 (L + 1) c7) (L + 1) (gFlat (A' ++ B.take (j + 1))) ∧ (∀ m ∈ A', Owns w7 w.heap.size m.v m.bs) ∧ w7.heap[w.heap.size]? = some (.cells #[.int .i8 0, .int .i8 0, .slice none 0 0, .bool false] 72 (0, 0)) ∧ w7.heap[w.heap.size + 1]? = some (.cells #[.int .i8 x.f, .int .i8 x.t, .slice ma x.bs.length mc, .bool x.sp] 72 (0, 0)) ∧ (∀ k, (Value.slice a7 (L + 1) c7).ownBlock = some k → k ≠ w.heap.size) ∧ (∀ k, (Value.slice a7 (L + 1) c7).ownBlock = some k → k ≠ w.heap.size + 1)) := by
        have hb5 : Below w.heap.size w (wr.alloc (.cells #[.int .i8 y.f, .int .i8 y.t, .slice za y.bs.length zc, .bool y.sp] 72)) := HJ.out.2.2.1.trans (o5.mono hwr)
        refine ⟨by have := HJ.out.1; omega, by rw [← eT, eL], hb5.trans (hk7.below hb5.size (fun k e => (HJ.out.2.2.2.1.lt k e).1)), ?_, fun m hm => ?_, ?_, ?_, hnr _ (fun k e => HJ.out.2.2.2.2.2.2.2.1 k e) (by have := lt_of_block HJ.out.2.2.2.2.2.1; omega), hnr _ (fun k e => HJ.out.2.2.2.2.2.2.2.2 k e) (by have := lt_of_block HJ.out.2.2.2.2.2.2.1; omega)⟩
        · rw [eL, eT] at ho7; exact ho7
        · have hq := HJ.out.2.2.2.2.1 m hm
          refine Owns.kept (Owns.kept hq (Below.kept o5) (fun k e => by have := (hq.lt k e).2; omega)) hk7 (fun k e e2 => ?_)
          obtain ⟨cs, e3⟩ := rowTl hq e
          obtain ⟨cs', e4⟩ := rowTl HJ.out.2.2.2.1 e2
          rw [e3] at e4; simp at e4
        · exact hk7.heap (boxL HJ.out.2.2.2.2.2.1 o5) (fun e => HJ.out.2.2.2.2.2.2.2.1 _ e rfl)
        · exact hk7.heap (boxL HJ.out.2.2.2.2.2.2.1 o5) (fun e => HJ.out.2.2.2.2.2.2.2.2 _ e rfl)
      clear hnr hnw o5 hO hrow5 hL ho7 hk7 eL eT hy hyi pat hdn
      go_wp2_with (at_builtin; refine wpList_appM _ rfl _ _ 35 rfl _ _ rfl rfl (hr _) ?_)
      exact ⟨⟨i + 1, j + 1, a7, c7, L + 1, hlt, rfl, rfl, HJ7.out⟩, by simp [intOf]; omega⟩
    · have hd : decide ((i : Int) < (N : Int)) = false := by simp; omega
      have hjB : B.length ≤ j := by have := HD.out.2.2.2; have := HJ.out.1; omega
      have eTB : A' ++ List.take j B = A' ++ B := by rw [List.take_of_length_le hjB]
      have hLe := HJ.out.2.1
      rw [eTB] at hLe
      have hdl := lt_of_block HD.out.1.hb
      have hown : OwG wr base (.slice a L c) (A' ++ B) := by
        have hr := HJ.out.2.2.2.1
        rw [eTB] at hr
        refine ⟨?_, fun m hm => ?_⟩
        · rw [hLe] at hr ⊢
          exact row_lowerl hr hbase
        · rcases List.mem_append.1 hm with hm | hm
          · exact row_lowerl (HJ.out.2.2.2.2.1 m hm) hbase
          · exact hdn.ow.own m (List.mem_append_right _ (List.mem_cons_of_mem _ hm))
      have hlo : ∀ m ∈ A' ++ B, 1 ≤ m.bs.length ∧ m.bs.length ≤ 8192 := fun m hm => by
        rcases List.mem_append.1 hm with hm | hm
        · obtain ⟨q, hq⟩ := List.getElem?_of_mem hm
          have hql : q < A.length := by have := (List.getElem?_eq_some_iff.1 hq).1; have := H4.out.2.2.2.1; omega
          have e := (H4.out.1.2.2.2 q _ m (List.getElem?_eq_getElem hql) hq).2.2.1
          have hm0 : A[q] ∈ A ++ x :: B := List.mem_append_left _ (List.getElem_mem hql)
          rw [← e]
          exact ⟨hdn.lo _ hm0, hdn.hi _ hm0⟩
        · have hm0 : m ∈ A ++ x :: B := List.mem_append_right _ (List.mem_cons_of_mem _ hm)
          exact ⟨hdn.lo _ hm0, hdn.hi _ hm0⟩
      obtain ⟨s1, s2⟩ := Dn.set (base := base) hdn.hb hown (fun m hm => (hlo m hm).1) (fun m hm => (hlo m hm).2)
      have fd : wr.frozen? ⟨d, 1, none⟩ = false := frozen_of_row _ _ _ _ _ hdn.hb
      obtain ⟨w8, hw8⟩ : ∃ w8, w8 = wr.setCell ⟨d, 1, none⟩ (.slice a L c) := ⟨_, rfl⟩
      rw [← hw8] at s1 s2
      have hb0 := s2.heap HJ.out.2.2.2.2.2.1 (by omega)
      have hb1 := s2.heap HJ.out.2.2.2.2.2.2.1 (by omega)
      obtain ⟨hS, hK⟩ := set4L (V := w8) (O := w.heap.size) (k := 0) (A := []) (Y := []) hb0 rfl (.int .i8 x.f) (.int .i8 x.t) (.slice ma x.bs.length mc) (.bool x.sp)
      have t0 : w8.cell? ⟨w.heap.size + 1, 0, none⟩ = some (.int .i8 x.f) := by rw [cell_of_row _ _ _ _ _ _ hb1]; rfl
      have t1 : w8.cell? ⟨w.heap.size + 1, 1, none⟩ = some (.int .i8 x.t) := by rw [cell_of_row _ _ _ _ _ _ hb1]; rfl
      have t2 : w8.cell? ⟨w.heap.size + 1, 2, none⟩ = some (.slice ma x.bs.length mc) := by rw [cell_of_row _ _ _ _ _ _ hb1]; rfl
      have t3 : w8.cell? ⟨w.heap.size + 1, 3, none⟩ = some (.bool x.sp) := by rw [cell_of_row _ _ _ _ _ _ hb1]; rfl
      have r0 : w8.cell? ⟨w.heap.size, 0, none⟩ = some (.int .i8 0) := by rw [cell_of_row _ _ _ _ _ _ hb0]; rfl
      have r1 : w8.cell? ⟨w.heap.size, 1, none⟩ = some (.int .i8 0) := by rw [cell_of_row _ _ _ _ _ _ hb0]; rfl
      have r2 : w8.cell? ⟨w.heap.size, 2, none⟩ = some (.slice none 0 0) := by rw [cell_of_row _ _ _ _ _ _ hb0]; rfl
      have r3 : w8.cell? ⟨w.heap.size, 3, none⟩ = some (.bool false) := by rw [cell_of_row _ _ _ _ _ _ hb0]; rfl
      have f0 := fun q => frozen_of_row w8 w.heap.size q _ _ hb0
      have z0 := lt_of_block hb0
      have z1 := lt_of_block hb1
      have HE : Hid (∃ w', w' = (((w8.setCell ⟨w.heap.size, 0, none⟩ (.int .i8 x.f)).setCell ⟨w.heap.size, 1, none⟩ (.int .i8 x.t)).setCell ⟨w.heap.size, 2, none⟩ (.slice ma x.bs.length mc)).setCell ⟨w.heap.size, 3, none⟩ (.bool x.sp) ∧ w'.heap[w.heap.size]? = some (.cells #[.int .i8 x.f, .int .i8 x.t, .slice ma x.bs.length mc, .bool x.sp] 72 (0, 0)) ∧ Dn w' d n base (.slice a L c) (A' ++ B) ∧ AlikeG A A' ∧ Kept w w' (fun k => k = d) ∧ (∀ k, (Value.slice a L c).ownBlock = some k → w.heap.size ≤ k) ∧ (∀ m ∈ A', ∀ k, m.v.ownBlock = some k → w.heap.size ≤ k)) := by
        refine ⟨_, rfl, hS, s1.kept hK (fun k hk e => ?_), H4.out.1.2.2, ?_, fun k e => (HJ.out.2.2.2.1.lt k e).1, fun m hm k e => ((HJ.out.2.2.2.2.1 m hm).lt k e).1⟩
        · subst e
          rcases hk with e | e | ⟨m, hm, e⟩
          · omega
          · exact HJ.out.2.2.2.2.2.2.2.1 _ e rfl
          · obtain ⟨cs, e3⟩ := rowTl (s1.ow.own m hm) e
            rw [hb0] at e3; simp at e3
        · exact (((Below.kept HJ.out.2.2.1).mono (S' := fun k => k = d) (fun k h1 h2 => by omega)).trans s2 (fun _ _ e => e)).trans hK (fun k hk e => by omega)
      have HW8 : Hid (w8 = wr.setCell ⟨d, 1, none⟩ (.slice a L c)) := hw8
      clear hw8 hS hK s1 s2 hown hlo hdn hb0 hb1 eTB hLe pat
      go_upto_region 10 with fail
      rw [← HW8.out]
      clear HW8 fd
      go_wp2_with fail
      obtain ⟨w', e, hr, hE⟩ := HE.out
      rw [← e]
      have ev : x.cells.toArray = #[.int .i8 x.f, .int .i8 x.t, .slice ma x.bs.length mc, .bool x.sp] := by simp [MsG.cells, HD.out.2.1]
      rw [ev]
      exact bodyPost_ret (ms_ret Tryd.results20 _ _ _ _ _ _ _ rfl rfl hr rfl) rfl ⟨rfl, _, _, hE⟩
end Go.Proofs.YtghngopclhhoeaaDoor
