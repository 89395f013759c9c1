/- What path.Below answers: is the one among the paths above the other? -/
import Derived.Test.YtgdbcdddcejehaaPaWJ
namespace Go.Proofs.Ytgdbcdddcejehaa
open Go.RowKit Go.Shelf
set_option maxRecDepth 8000
attribute [local go_sem] Oper.semAt_some

set_option maxHeartbeats 1000000 in
theorem below_any (s q : ByteArray) (w : World) (hl : s.size ≤ 4294967296) :
    Calls Try.prog 79 #[.string s, .string q] w fun e w' => e = .returned (.bool (decide (q.data.toList ∈ abv s.data.toList))) ∧ Below w.heap.size w w' := by
  refine (callsIn_wide (n := 0)).1 ?_
  refine callsIn_of_wp_marks Try.func79 rfl trivial ?_ rfl
  simp only [Try.ntmps79, List.size_toArray, List.length_cons, List.length_nil, Nat.reduceAdd, Nat.reduceSub, Array.replicate_succ, Array.replicate_zero, List.push_toArray, List.append_toArray, List.nil_append, List.cons_append]
  gi_wp2_with fail
  refine ⟨trivial, rfl, (callsIn_wide.2 (above_any _ _)).mono ?_⟩
  rintro e w1 ⟨rfl, rfl⟩
  gi_wp2_with fail
  obtain ⟨W0, hW0⟩ : ∃ W0, ((w.alloc (.cells #[.string q] 9)).alloc (.cells #[.bool false] 4)).alloc (.cells #[.string s] 9) = W0 := ⟨_, rfl⟩
  have b0 : W0.heap[w.heap.size]? = some (.cells #[.string q] 9 (0, 0)) := by
    rw [← hW0, Below.heap_alloc _ _ _ (by simp; omega), Below.heap_alloc _ _ _ (by simp)]; exact heap_alloc_new _ _
  have b1 : W0.heap[w.heap.size + 1]? = some (.cells #[.bool false] 4 (0, 0)) := by
    rw [← hW0, Below.heap_alloc _ _ _ (by simp)]
    have := heap_alloc_new (w.alloc (.cells #[.string q] 9)) (.cells #[.bool false] 4); rwa [World.size_alloc] at this
  have b2 : W0.heap[w.heap.size + 1 + 1]? = some (.cells #[.string s] 9 (0, 0)) := by
    rw [← hW0]
    have := heap_alloc_new ((w.alloc (.cells #[.string q] 9)).alloc (.cells #[.bool false] 4)) (.cells #[.string s] 9); rwa [World.size_alloc, World.size_alloc] at this
  have B0 : Below w.heap.size w W0 := by rw [← hW0]; exact (((Below.refl _ w).alloc (Nat.le_refl _) _).alloc (by simp) _).alloc (by simp; omega) _
  have z0 : W0.heap.size = w.heap.size + 3 := by rw [← hW0]; simp
  rw [hW0]
  clear hW0
  refine range_R (gf := 81) (lb := #[.pointer (some ⟨w.heap.size + 1 + 1, 0, none⟩)]) rfl (enters_of Try.func81 (by kernel_rfl) rfl)
    (above1_seq (w.heap.size + 1 + 1) s W0 b2 hl) (fun _ => rfl)
    (fun k hk => by omega)
    (fun pre x Wb W l r o h hl => h)
    (fun D pre W => W.heap[w.heap.size]? = some (.cells #[.string q] 9 (0, 0)) ∧ W.heap[w.heap.size + 1]? = some (.cells #[.bool false] 4 (0, 0)) ∧ ¬ D w.heap.size ∧ ¬ D (w.heap.size + 1) ∧ Mine w.heap.size w (fun k => k = w.heap.size + 1 + 1) D W ∧ q.data.toList ∉ pre)
    (fun c D pre W => c = .ret ∧ W.heap[w.heap.size + 1]? = some (.cells #[.bool true] 4 (0, 0)) ∧ ¬ D (w.heap.size + 1) ∧ Mine w.heap.size w (fun k => k = w.heap.size + 1 + 1) D W ∧ q.data.toList ∈ abv s.data.toList)
    (fun D D' s W W' h hk hD => ⟨hk.heap h.1 (fun hd => h.2.2.1 hd.1), hk.heap h.2.1 (fun hd => h.2.2.2.1 hd.1), keep_new h.1 h.2.2.1 hD, keep_new h.2.1 h.2.2.2.1 hD, h.2.2.2.2.1.stays hk hD, h.2.2.2.2.2⟩)
    (fun c D D' s W W' h hk hD => ⟨h.1, hk.heap h.2.1 (fun hd => h.2.2.1 hd.1), keep_new h.2.1 h.2.2.1 hD, h.2.2.2.1.stays hk hD, h.2.2.2.2⟩)
    ⟨b0, b1, fun h => by omega, fun h => by omega, ⟨Nat.le_refl _, B0, fun k hk hn => absurd hk hn⟩, by simp⟩
    (fun x => { tmps := #[.string s, .string q, undef, .pointer (some ⟨w.heap.size, 0, none⟩), .pointer (some ⟨w.heap.size + 1, 0, none⟩), bytesV x, .string s, .func (.func 81) #[] #[.pointer (some ⟨w.heap.size + 1 + 1, 0, none⟩)], bytesV x, undef, undef, undef], defers := [] }) ?assign ?body ?done ?stop
  case assign =>
    intro l x W K hK
    simp only [abvEnc]
    gi_wp2
    exact hK
  case body =>
    rintro l D pre x Wb W hl' hrec hDl hsub ⟨hb0, hb1, nD0, nD1, hm, hnq⟩ hk ⟨t, hst⟩
    have h0 : W.heap[w.heap.size]? = some (.cells #[.string q] 9 (0, 0)) := hk.heap hb0 (fun hd => nD0 hd.1)
    have h1 : W.heap[w.heap.size + 1]? = some (.cells #[.bool false] 4 (0, 0)) := hk.heap hb1 (fun hd => nD1 hd.1)
    have hm2 := hm.stays hk (fun k hk' => .inl hk')
    have hc0 : W.cell? ⟨w.heap.size, 0, none⟩ = some (.string q) := cell_of_row W w.heap.size 0 _ _ _ h0
    have hc1 : W.cell? ⟨w.heap.size + 1, 0, none⟩ = some (.bool false) := cell_of_row W (w.heap.size + 1) 0 _ _ _ h1
    have hfro : W.frozen? ⟨w.heap.size + 1, 0, none⟩ = false := frozen_of_row W (w.heap.size + 1) 0 _ _ h1
    obtain ⟨xb, hxb⟩ : ∃ xb : ByteArray, xb = ⟨x.toArray⟩ := ⟨_, rfl⟩
    have hbv : bytesV x = .string xb := by rw [hxb]
    have hxl : xb.data.toList = x := by rw [hxb]
    rw [hbv]
    by_cases he : x = q.data.toList
    · have heq : (xb.toList == q.toList) = true := by rw [toList_eq, toList_eq, hxl, he]; simp
      have HS : Hid (Kept W (W.setCell ⟨w.heap.size + 1, 0, none⟩ (.bool true)) (fun k => ¬ D k) ∧ (W.setCell ⟨w.heap.size + 1, 0, none⟩ (.bool true)).heap[w.heap.size + 1]? = some (.cells #[.bool true] 4 (0, 0)) ∧ ¬ D (w.heap.size + 1) ∧ Mine w.heap.size w (fun k => k = w.heap.size + 1 + 1) D (W.setCell ⟨w.heap.size + 1, 0, none⟩ (.bool true)) ∧ q.data.toList ∈ abv s.data.toList) :=
        ⟨(Kept.refl W _).setCell ⟨w.heap.size + 1, 0, none⟩ _ (fun _ => nD1), Boxed.set _ h1, nD1, ⟨hm2.1, hm2.2.1.setCell (p := ⟨w.heap.size + 1, 0, none⟩) (by simp) _, hm2.2.2⟩, by rw [hst, ← he]; simp⟩
      clear hxb hbv hxl he hb0 hb1 hm hm2 hnq hst hk hsub hDl hrec nD0 nD1 h0 h1 b0 b1 b2 B0
      gi_wp2
      exact ⟨HS.out.1, rfl, HS.out.2⟩
    · have heq : (xb.toList == q.toList) = false := by rw [toList_eq, toList_eq, hxl]; simpa using he
      have HS : Hid (Kept W W (fun k => ¬ D k) ∧ W.heap[w.heap.size]? = some (.cells #[.string q] 9 (0, 0)) ∧ W.heap[w.heap.size + 1]? = some (.cells #[.bool false] 4 (0, 0)) ∧ ¬ D w.heap.size ∧ ¬ D (w.heap.size + 1) ∧ Mine w.heap.size w (fun k => k = w.heap.size + 1 + 1) D W ∧ q.data.toList ∉ pre ++ [x]) := by
        refine ⟨Kept.refl W _, h0, h1, nD0, nD1, hm2, ?_⟩
        simp only [List.mem_append, List.mem_cons, List.not_mem_nil, or_false, not_or]
        exact ⟨hnq, fun e => he e.symm⟩
      clear hxb hbv hxl he hb0 hb1 hm hm2 hnq hst hk hsub hDl hrec nD0 nD1 h0 h1 b0 b1 b2 B0
      gi_wp2
      exact HS.out
  case done =>
    rintro d D ys W hd _ hS ⟨hb0, hb1, _, _, hm, hnq⟩ hK
    have hcell : W.cell? ⟨w.heap.size + 1, 0, none⟩ = some (.bool false) := cell_of_row W (w.heap.size + 1) 0 _ _ _ hb1
    have hfro : W.frozen? ⟨w.heap.size + 1, 0, none⟩ = false := frozen_of_row W (w.heap.size + 1) 0 _ _ hb1
    obtain ⟨X, hX⟩ : ∃ X, X = W.setCell ⟨w.heap.size + 1, 0, none⟩ (.bool false) := ⟨_, rfl⟩
    have kX : Kept W X (· = w.heap.size + 1) := by rw [hX]; exact (Kept.refl W (· = w.heap.size + 1)).setCell ⟨w.heap.size + 1, 0, none⟩ _ (fun _ => rfl)
    have dX : X.heap[d]? = some (.deferred (some [])) := kX.heap hK (fun e => by omega)
    have xb : X.heap[w.heap.size + 1]? = some (.cells #[.bool false] 4 (0, 0)) := by rw [hX]; exact Boxed.set _ hb1
    have yb : (X.putObj d (.deferred none)).heap[w.heap.size + 1]? = some (.cells #[.bool false] 4 (0, 0)) := by rw [World.putObj_heap_other (by omega)]; exact xb
    have y0 : (X.putObj d (.deferred none)).cell? ⟨w.heap.size + 1, 0, none⟩ = some (.bool false) := cell_of_row _ (w.heap.size + 1) 0 _ _ _ yb
    have HE : Hid (decide (q.data.toList ∈ abv s.data.toList) = false ∧ Below w.heap.size w (X.putObj d (.deferred none))) := by
      refine ⟨decide_eq_false (by rw [← hS]; exact hnq), hm.2.1.trans (((kX.mono (fun k _ e => .inl e)).trans (kept_putObj X d _) (fun k _ e => .inr e) : Kept W _ (fun k => k = w.heap.size + 1 ∨ k = d)).below hm.2.1.size (fun k e => by omega))⟩
    have HX : Hid (X = W.setCell ⟨w.heap.size + 1, 0, none⟩ (.bool false) ∧ X.heap[d]? = some (.deferred (some []))) := ⟨hX, dX⟩
    clear hb0 hb1 hm hnq hK hS kX dX xb yb hX b0 b1 b2 B0
    gi_wp2
    rw [← HX.out.1]
    refine ⟨by simp, .inl ⟨_, _, rfl, run_takeDeferred HX.out.2, ?_⟩⟩
    refine ⟨.bool false, ?_, by rw [HE.out.1], HE.out.2⟩
    have hres : Try.f79.results = #[.cell 4 4] := by kernel_rfl
    simp only [results, hres]
    go_simp
  case stop =>
    rintro d D c pre W hd _ _ ⟨rfl, hb1, hnD, hm, hmem⟩ hK
    have yb : (W.putObj d (.deferred none)).heap[w.heap.size + 1]? = some (.cells #[.bool true] 4 (0, 0)) := by rw [World.putObj_heap_other (by omega)]; exact hb1
    have y0 : (W.putObj d (.deferred none)).cell? ⟨w.heap.size + 1, 0, none⟩ = some (.bool true) := cell_of_row _ (w.heap.size + 1) 0 _ _ _ yb
    have HM : Hid (decide (q.data.toList ∈ abv s.data.toList) = true) := decide_eq_true hmem
    refine wpIn_ret ?_
    refine ⟨by simp, .inl ⟨_, _, rfl, run_takeDeferred hK, ?_⟩⟩
    refine ⟨.bool true, ?_, by rw [HM.out], hm.2.1.trans ((kept_putObj W d _).below hm.2.1.size (fun k e => by subst e; omega))⟩
    have hres : Try.f79.results = #[.cell 4 4] := by kernel_rfl
    simp only [results, hres]
    go_simp

end Go.Proofs.Ytgdbcdddcejehaa
