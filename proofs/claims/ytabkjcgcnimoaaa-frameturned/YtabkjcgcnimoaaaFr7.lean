/- What frame.Whole answers: how many bytes the whole frames at the beginning have. -/
import Derived.Test.YtabkjcgcnimoaaaFr6
namespace Go.Proofs.Ytabkjcgcnimoaaa
open Go.RowKit Go.Shelf
set_option maxRecDepth 8000
attribute [local go_sem] Oper.semAt_some

theorem cuts_any (ao : Option Addr) (n c : Nat) (w : World) : Calls Try.prog 16 #[.slice ao n c] w fun e w' => e = .returned (.func (.func 22) #[] #[.pointer (some ⟨w.heap.size, 0, none⟩)]) ∧ w' = w.alloc (.cells #[.slice ao n c] 25) := by
  have hmf : ∀ (fn : Fn) (first cap : Array Value) (w : World), (Instr.makeFunc fn first cap).run Try.prog w = .ok (.func fn first cap) w := fun _ _ _ _ => rfl
  go_enter Try.func16, Try.ntmps16
  go_wp2
  go_ret
  exact ⟨rfl, rfl⟩

theorem sees_putObj {W : World} {v : Value} {xs : List Int} {l : Nat} {r : Loop} (h : Sees W v xs) (hl : W.heap[l]? = some (.loop r)) (o : Obj) : Sees (W.putObj l o) v xs := by
  obtain ⟨ao, cap, rfl, h1, h2, h0, h3⟩ := h
  refine ⟨ao, cap, rfl, h1, h2, h0, ?_⟩
  rcases h3 with h3 | ⟨b, off, rfl, h3⟩
  · exact .inl h3
  · refine .inr ⟨b, off, rfl, fun i hi => ?_⟩
    have hc := h3 i hi
    have hne : b ≠ l := fun e => by
      subst e
      simp [World.cell?, hl] at hc
    exact (World.cell?_of_block (World.putObj_heap_other hne)).trans hc

/-- What lay below B0 lies as it lay; what the iterator changes lies beyond. -/
def Mine (B0 : Nat) (w : World) (D0 D : Blocks) (W : World) : Prop := B0 ≤ w.heap.size ∧ Below B0 w W ∧ ∀ k, D k → ¬ D0 k → B0 ≤ k

theorem Mine.stays {B0 : Nat} {w : World} {D0 D D' : Blocks} {W W' : World} (h : Mine B0 w D0 D W) (hk : Kept W W' (fun k => D k ∧ ¬ D0 k)) (hD : ∀ k, D' k → D k ∨ (W.heap.size ≤ k ∧ k < W'.heap.size)) : Mine B0 w D0 D' W' := by
  obtain ⟨h0, h1, h2⟩ := h
  refine ⟨h0, h1.trans ⟨hk.os, hk.tape, hk.output, hk.size, fun k hlt => hk.block k (by have := h1.size; omega) (fun hd => by have := h2 k hd.1 hd.2; omega)⟩, fun k hd hn => ?_⟩
  rcases hD k hd with h | h
  · exact h2 k h hn
  · have := h1.size; omega

theorem keep_new {D D' : Blocks} {W W' : World} {B : Nat} {o : Obj} (hB : W.heap[B]? = some o) (hn : ¬ D B) (hD : ∀ k, D' k → D k ∨ (W.heap.size ≤ k ∧ k < W'.heap.size)) : ¬ D' B := fun h => by
  have := lt_of_block hB
  rcases hD B h with h | h
  · exact hn h
  · omega

set_option maxHeartbeats 1000000 in
theorem whole_any (v : Value) (xs : List Int) (w : World) (hs : Sees w v xs) (hsh : Shaped v xs) (hown : ∀ k, v.ownBlock = some k → k < w.heap.size) (hb : Byts xs) (hl : xs.length ≤ 140737488355328) :
    Calls Try.prog 10 #[v] w fun e w' => ∃ l, e = .returned (.int .i64 (pos l)) ∧ Bodies xs l ∧ Below w.heap.size w w' := by
  obtain ⟨ao, n, c, hv⟩ : ∃ ao n c, v = .slice ao n c := by
    obtain ⟨ao, c, e, _⟩ := hs
    exact ⟨_, _, _, e⟩
  subst hv
  have HS : Hid (Sees w (.slice ao n c) xs ∧ Shaped (.slice ao n c) xs ∧ Byts xs ∧ xs.length ≤ 140737488355328) := ⟨hs, hsh, hb, hl⟩
  have HO : Hid (∀ k, (Value.slice ao n c).ownBlock = some k → k < w.heap.size) := hown
  clear hs hsh hb hl hown
  refine (callsIn_wide (n := 0)).1 ?_
  refine callsIn_of_wp_marks Try.func10 rfl trivial ?_ rfl
  simp only [Try.ntmps10, List.size_toArray, List.length_cons, List.length_nil, Nat.reduceAdd, Nat.reduceSub, Array.replicate_succ, Array.replicate_zero, List.push_toArray, List.append_toArray, List.nil_append, List.cons_append]
  gi_wp2_with fail
  refine ⟨trivial, rfl, (callsIn_wide.2 (cuts_any _ _ _ _)).mono ?_⟩
  rintro e w1 ⟨rfl, rfl⟩
  gi_wp2_with fail
  obtain ⟨W0, hW0⟩ : ∃ W0, (w.alloc (.cells #[.int .i64 0] 3)).alloc (.cells #[.slice ao n c] 25) = W0 := ⟨_, rfl⟩
  have b0 : W0.heap[w.heap.size]? = some (.cells #[.int .i64 0] 3 (0, 0)) := by
    rw [← hW0, Below.heap_alloc _ _ _ (by simp)]; exact heap_alloc_new _ _
  have b1 : W0.heap[w.heap.size + 1]? = some (.cells #[.slice ao n c] 25 (0, 0)) := by
    rw [← hW0]; have := heap_alloc_new (w.alloc (.cells #[.int .i64 0] 3)) (.cells #[.slice ao n c] 25); rwa [World.size_alloc] at this
  have B0 : Below w.heap.size w W0 := by rw [← hW0]; exact ((Below.refl _ w).alloc (Nat.le_refl _) _).alloc (by simp) _
  have z0 : W0.heap.size = w.heap.size + 2 := by rw [← hW0]; simp
  rw [hW0]
  have s0 : Sees W0 (.slice ao n c) xs := HS.out.1.below B0 (Nat.le_refl _)
  have hown := HO.out
  clear hW0
  refine range_R (gf := 22) (lb := #[.pointer (some ⟨w.heap.size + 1, 0, none⟩)]) rfl (enters_of Try.func22 (by kernel_rfl) rfl)
    (cuts1_seq (w.heap.size + 1) (.slice ao n c) 25 xs W0 b1 s0 HS.out.2.1 HS.out.2.2.1 HS.out.2.2.2) (fun _ => rfl)
    (fun k hk => hk.elim (fun e => by omega) (fun h => by have := hown k h; omega))
    (fun pre x Wb W l r o h hl => ⟨h.1, h.2.1, sees_putObj h.2.2 hl o⟩)
    (fun D pre W => W.heap[w.heap.size]? = some (.cells #[.int .i64 (pos (bods pre))] 3 (0, 0)) ∧ ¬ D w.heap.size ∧ Mine w.heap.size w (fun k => k = w.heap.size + 1 ∨ (Value.slice ao n c).ownBlock = some k) D W)
    (fun _ _ _ _ => False)
    (fun D D' s W W' h hk hD => ⟨hk.heap h.1 (fun hd => h.2.1 hd.1), keep_new h.1 h.2.1 hD, h.2.2.stays hk hD⟩)
    (fun _ _ _ _ _ _ h _ _ => h)
    ⟨b0, fun h => h.elim (fun e => by omega) (fun h => by have := hown _ h; omega), Nat.le_refl _, B0, fun k hk hn => absurd hk hn⟩
    (fun x => { tmps := #[.slice ao n c, undef, .int .i64 0, .pointer (some ⟨w.heap.size, 0, none⟩), .int .i64 ((x.1 + (x.2.length + 9) : Nat) : Int), .slice ao n c, .func (.func 22) #[] #[.pointer (some ⟨w.heap.size + 1, 0, none⟩)], .int .i64 ((x.1 + (x.2.length + 9) : Nat) : Int), cutV (.slice ao n c) x.1 x.2.length, undef, undef], defers := [] }) ?assign ?body ?done ?stop
  case assign =>
    intro l x W K hK
    simp only [cutEnc]
    gi_wp2
    exact hK
  case body =>
    rintro l D pre x Wb W hl hrec hDl hsub ⟨hbx, hnD, hm⟩ hk hr
    have hbW : W.heap[w.heap.size]? = some (.cells #[.int .i64 (pos (bods pre))] 3 (0, 0)) := hk.heap hbx (fun hd => hnD hd.1)
    have hcell : W.cell? ⟨w.heap.size, 0, none⟩ = some (.int .i64 (pos (bods pre))) := cell_of_row W w.heap.size 0 _ _ _ hbW
    have hfro : W.frozen? ⟨w.heap.size, 0, none⟩ = false := frozen_of_row W w.heap.size 0 _ _ hbW
    have he : ((x.1 + (x.2.length + 9) : Nat) : Int) = ((pos (bods (pre ++ [x])) : Nat) : Int) := by
      rw [bods_snoc, pos_snoc, ← hr.1]; omega
    have HB : Hid (W.heap[w.heap.size]? = some (.cells #[.int .i64 (pos (bods pre))] 3 (0, 0)) ∧ ¬ D w.heap.size ∧ Mine w.heap.size w (fun k => k = w.heap.size + 1 ∨ (Value.slice ao n c).ownBlock = some k) D W) := ⟨hbW, hnD, hm.stays hk (fun k hk' => .inl hk')⟩
    have HQ : Hid (((x.1 + (x.2.length + 9) : Nat) : Int) = ((pos (bods (pre ++ [x])) : Nat) : Int)) := he
    clear hbW hbx hm he hr
    generalize ((x.1 + (x.2.length + 9) : Nat) : Int) = q at *
    gi_wp2
    refine ⟨(Kept.refl W _).setCell ⟨w.heap.size, 0, none⟩ _ (fun _ => HB.out.2.1), ?_, HB.out.2.1, HB.out.2.2.1, HB.out.2.2.2.1.setCell (p := ⟨w.heap.size, 0, none⟩) (Nat.le_refl _) _, HB.out.2.2.2.2⟩
    rw [← HQ.out]
    exact Boxed.set _ HB.out.1
  case done =>
    rintro d D ys W hd _ hS ⟨hbx, _, hm⟩ hK
    have hcell : W.cell? ⟨w.heap.size, 0, none⟩ = some (.int .i64 (pos (bods ys))) := cell_of_row W w.heap.size 0 _ _ _ hbx
    have HD : Hid (Bodies xs (bods ys) ∧ Below w.heap.size w W ∧ W.heap[d]? = some (.deferred (some []))) := ⟨hS, hm.2.1, hK⟩
    clear hbx hm hK hS
    gi_wp2
    refine ⟨by simp, .inl ⟨_, _, rfl, run_takeDeferred HD.out.2.2, ?_⟩⟩
    exact ⟨_, results_tmp rfl _ _ _, _, rfl, HD.out.1, HD.out.2.1.trans (belowK_b (w := w) (Nat.le_refl _) W d _ _ (by omega) HD.out.2.2 rfl rfl)⟩
  case stop =>
    rintro d D c pre W _ _ _ h _
    exact h.elim

end Go.Proofs.Ytabkjcgcnimoaaa
