/- What path.Above and Below answer: the paths above a path. -/
import Derived.Test.YtkcapiblicfboaaGreatDoorPaXJ
namespace Go.Proofs.YtkcapiblicfboaaGreatDoor
open Go.RowKit Go.Shelf
set_option maxRecDepth 8000
attribute [local go_sem] Oper.semAt_some

/-- The paths above one. -/
def abv (l : Bs) : List Bs := if l = [47] ∨ isPb l = false then [] else (slots l 0).map fun x => l.take (max (x.1 - 1) 1)

theorem above_any (s : ByteArray) (w : World) : Calls Tryz.prog 147 #[.string s] w fun e w' => e = .returned (.func (.func 148) #[] #[.pointer (some ⟨w.heap.size, 0, none⟩)]) ∧ w' = w.alloc (.cells #[.string s] 9) := by
  have hmf : ∀ (fn : Fn) (first cap : Array Value) (w : World), (Instr.makeFunc fn first cap).run Tryz.prog w = .ok (.func fn first cap) w := fun _ _ _ _ => rfl
  go_enter Tryz.func147, Tryz.ntmps147
  go_wp2
  go_ret
  exact ⟨rfl, rfl⟩

def abvEnc (x : Bs) : Array Value := #[bytesV x]

theorem slots_ge : ∀ (l : Bs) (k : Nat) (x : Nat × Bs), x ∈ slots l k → k + 1 ≤ x.1
  | [], _, _, h => by simp [slots] at h
  | b :: r, k, x, h => by
    have ih := slots_ge r (k + 1) x
    simp only [slots] at h
    split at h
    · simp only [List.mem_cons] at h
      rcases h with rfl | h
      · simp
      · have := ih h; omega
    · have := ih h; omega

set_option maxHeartbeats 1000000 in
theorem above1_seq (c0 : Nat) (s : ByteArray) (w : World) (hc : w.heap[c0]? = some (.cells #[.string s] 9 (0, 0))) (hl : s.size ≤ 4294967296) :
    SeqR Tryz.prog 148 #[.pointer (some ⟨c0, 0, none⟩)] abvEnc (fun pre x _ _ => ∃ t, abv s.data.toList = pre ++ x :: t) (fun l => l = abv s.data.toList) (fun l => ∃ t, abv s.data.toList = l ++ t) (fun k => k = c0) w := by
  intro l J Jx W hD0 hsz hJ hJx hY h0
  have hcW : W.heap[c0]? = some (.cells #[.string s] 9 (0, 0)) := (hD0 c0 rfl).trans hc
  have hlc : c0 < W.heap.size := lt_of_block hcW
  have hcell : W.cell? ⟨c0, 0, none⟩ = some (.string s) := cell_of_row W c0 0 _ _ _ hcW
  have hnil : ∀ w : World, (binOp BinOp.eql 188 (.func (.yield l) #[] #[]) .nilFunc).run Tryz.prog w = .ok (.bool false) w := fun _ => by kernel_rfl
  have HA : Hid (W.heap[c0]? = some (.cells #[.string s] 9 (0, 0))) := hcW
  have HJ : Hid (Stays (fun k => k = c0) J ∧ Stays (fun k => k = c0) Jx) := ⟨hJ, hJx⟩
  have HY : Hid _ := hY
  have H0 : Hid _ := h0
  clear hc hD0 hcW hJ hJx hY h0
  have e1 := eq_list' s [47]
  refine (callsIn_wide (n := 0)).1 ?_
  refine callsIn_of_wp_marks Tryz.func148 rfl trivial ?_ rfl
  simp only [Tryz.ntmps148, List.size_toArray, List.length_cons, List.length_nil, Nat.reduceAdd, Nat.reduceSub, Array.replicate_succ, Array.replicate_zero, List.push_toArray, List.append_toArray, List.nil_append, List.cons_append]
  have hfin : ∀ (w2 : World), Below W.heap.size W w2 → Hid (([] : List Bs) = abv s.data.toList) → (∃ v, Ending.returned (.tuple #[]) = Ending.returned v) ∧ ∃ D, (∃ xs, xs = abv s.data.toList ∧ J D xs w2) ∨ ∃ pre, (∃ t, abv s.data.toList = pre ++ t) ∧ Jx D pre w2 := fun w2 hb HE =>
    ⟨⟨_, rfl⟩, _, .inl ⟨[], HE.out, HJ.out.1 _ _ _ _ _ H0.out (kept_below hb _) (fun k hk => .inl hk)⟩⟩
  have HFin : Hid _ := hfin
  clear hfin
  by_cases h47 : s.data.toList = [47]
  · rw [decide_eq_true h47] at e1
    have HE : Hid (([] : List Bs) = abv s.data.toList) := by show _ = _; unfold abv; rw [if_pos (.inl h47)]
    clear h47
    gi_wp2
    refine ⟨trivial, ?_⟩
    gi_wp2
    exact ⟨_, results_none rfl _ _ _, HFin.out _ ((Below.refl _ W).alloc (Nat.le_refl _) _) HE⟩
  · rw [decide_eq_false h47] at e1
    cases hi : isPb s.data.toList with
    | false =>
      have HE : Hid (([] : List Bs) = abv s.data.toList) := by show _ = _; unfold abv; rw [if_pos (.inr hi)]
      clear h47
      gi_wp2_with fail
      refine ⟨trivial, rfl, (callsIn_wide.2 (isPath_any _ _ hl)).mono ?_⟩
      rintro e w1 ⟨rfl, hb1⟩
      rw [hi]
      have HB : Hid (Below W.heap.size W w1) := ((Below.refl _ W).alloc (Nat.le_refl _) _).trans (hb1.mono (by simp))
      clear hnil hb1
      gi_wp2
      exact ⟨_, results_none rfl _ _ _, HFin.out _ HB.out HE⟩
    | true =>
      have HAb : Hid (abv s.data.toList = (slots s.data.toList 0).map fun x => s.data.toList.take (max (x.1 - 1) 1)) := by
        show _ = _
        unfold abv
        rw [if_neg]
        rintro (h | h)
        · exact h47 h
        · rw [hi] at h; simp at h
      clear h47
      gi_wp2_with fail
      refine ⟨trivial, rfl, (callsIn_wide.2 (isPath_any _ _ hl)).mono ?_⟩
      rintro e w1 ⟨rfl, hb1⟩
      rw [hi]
      have hcell1 : w1.cell? ⟨c0, 0, none⟩ = some (.string s) := by
        rw [hb1.cell (p := ⟨c0, 0, none⟩) (by simp; omega)]
        have hh := Below.heap_alloc W (.cells #[.func (.yield l) #[] #[]] 188) c0 hlc
        exact cell_of_row _ c0 0 _ _ _ (hh.trans HA.out)
      have HB1 : Hid (Below (W.heap.size + 1) (W.alloc (.cells #[.func (.yield l) #[] #[]] 188)) w1) := by
        have := hb1; rw [World.size_alloc] at this; exact this
      clear hnil hb1 hcell
      gi_wp2_with fail
      refine ⟨trivial, rfl, (callsIn_wide.2 (names_any _ _)).mono ?_⟩
      rintro e w2 ⟨rfl, rfl⟩
      gi_wp2_with fail
      obtain ⟨W2, hW2⟩ : ∃ W2, w1.alloc (.cells #[.string s] 9) = W2 := ⟨_, rfl⟩
      have hb := HB1.out
      have hy1 : w1.heap[W.heap.size]? = some (.cells #[.func (.yield l) #[] #[]] 188 (0, 0)) := by
        rw [hb.block _ (by omega)]; exact heap_alloc_new _ _
      have hz1 : W.heap.size + 1 ≤ w1.heap.size := by have := hb.size; rw [World.size_alloc] at this; exact this
      have hc1 : w1.heap[c0]? = some (.cells #[.string s] 9 (0, 0)) := by
        rw [hb.block _ (by omega)]
        exact (Below.heap_alloc W (.cells #[.func (.yield l) #[] #[]] 188) c0 hlc).trans HA.out
      have bW : Below W.heap.size W w1 := ((Below.refl _ W).alloc (Nat.le_refl _) _).trans (hb.mono (by omega))
      have y2 : W2.heap[W.heap.size]? = some (.cells #[.func (.yield l) #[] #[]] 188 (0, 0)) := by
        rw [← hW2, Below.heap_alloc _ _ _ (by omega)]; exact hy1
      have n2 : W2.heap[w1.heap.size]? = some (.cells #[.string s] 9 (0, 0)) := by rw [← hW2]; exact heap_alloc_new _ _
      have c2 : W2.heap[c0]? = some (.cells #[.string s] 9 (0, 0)) := by
        rw [← hW2, Below.heap_alloc _ _ _ (by omega)]; exact hc1
      have B2 : Below W.heap.size W W2 := by rw [← hW2]; exact bW.alloc (by omega) _
      have z2 : W2.heap.size = w1.heap.size + 1 := by rw [← hW2]; simp
      rw [hW2]
      clear hW2 hb hy1 hc1 bW hcell1
      have hst : ∀ (X : Blocks → List Bs → World → Prop), Stays (fun k => k = c0) X → Stays (fun k => k = w1.heap.size) (fun D (pre : List (Nat × Bs)) V => X (fun k => D k ∨ k = c0 ∨ k = W.heap.size) (pre.map fun x => s.data.toList.take (max (x.1 - 1) 1)) V ∧ V.heap[W.heap.size]? = some (.cells #[.func (.yield l) #[] #[]] 188 (0, 0)) ∧ ¬ D W.heap.size ∧ ¬ D c0 ∧ V.heap[c0]? = some (.cells #[.string s] 9 (0, 0))) := by
        rintro X hX D D' q V V' ⟨hx, hy, n1, n2, hcv⟩ hk hD
        refine ⟨hX _ _ _ _ _ hx (hk.mono (fun k _ h => ⟨.inl h.1, fun h' => by subst h'; exact n2 h.1⟩)) (fun k hk' => ?_), hk.heap hy (fun h => n1 h.1), keep_new hy n1 hD, keep_new hcv n2 hD, hk.heap hcv (fun h => n2 h.1)⟩
        rcases hk' with hk' | hk' | hk'
        · rcases hD k hk' with h | h
          · exact .inl (.inl h)
          · exact .inr h
        · exact .inl (.inr (.inl hk'))
        · exact .inl (.inr (.inr hk'))
      refine range_R (gf := 114) (lb := #[.pointer (some ⟨w1.heap.size, 0, none⟩)]) rfl (enters_of Tryz.func114 (by kernel_rfl) rfl)
        (names1_seq w1.heap.size s W2 n2 hl) (fun _ => rfl)
        (fun k hk => by omega)
        (fun pre x Wb W l r o h hl => h)
        (fun D pre V => J (fun k => D k ∨ k = c0 ∨ k = W.heap.size) (pre.map fun x => s.data.toList.take (max (x.1 - 1) 1)) V ∧ V.heap[W.heap.size]? = some (.cells #[.func (.yield l) #[] #[]] 188 (0, 0)) ∧ ¬ D W.heap.size ∧ ¬ D c0 ∧ V.heap[c0]? = some (.cells #[.string s] 9 (0, 0)))
        (fun cd D pre V => cd = .ret ∧ (Jx (fun k => D k ∨ k = c0 ∨ k = W.heap.size) (pre.map fun x => s.data.toList.take (max (x.1 - 1) 1)) V ∧ V.heap[W.heap.size]? = some (.cells #[.func (.yield l) #[] #[]] 188 (0, 0)) ∧ ¬ D W.heap.size ∧ ¬ D c0 ∧ V.heap[c0]? = some (.cells #[.string s] 9 (0, 0))))
        (hst J HJ.out.1)
        (fun cd D D' q V V' h hk hD => ⟨h.1, hst Jx HJ.out.2 D D' q V V' h.2 hk hD⟩)
        ⟨HJ.out.1 _ _ _ _ _ H0.out (kept_below B2 _) (fun k hk => ?_), y2, fun h => by omega, fun h => by omega, c2⟩
        (fun x => { tmps := #[.func (.yield l) #[] #[], .pointer (some ⟨c0, 0, none⟩), .pointer (some ⟨W.heap.size, 0, none⟩), .int .i64 (x.1 : Int), .func (.yield l) #[] #[], .bool false, .bool false, .string s, .bool false, .bool false, .bool false, .string s, .bool true, .bool false, .bool false, .string s, .func (.func 114) #[] #[.pointer (some ⟨w1.heap.size, 0, none⟩)], .int .i64 (x.1 : Int), bytesV x.2, undef, undef, undef, undef, undef, undef], defers := [] }) ?assign ?body ?done ?stop
      · rcases hk with hk | hk | hk
        · exact .inr ⟨by omega, by omega⟩
        · exact .inl hk
        · exact .inr ⟨by omega, by omega⟩
      case assign =>
        intro l x W K hK
        simp only [slotEnc]
        gi_wp2
        exact hK
      case body =>
        rintro l' D pre x Wb V hl' hrec hDl hsub ⟨hjb, hyb, nY, nc, hcb⟩ hk ⟨t, hst'⟩
        have hyV : V.heap[W.heap.size]? = some (.cells #[.func (.yield l) #[] #[]] 188 (0, 0)) := hk.heap hyb (fun h => nY h.1)
        have hcV : V.heap[c0]? = some (.cells #[.string s] 9 (0, 0)) := hk.heap hcb (fun h => nc h.1)
        have hjV : J (fun k => D k ∨ k = c0 ∨ k = W.heap.size) (pre.map fun x => s.data.toList.take (max (x.1 - 1) 1)) V := HJ.out.1 _ _ _ _ _ hjb (hk.mono (fun k _ h => ⟨.inl h.1, fun h' => by subst h'; exact nc h.1⟩)) (fun k h => .inl h)
        have hxin : x ∈ slots s.data.toList 0 := by rw [hst']; simp
        have hx1 := slots_ge _ _ _ hxin
        have hx2 := slots_le _ _ _ hxin
        rw [← size_list] at hx2
        have hYr := HY.out (fun k => D k ∨ k = c0 ∨ k = W.heap.size) (pre.map fun x => s.data.toList.take (max (x.1 - 1) 1)) (s.data.toList.take (max (x.1 - 1) 1)) V V.drew (fun k h => .inr (.inl h)) hjV (kept_below (below_drew (Below.refl _ V) 1) _) ⟨t.map fun x => s.data.toList.take (max (x.1 - 1) 1), by rw [HAb.out, hst']; simp⟩
        refine wpIn_block (wpIn_seq_k fun K hK => ?_)
        have hcy : V.cell? ⟨W.heap.size, 0, none⟩ = some (.func (.yield l) #[] #[]) := cell_of_row V W.heap.size 0 _ _ _ hyV
        have hcc : V.cell? ⟨c0, 0, none⟩ = some (.string s) := cell_of_row V c0 0 _ _ _ hcV
        refine above_region l' l W.heap.size c0 s x.1 (bytesV (s.data.toList.take (max (x.1 - 1) 1))) #[.func (.yield l) #[] #[], .pointer (some ⟨c0, 0, none⟩), .pointer (some ⟨W.heap.size, 0, none⟩), .int .i64 (x.1 : Int), .func (.yield l) #[] #[], .bool false, .bool false, .string s, .bool false, .bool false, .bool false, .string s, .bool true, .bool false, .bool false, .string s, .func (.func 114) #[] #[.pointer (some ⟨w1.heap.size, 0, none⟩)], .int .i64 (x.1 : Int), bytesV x.2] V _ rfl rfl rfl hcy hcc (ahead_any s x.1 (by omega) (by omega) hl _) hYr ?_
        rintro e W3 ⟨hk3, hend⟩
        have hkV : Kept V W3 (fun k => ¬ D k) := (kept_below (below_drew (Below.refl _ V) 1) _).trans hk3 (fun k _ h hD => h (.inl hD))
        have hy3 : W3.heap[W.heap.size]? = some (.cells #[.func (.yield l) #[] #[]] 188 (0, 0)) := hk3.heap (show V.drew.heap[W.heap.size]? = _ from hyV) (fun h => h (.inr (.inr rfl)))
        have hc3 : W3.heap[c0]? = some (.cells #[.string s] 9 (0, 0)) := hk3.heap (show V.drew.heap[c0]? = _ from hcV) (fun h => h (.inr (.inl rfl)))
        have hmap : (pre ++ [x]).map (fun x => s.data.toList.take (max (x.1 - 1) 1)) = pre.map (fun x => s.data.toList.take (max (x.1 - 1) 1)) ++ [s.data.toList.take (max (x.1 - 1) 1)] := by simp
        rcases hend with ⟨rfl, hJ3⟩ | ⟨rfl, hJx3⟩
        · refine ⟨true, rfl, hK _ _ ?_⟩
          have H3 : Hid (Kept V W3 (fun k => ¬ D k) ∧ (J (fun k => D k ∨ k = c0 ∨ k = W.heap.size) ((pre ++ [x]).map fun x => s.data.toList.take (max (x.1 - 1) 1)) W3 ∧ W3.heap[W.heap.size]? = some (.cells #[.func (.yield l) #[] #[]] 188 (0, 0)) ∧ ¬ D W.heap.size ∧ ¬ D c0 ∧ W3.heap[c0]? = some (.cells #[.string s] 9 (0, 0)))) := ⟨hkV, by rw [hmap]; exact hJ3, hy3, nY, nc, hc3⟩
          refine wpIn_cond_false rfl (wpIn_skip ?_)
          exact H3.out
        · refine ⟨false, rfl, hK _ _ ?_⟩
          have H3 : Hid (Kept V W3 (fun k => ¬ D k) ∧ Code.ret = Code.ret ∧ (Jx (fun k => D k ∨ k = c0 ∨ k = W.heap.size) ((pre ++ [x]).map fun x => s.data.toList.take (max (x.1 - 1) 1)) W3 ∧ W3.heap[W.heap.size]? = some (.cells #[.func (.yield l) #[] #[]] 188 (0, 0)) ∧ ¬ D W.heap.size ∧ ¬ D c0 ∧ W3.heap[c0]? = some (.cells #[.string s] 9 (0, 0)))) := ⟨hkV, rfl, by rw [hmap]; exact hJx3, hy3, nY, nc, hc3⟩
          refine wpIn_cond_true rfl (wpIn_ret ?_)
          exact H3.out
      case done =>
        rintro d D ys V hd hDd hS ⟨hjb, hyb, nY, nc, hcb⟩ hK
        have hj2 : J (fun k => D k ∨ k = c0 ∨ k = W.heap.size) (ys.map fun x => s.data.toList.take (max (x.1 - 1) 1)) (V.putObj d (.deferred none)) := HJ.out.1 _ _ _ _ _ hjb ((kept_putObj V d _).mono (fun k _ e => by subst e; exact ⟨.inl hDd, fun h => by omega⟩)) (fun k h => .inl h)
        have HD : Hid (V.heap[d]? = some (.deferred (some [])) ∧ J (fun k => D k ∨ k = c0 ∨ k = W.heap.size) (ys.map fun x => s.data.toList.take (max (x.1 - 1) 1)) (V.putObj d (.deferred none)) ∧ (ys.map fun x => s.data.toList.take (max (x.1 - 1) 1)) = abv s.data.toList) := ⟨hK, hj2, by rw [HAb.out, hS]⟩
        clear hjb hyb nY nc hcb hK hj2 hst
        refine ⟨by simp, .inl ⟨_, _, rfl, run_takeDeferred HD.out.1, ?_⟩⟩
        exact ⟨_, results_none rfl _ _ _, ⟨_, rfl⟩, _, .inl ⟨_, HD.out.2.2, HD.out.2.1⟩⟩
      case stop =>
        rintro d D cd pre V hd hDd ⟨t, hSp⟩ ⟨rfl, hjb, hyb, nY, nc, hcb⟩ hK
        have hj2 : Jx (fun k => D k ∨ k = c0 ∨ k = W.heap.size) (pre.map fun x => s.data.toList.take (max (x.1 - 1) 1)) (V.putObj d (.deferred none)) := HJ.out.2 _ _ _ _ _ hjb ((kept_putObj V d _).mono (fun k _ e => by subst e; exact ⟨.inl hDd, fun h => by omega⟩)) (fun k h => .inl h)
        have HD : Hid (V.heap[d]? = some (.deferred (some [])) ∧ Jx (fun k => D k ∨ k = c0 ∨ k = W.heap.size) (pre.map fun x => s.data.toList.take (max (x.1 - 1) 1)) (V.putObj d (.deferred none)) ∧ ∃ t, abv s.data.toList = (pre.map fun x => s.data.toList.take (max (x.1 - 1) 1)) ++ t) := ⟨hK, hj2, t.map fun x => s.data.toList.take (max (x.1 - 1) 1), by rw [HAb.out, hSp]; simp⟩
        clear hjb hyb nY nc hcb hK hj2 hst
        refine wpIn_ret ?_
        refine ⟨by simp, .inl ⟨_, _, rfl, run_takeDeferred HD.out.1, ?_⟩⟩
        exact ⟨_, results_none rfl _ _ _, ⟨_, rfl⟩, _, .inr ⟨_, HD.out.2.2, HD.out.2.1⟩⟩

end Go.Proofs.YtkcapiblicfboaaGreatDoor
