/- What choose.upTo, choose.behind and choose.Way answer, for all that came in. -/
import Derived.Test.YtljghfglabgckaaDoorStAJ
import Derived.BigQuiet
import Derived.Deep.RegionHeld
import Derived.Deep.RegionHeld2
namespace Go.Proofs.YtljghfglabgckaaDoor
open Go.RowKit
set_option maxRecDepth 8000

/-- So many of a list are at most (e, n), up to the first that is not. -/
def upN (e n : Int) (l : List TxD) : Nat := (l.takeWhile fun t => decide (zcmp t.ep t.n e n ≤ 0)).length

theorem zcmp_trans {a b c d e f : Int} (h1 : zcmp a b c d ≤ 0) (h2 : zcmp c d e f ≤ 0) : zcmp a b e f ≤ 0 := by
  unfold zcmp at *
  split at h1 <;> (try split at h1) <;> split at h2 <;> (try split at h2) <;> split <;> (try split) <;> omega

/-- Within a list that rises: who stands ahead is smaller. -/
theorem rises_lt : ∀ (l : List TxD) (e n : Int) (i k : Nat) (hk : k < l.length) (hi : i ≤ k), rises e n l = true → zcmp (l[i]'(by omega)).ep (l[i]'(by omega)).n l[k].ep l[k].n ≤ 0
  | [], _, _, _, k, hk, _, _ => by simp at hk
  | t :: l, e, n, i, k, hk, hi, h => by
    cases k with
    | zero =>
      obtain rfl : i = 0 := by omega
      simp [zcmp]
    | succ k =>
      cases i with
      | zero =>
        have h' := h
        simp only [rises, Bool.and_eq_true] at h'
        obtain ⟨_, _, h3⟩ := rises_drop l t.ep t.n k (by simpa using hk) h'.2
        simp only [List.getElem_cons_zero, List.getElem_cons_succ]
        unfold zcmp
        rw [if_pos h3]
        omega
      | succ i =>
        simp only [rises, Bool.and_eq_true] at h
        exact rises_lt l t.ep t.n i k (by simpa using hk) (by omega) h.2

theorem upN_le (e n : Int) (l : List TxD) : upN e n l ≤ l.length := (List.takeWhile_sublist _).length_le

theorem upN_below (e n : Int) (l : List TxD) (i : Nat) (h : i < upN e n l) (hl : i < l.length) : zcmp l[i].ep l[i].n e n ≤ 0 := by
  unfold upN at h
  have hp : l.takeWhile (fun t => decide (zcmp t.ep t.n e n ≤ 0)) <+: l := List.takeWhile_prefix _
  have := List.all_eq_true.1 (List.all_takeWhile (l := l) (p := fun t => decide (zcmp t.ep t.n e n ≤ 0))) _ (List.getElem_mem h)
  rw [hp.getElem h] at this
  simpa using this

theorem upN_stop (e n : Int) (l : List TxD) (h : upN e n l < l.length) : 0 < zcmp l[upN e n l].ep l[upN e n l].n e n := by
  induction l with
  | nil => simp at h
  | cons t l ih =>
    unfold upN at *
    by_cases c : zcmp t.ep t.n e n ≤ 0
    · simp only [List.takeWhile_cons, decide_eq_true c, if_true, List.length_cons, List.getElem_cons_succ] at h ⊢
      exact ih (by omega)
    · simp only [List.takeWhile_cons, decide_eq_false c]
      simp
      omega

/-- Where a list rises the place is told by the two ends. -/
theorem upN_eq {e n e0 n0 : Int} {l : List TxD} (hr : rises e0 n0 l = true) {k : Nat} (hk : k ≤ l.length) (h1 : k = 0 ∨ ∃ h : k - 1 < l.length, zcmp l[k - 1].ep l[k - 1].n e n ≤ 0) (h2 : k = l.length ∨ ∃ h : k < l.length, 0 < zcmp l[k].ep l[k].n e n) : k = upN e n l := by
  have hu := upN_le e n l
  rcases Nat.lt_trichotomy k (upN e n l) with h | h | h
  · rcases h2 with h2 | ⟨hk', h2⟩
    · omega
    · have := upN_below e n l k h hk'
      omega
  · exact h
  · rcases h1 with h1 | ⟨hk', h1⟩
    · omega
    · have a := upN_stop e n l (by omega)
      have b := rises_lt l e0 n0 (upN e n l) (k - 1) hk' (by omega) hr
      have := zcmp_trans b h1
      omega

set_option maxHeartbeats 1000000 in
theorem behind1_any (cs : List Value) (t : TxD) (e n : Int) (w : World) (hs : SeesTx w cs t) :
    Calls Tryd.prog 28 #[.agg cs.toArray, zx e n] w fun r w' => r = .returned (.int .i64 (zcmp t.ep t.n e n)) ∧ Below w.heap.size w w' := by
  obtain ⟨rc, rfl, hr⟩ := hs
  have hB := two_alloc w
  obtain ⟨q0, q1, d0, d1, d2, a0, a1, a2, q4, q5, q6, q7, q8, e0, e1, e2, o0, o1, o2, rfl⟩ := rq_forms hr
  clear hr
  simp only [txHead, List.cons_append, List.nil_append]
  go_enter Tryd.func28, Tryd.ntmps28
  go_wp2_with fail
  refine (compare_any t.ep t.n e n _).mono ?_
  rintro _ w1 ⟨rfl, b⟩
  have HB : Hid (Below w.heap.size w w1) := (hB _ _).trans (b.mono (by simp; omega))
  clear b hB
  go_wp2
  go_ret
  exact ⟨rfl, HB.out⟩

set_option maxHeartbeats 2000000 in
theorem upTo_any (v : Value) (l : List TxD) (e n e0 n0 : Int) (w : World) (h : SeesTxs w v l) (hr : rises e0 n0 l = true) (hl : l.length ≤ 1000000) :
    Calls Tryd.prog 27 #[v, zx e n, .func (.func 28) #[] #[]] w fun r w' => r = .returned (.int .i64 (upN e n l)) ∧ Below w.heap.size w w' := by
  obtain ⟨ao, cap, rfl, hlc, hcm⟩ := txs_shape h
  have H : Hid (SeesTxs w (.slice ao l.length cap) l ∧ rises e0 n0 l = true) := ⟨h, hr⟩
  unfold maxLen at hcm
  clear h hr
  go_enter Tryd.func27, Tryd.ntmps27
  go_wp2_with fail
  go_loopw [7, 8, 9] (fun lo hi _ wr => ∃ a b : Nat, a ≤ b ∧ b ≤ l.length ∧ lo = .int .i64 a ∧ hi = .int .i64 b ∧ Hid ((a = 0 ∨ ∃ h : a - 1 < l.length, zcmp l[a - 1].ep l[a - 1].n e n ≤ 0) ∧ (b = l.length ∨ ∃ h : b < l.length, 0 < zcmp l[b].ep l[b].n e n)) ∧ Hid (Below w.heap.size w wr ∧ wr.heap[w.heap.size]? = some (.cells #[.int .u32 e, .int .u32 n] 30 (0, 0)))) (fun lo hi _ _ => (intOf hi).toNat - (intOf lo).toNat)
  case atStart => exact ⟨0, l.length, Nat.zero_le _, Nat.le_refl _, rfl, rfl, ⟨.inl rfl, .inl rfl⟩, one_alloc _ _, heap_alloc_new _ _⟩
  case round =>
    obtain ⟨a, b, hab, hb, rfl, rfl, HZ, HB⟩ := hrel
    by_cases hlt : a < b
    · obtain ⟨m, hm⟩ : ∃ m, m = a + (b - a) / 2 := ⟨_, rfl⟩
      have hmb : m < b := by omega
      have hml : m < l.length := by omega
      have hma : a ≤ m := by omega
      have HM : Hid ((a : Int) + ((b : Int) - a) / 2 = (m : Int)) := by show (a : Int) + ((b : Int) - a) / 2 = (m : Int); omega
      clear hm
      obtain ⟨bb, off, cap', cs, hv, hs, hc16, l0⟩ := txs_row (H.out.1.below HB.out.1 (Nat.le_refl _)) m hml
      simp at hv
      obtain ⟨rfl, rfl⟩ := hv
      have q16 : (Tryd.prog.info? 49).map (·.size) = some cs.length := by rw [hc16]; exact tx_size
      have HX : Hid (SeesTx wr cs l[m]) := hs
      have HS : Hid (∀ W, Below wr.heap.size wr W → W.cell? ⟨w.heap.size, 0, none⟩ = some (.int .u32 e) ∧ W.cell? ⟨w.heap.size, 1, none⟩ = some (.int .u32 n) ∧ W.rangeAt bb (off + m * 16) cs) := fun W hW => by
        refine ⟨cell_later ?_ hW (Nat.le_refl _), cell_later ?_ hW (Nat.le_refl _), fun j v hj => cell_later (l0 j v hj) hW (Nat.le_refl _)⟩ <;> (rw [cell_of_row _ _ _ _ _ _ HB.out.2]; rfl)
      clear hs l0
      go_upto_region 4 with fail
      rw [HM.out]
      refine wp_region_held_drew (S := (fun w' => w'.cell? ⟨w.heap.size, 0, none⟩ = some (.int .u32 e) ∧ w'.cell? ⟨w.heap.size, 1, none⟩ = some (.int .u32 n) ∧ w'.rangeAt bb (off + m * 16) cs)) (by kernel_rfl) ?_ (fun hHeld => ?_)
      · exact HS.out _ (below_drewN (Below.refl _ _) 1)
      refine wpAnyH_take (i := 0) (oi := { dst := some 21, op := Op.move (Operand.tmp 2), type := 68, pos := "choose.go:72", after := #[], guard := none }) (v := ?_) rfl (by kernel_rfl) (by kernel_rfl) (by kernel_rfl) (fun _ _ _ h => h) (Or.inl ⟨by rfl, ?_⟩) (by assumption) ?_
      rotate_left
      · (intro w hSw; (try dsimp only at hSw); go_simp) <;> with_reducible rfl
      try simp only [Act.put, List.setIfInBounds_toArray, List.set_cons_zero, List.set_cons_succ]
      refine wpAnyH_take (i := 1) (oi := { dst := some 22, op := Op.move (Operand.tmp 0), type := 22, pos := "choose.go:72", after := #[], guard := none }) (v := ?_) rfl (by kernel_rfl) (by kernel_rfl) (by kernel_rfl) (fun _ _ _ h => h) (Or.inl ⟨by rfl, ?_⟩) (by assumption) ?_
      rotate_left
      · (intro w hSw; (try dsimp only at hSw); go_simp) <;> with_reducible rfl
      try simp only [Act.put, List.setIfInBounds_toArray, List.set_cons_zero, List.set_cons_succ]
      refine wpAnyH_take (i := 2) (oi := { dst := some 23, op := Op.move (Operand.tmp 9), type := 3, pos := "choose.go:72", after := #[], guard := none }) (v := ?_) rfl (by kernel_rfl) (by kernel_rfl) (by kernel_rfl) (fun _ _ _ h => h) (Or.inl ⟨by rfl, ?_⟩) (by assumption) ?_
      rotate_left
      · (intro w hSw; (try dsimp only at hSw); go_simp) <;> with_reducible rfl
      try simp only [Act.put, List.setIfInBounds_toArray, List.set_cons_zero, List.set_cons_succ]
      refine wpAnyH_take (i := 3) (oi := { dst := some 24, op := Op.indexAddr 22 (Operand.tmp 22) (Operand.tmp 23), type := 0, pos := "choose.go:72", after := #[{ on := 1, ground := Ground.data }, { on := 2, ground := Ground.data }], guard := none }) (v := ?_) rfl (by kernel_rfl) (by kernel_rfl) (by kernel_rfl) (fun _ _ _ h => h) (Or.inl ⟨by rfl, ?_⟩) (by assumption) ?_
      rotate_left
      · (intro w hSw; (try dsimp only at hSw); go_simp) <;> with_reducible rfl
      try simp only [Act.put, List.setIfInBounds_toArray, List.set_cons_zero, List.set_cons_succ]
      refine wpAnyH_take (i := 4) (oi := { dst := some 25, op := Op.load 49 (Operand.tmp 24), type := 49, pos := "choose.go:72", after := #[{ on := 3, ground := Ground.data }], guard := none }) (v := .agg cs.toArray) rfl (by kernel_rfl) (by kernel_rfl) (by kernel_rfl) (fun _ _ _ h => h) (yieldsIf_load_mid rfl 49 _ rfl bb (off + m * 16) rfl cs _ (fun _ h => h.2.2) Tryd.underlying49 rfl q16) (by assumption) ?_
      try simp only [Act.put, List.setIfInBounds_toArray, List.set_cons_zero, List.set_cons_succ]
      refine wpAnyH_take (i := 5) (oi := { dst := some 26, op := Op.load 30 (Operand.tmp 4), type := 30, pos := "choose.go:72", after := #[], guard := none }) (v := ?_) rfl (by kernel_rfl) (by kernel_rfl) (by kernel_rfl) (fun _ _ _ h => h) (Or.inl ⟨by rfl, ?_⟩) (by assumption) ?_
      rotate_left
      · (intro w hSw; (try dsimp only at hSw); go_simp) <;> with_reducible rfl
      try simp only [Act.put, List.setIfInBounds_toArray, List.set_cons_zero, List.set_cons_succ]
      refine wpAnyH_ready (rs := [6]) (by kernel_rfl) (by simp) ?_
      refine AllReadyH.cons (o := { dst := some 27, op := Op.call { callee := Callee.value (Operand.tmp 21), args := #[Operand.tmp 25, Operand.tmp 26], argTypes := #[49, 30] }, type := 3, pos := "choose.go:72", after := #[{ on := 0, ground := Ground.data }, { on := 4, ground := Ground.data }, { on := 5, ground := Ground.data }], guard := none }) rfl (fun K hK => ?_) AllReadyH.nil
      go_simp
      refine (behind1_any cs l[m] e n _ (HX.out.below (below_drewN (Below.refl _ _) 1) (Nat.le_refl _))).mono ?_
      rintro _ w1 ⟨rfl, b1⟩
      have HB1 : Hid (Below wr.heap.size wr w1) := (below_drewN (Below.refl wr.heap.size wr) 1).trans b1
      clear b1
      refine hK.out _ _ (HS.out _ HB1.out) (fun hHeld => ?_)
      clear hK K
      refine wpAnyH_take (i := 7) (oi := { dst := some 28, op := Op.binOp BinOp.leq 3 (Operand.tmp 27) (Operand.const (Value.int IntKind.i64 0)) 3, type := 4, pos := "choose.go:72", after := #[{ on := 6, ground := Ground.data }], guard := none }) (v := ?_) rfl (by kernel_rfl) (by kernel_rfl) (by kernel_rfl) (fun _ _ _ h => h) (Or.inl ⟨by rfl, ?_⟩) (by assumption) ?_
      rotate_left
      · (intro w hSw; (try dsimp only at hSw); go_simp) <;> with_reducible rfl
      try simp only [Act.put, List.setIfInBounds_toArray, List.set_cons_zero, List.set_cons_succ]
      refine wpAnyH_done (by kernel_rfl) ?_ _
      clear hHeld
      have HF : Hid (Below w.heap.size w w1 ∧ w1.heap[w.heap.size]? = some (.cells #[.int .u32 e, .int .u32 n] 30 (0, 0))) := ⟨HB.out.1.trans (HB1.out.mono HB.out.1.size), (Below.kept HB1.out).heap HB.out.2 (by have := lt_of_block HB.out.2; omega)⟩
      clear HB1 HB HS HX q16 hc16
      by_cases hc : zcmp l[m].ep l[m].n e n ≤ 0
      · have HC : Hid (zcmp l[m].ep l[m].n e n ≤ 0) := hc
        have hc' : decide (zcmp l[m].ep l[m].n e n ≤ 0) = true := decide_eq_true hc
        clear hc
        generalize hZ : decide (zcmp l[m].ep l[m].n e n ≤ 0) = Z at *
        clear hZ
        subst hc'
        go_wp2_with fail
        go_roundw
        case rel => exact ⟨m + 1, b, by omega, hb, by go_num, rfl, ⟨.inr ⟨by omega, HC.out⟩, HZ.out.2⟩, HF⟩
        case measure => simp [intOf]; omega
      · have HC : Hid (0 < zcmp l[m].ep l[m].n e n) := by show 0 < zcmp l[m].ep l[m].n e n; omega
        have hc' : decide (zcmp l[m].ep l[m].n e n ≤ 0) = false := decide_eq_false hc
        clear hc
        generalize hZ : decide (zcmp l[m].ep l[m].n e n ≤ 0) = Z at *
        clear hZ
        subst hc'
        go_wp2_with fail
        go_roundw
        case rel => exact ⟨a, m, by omega, by omega, rfl, by go_num, ⟨HZ.out.1, .inr ⟨hml, HC.out⟩⟩, HF⟩
        case measure => simp [intOf]; omega
    · obtain rfl : a = b := by omega
      have hR : Hid (a = upN e n l) := upN_eq H.out.2 hb HZ.out.1 HZ.out.2
      have HB' : Hid (Below w.heap.size w wr) := HB.out.1
      clear HZ HB H
      go_wp2_with fail
      go_ret
      exact ⟨by rw [hR.out]; rfl, HB'.out⟩
end Go.Proofs.YtljghfglabgckaaDoor
