/- What has and long of the statements of layer 18, and EqWatches of two lists of the same data answer. -/
import Derived.Test.YtgdbcdddcejehaaWaLJ
import Derived.Test.YtgdbcdddcejehaaWaQJ
namespace Go.Proofs.Ytgdbcdddcejehaa
open Go.RowKit Go.Shelf
set_option maxRecDepth 8000
set_option linter.unusedSimpArgs false

theorem neqWaV (x y : WaT) (w : World) : (binOp .neq 30 (.agg (waCs x)) (.agg (waCs y))).run Try.prog w = .ok (.bool (!waEq x y)) w := by
  rw [run_neq_struct, show (10000 : Nat) = 9998 + 1 + 1 from rfl, eqWaG 9998 x y w]
  rfl

set_option maxHeartbeats 1000000 in
theorem has_any {w : World} {v : Value} {l : List WaT} (x : WaT) (hv : SW w v l) (hlen : l.length ≤ 2000000000) :
    Calls Try.prog 11 #[v, .agg (waCs x)] w fun e w' => e = .returned (.int .i64 (l.filter (fun y => waEq y x)).length) ∧ Below w.heap.size w w' := by
  obtain ⟨ao, cap, rfl, hcap, hc⟩ := hv
  have HC0 : Hid (l ≠ [] → ∃ b off, ao = some ⟨b, off, none⟩ ∧ ∀ i x, l[i]? = some x → w.cell? ⟨b, off + i * 3, none⟩ = some (.int .i64 x.1) ∧ w.cell? ⟨b, off + i * 3 + 1, none⟩ = some (.int .i8 x.2.1) ∧ w.cell? ⟨b, off + i * 3 + 2, none⟩ = some (.string x.2.2)) := hc
  have HB0 : Hid (Below w.heap.size w (w.alloc (.cells (waCs x) 30)) ∧ (w.alloc (.cells (waCs x) 30)).heap[w.heap.size]? = some (.cells (waCs x) 30 (0, 0))) := ⟨(Below.refl _ w).alloc (Nat.le_refl _) _, heap_alloc_new w _⟩
  clear hc
  go_enter Try.func11, Try.ntmps11
  go_wp2
  go_loopw [5, 6] (fun vn vi wr => ∃ i : Nat, i ≤ l.length ∧ vi = .int .i64 (i : Int) ∧ vn = .int .i64 (((l.take i).filter (fun y => waEq y x)).length : Nat) ∧ Hid (Below w.heap.size w wr ∧ wr.heap[w.heap.size]? = some (.cells (waCs x) 30 (0, 0)))) (fun _ vi _ => l.length - (intOf vi).toNat)
  case atStart => exact ⟨0, by omega, rfl, by simp, HB0⟩
  case round =>
    obtain ⟨i, hi, rfl, rfl, HW⟩ := hrel
    by_cases hlt : i < l.length
    · have hd : decide ((i : Int) < (l.length : Int)) = true := by simp; omega
      obtain ⟨b0, off, hao, hcx⟩ := HC0.out (fun e => by rw [e] at hlt; simp at hlt)
      obtain ⟨y, hy⟩ : ∃ y, l[i]? = some y := ⟨_, List.getElem?_eq_getElem hlt⟩
      obtain ⟨k0, k1, k2⟩ := hcx i y hy
      have l0 := cellB HW.out.1 k0
      have l1 := cellB HW.out.1 k1
      have l2 := cellB HW.out.1 k2
      have d0 := cell_of_row _ w.heap.size 0 _ _ _ HW.out.2
      have d1 := cell_of_row _ w.heap.size 1 _ _ _ HW.out.2
      have d2 := cell_of_row _ w.heap.size 2 _ _ _ HW.out.2
      have hz := lt_of_block HW.out.2
      have hz0 : b0 < wr.heap.size := World.block_lt_of_cell? wr _ l0
      obtain ⟨bb, hbb⟩ : ∃ bb, bb = waEq y x := ⟨_, rfl⟩
      have heq : ∀ W, (binOp .eql 30 (.agg #[.int .i64 y.1, .int .i8 y.2.1, .string y.2.2]) (.agg #[.int .i64 x.1, .int .i8 x.2.1, .string x.2.2])).run Try.prog W = .ok (.bool bb) W := fun W => by rw [hbb]; exact eqWaV y x W
      obtain ⟨nn, hnn, hnl⟩ : ∃ nn, nn = ((l.take i).filter (fun y => waEq y x)).length ∧ nn ≤ 2000000000 := ⟨_, rfl, Nat.le_trans (List.length_filter_le _ _) (by rw [List.length_take]; omega)⟩
      have HN : Hid (((l.take (i + 1)).filter (fun y => waEq y x)).length = nn + (if bb then 1 else 0)) := by
        show _ = _
        rw [take_at hy, List.filter_append, List.length_append, ← hnn, hbb]
        cases hk : waEq y x <;> simp [hk]
      rw [← hnn]
      subst hao
      clear hcx hy hbb k0 k1 k2 hnn
      go_upto_region 5 with fail
      go_quiet (fail)
      cases bb
      · go_wp2
        go_roundw
        case rel => exact ⟨i + 1, by omega, by simp, by rw [HN.out]; simp, below_drewN HW.out.1 _, HW.out.2⟩
        case measure => simp [intOf]; omega
      · go_wp2
        go_roundw
        case rel => exact ⟨i + 1, by omega, by simp, by rw [HN.out]; simp, below_drewN HW.out.1 _, HW.out.2⟩
        case measure => simp [intOf]; omega
    · have hd : decide ((i : Int) < (l.length : Int)) = false := by simp; omega
      have HE : Hid (((l.take i).filter (fun y => waEq y x)) = l.filter (fun y => waEq y x)) := by show _ = _; rw [List.take_of_length_le (by omega)]
      go_wp2
      all_goals (go_ret; exact ⟨by rw [HE.out]; rfl, HW.out.1⟩)

set_option maxHeartbeats 1000000 in
theorem eqWatches_same {w : World} {v u : Value} {l : List WaT} (hv : SW w v l) (hu : SW w u l) (hlen : l.length ≤ 2000000000) :
    Calls Try.prog 17 #[v, u] w fun e w' => e = .returned (.bool true) ∧ Below w.heap.size w w' := by
  obtain ⟨ao, cap, rfl, hcap, hc⟩ := hv
  obtain ⟨bo, cap2, rfl, hcap2, hc2⟩ := hu
  have HC0 : Hid (l ≠ [] → ∃ b off, ao = some ⟨b, off, none⟩ ∧ ∀ i x, l[i]? = some x → w.cell? ⟨b, off + i * 3, none⟩ = some (.int .i64 x.1) ∧ w.cell? ⟨b, off + i * 3 + 1, none⟩ = some (.int .i8 x.2.1) ∧ w.cell? ⟨b, off + i * 3 + 2, none⟩ = some (.string x.2.2)) := hc
  have HC2 : Hid (l ≠ [] → ∃ b off, bo = some ⟨b, off, none⟩ ∧ ∀ i x, l[i]? = some x → w.cell? ⟨b, off + i * 3, none⟩ = some (.int .i64 x.1) ∧ w.cell? ⟨b, off + i * 3 + 1, none⟩ = some (.int .i8 x.2.1) ∧ w.cell? ⟨b, off + i * 3 + 2, none⟩ = some (.string x.2.2)) := hc2
  clear hc hc2
  go_enter Try.func17, Try.ntmps17
  go_wp2
  go_loopw [5] (fun vi wr => ∃ i : Nat, i ≤ l.length ∧ vi = .int .i64 (i : Int) ∧ Hid (Below w.heap.size w wr)) (fun vi _ => l.length - (intOf vi).toNat)
  case atStart => exact ⟨0, by omega, rfl, Below.refl _ _⟩
  case round =>
    obtain ⟨i, hi, rfl, HW⟩ := hrel
    by_cases hlt : i < l.length
    · have hd : decide ((i : Int) < (l.length : Int)) = true := by simp; omega
      obtain ⟨b0, off, hao, hcx⟩ := HC0.out (fun e => by rw [e] at hlt; simp at hlt)
      obtain ⟨b1, off1, hbo, hcy⟩ := HC2.out (fun e => by rw [e] at hlt; simp at hlt)
      obtain ⟨y, hy⟩ : ∃ y, l[i]? = some y := ⟨_, List.getElem?_eq_getElem hlt⟩
      obtain ⟨k0, k1, k2⟩ := hcx i y hy
      obtain ⟨j0, j1, j2⟩ := hcy i y hy
      have l0 := cellB HW.out k0
      have l1 := cellB HW.out k1
      have l2 := cellB HW.out k2
      have d0 := cellB HW.out j0
      have d1 := cellB HW.out j1
      have d2 := cellB HW.out j2
      have hz0 : b0 < wr.heap.size := World.block_lt_of_cell? wr _ l0
      have hz1 : b1 < wr.heap.size := World.block_lt_of_cell? wr _ d0
      have heq : ∀ W, (binOp .neq 30 (.agg #[.int .i64 y.1, .int .i8 y.2.1, .string y.2.2]) (.agg #[.int .i64 y.1, .int .i8 y.2.1, .string y.2.2])).run Try.prog W = .ok (.bool false) W := fun W => by
        have := neqWaV y y W
        rw [waEq_self] at this
        exact this
      subst hao hbo
      clear hcx hcy hy k0 k1 k2 j0 j1 j2
      go_upto_region 6 with fail
      go_quiet (fail)
      go_wp2
      go_roundw
      case rel => exact ⟨i + 1, by omega, by simp, below_drewN HW.out _⟩
      case measure => simp [intOf]; omega
    · have hd : decide ((i : Int) < (l.length : Int)) = false := by simp; omega
      go_wp2
      all_goals (go_ret; exact ⟨rfl, HW.out⟩)

/-- A step whose texts are not long. -/
def StT.few (s : StT) : Prop := s.wa.2.2.size ≤ 536870911 ∧ s.ch.2.size ≤ 536870911

set_option maxHeartbeats 2000000 in
theorem long18 {w : World} {v : Value} {l : List StT} (hv : SeesSt w v l) (hlen : l.length ≤ 140737488355328) :
    Calls Try.prog 6 #[v] w fun e w' => ∃ bl, e = .returned (.bool bl) ∧ (bl = false → l.length ≤ 1073741823 ∧ ∀ s ∈ l, s.few) ∧ Below w.heap.size w w' := by
  obtain ⟨ao, cap, rfl, hcap, hc⟩ := hv
  have HC0 : Hid (l ≠ [] → ∃ b off, ao = some ⟨b, off, none⟩ ∧ ∀ i s, l[i]? = some s → ∀ j u, s.cells[j]? = some u → w.cell? ⟨b, off + i * 7 + j, none⟩ = some u) := hc
  clear hc
  go_enter Try.func6, Try.ntmps6
  go_wp2
  go_loopw [3, 4] (fun vn vi wr => ∃ i n : Nat, i ≤ l.length ∧ vi = .int .i64 (i : Int) ∧ vn = .int .i64 (n : Int) ∧ i ≤ n ∧ n ≤ 2147483646 ∧ Hid ((∀ s ∈ l.take i, s.few) ∧ Below w.heap.size w wr)) (fun _ vi _ => l.length - (intOf vi).toNat)
  case atStart => exact ⟨0, 0, by omega, rfl, rfl, by omega, by omega, fun s hs => by simp at hs, Below.refl _ _⟩
  case round =>
    obtain ⟨i, n, hi, rfl, rfl, hin, hn, HW⟩ := hrel
    by_cases hlt : i < l.length
    · have hd : decide ((i : Int) < (l.length : Int)) = true := by simp; omega
      by_cases hn2 : n ≤ 1073741823
      · have hd2 : decide ((n : Int) ≤ 1073741823) = true := by simp; omega
        obtain ⟨b0, off, hao, hcx⟩ := HC0.out (fun e => by rw [e] at hlt; simp at hlt)
        obtain ⟨s, hs⟩ : ∃ s, l[i]? = some s := ⟨_, List.getElem?_eq_getElem hlt⟩
        have k4 := cellB HW.out.2 (hcx i s hs 4 _ rfl)
        have k6 := cellB HW.out.2 (hcx i s hs 6 _ rfl)
        have hz0 : b0 < wr.heap.size := World.block_lt_of_cell? wr _ k4
        by_cases h1 : s.wa.2.2.size ≤ 536870911
        · have e1 : decide ((536870911 : Int) < (s.wa.2.2.size : Int)) = false := by simp; omega
          by_cases h2 : s.ch.2.size ≤ 536870911
          · have e2 : decide ((536870911 : Int) < (s.ch.2.size : Int)) = false := by simp; omega
            have HN : Hid (∀ s ∈ l.take (i + 1), s.few) := fun t ht => by
              rw [List.take_add_one, hs] at ht
              rcases List.mem_append.1 ht with ht | ht
              · exact HW.out.1 t ht
              · simp at ht; subst ht; exact ⟨h1, h2⟩
            subst hao
            clear hcx hs
            go_upto_region 8 with fail
            go_quiet (fail)
            go_wp2
            go_roundw
            case rel => exact ⟨i + 1, n + 1 + s.wa.2.2.size + s.ch.2.size, by omega, by simp, by simp, by omega, by omega, HN.out, below_drewN HW.out.2 _⟩
            case measure => simp [intOf]; omega
          · have e2 : decide ((536870911 : Int) < (s.ch.2.size : Int)) = true := by simp; omega
            subst hao
            clear hcx hs
            go_wp2
            all_goals (go_ret; exact ⟨true, rfl, (fun e => by cases e), HW.out.2⟩)
        · have e1 : decide ((536870911 : Int) < (s.wa.2.2.size : Int)) = true := by simp; omega
          subst hao
          clear hcx hs
          go_wp2
          all_goals (go_ret; exact ⟨true, rfl, (fun e => by cases e), HW.out.2⟩)
      · have hd2 : decide ((n : Int) ≤ 1073741823) = false := by simp; omega
        have hd3 : decide ((1073741823 : Int) < (n : Int)) = true := by simp; omega
        go_wp2
        all_goals (go_ret; exact ⟨true, rfl, (fun e => by cases e), HW.out.2⟩)
    · have hd : decide ((i : Int) < (l.length : Int)) = false := by simp; omega
      have HE : Hid (n ≤ 1073741823 → l.length ≤ 1073741823 ∧ ∀ s ∈ l, s.few) := fun hn => by
        have := HW.out.1
        rw [List.take_of_length_le (by omega)] at this
        exact ⟨by omega, this⟩
      by_cases hn2 : n ≤ 1073741823
      · have hd3 : decide ((1073741823 : Int) < (n : Int)) = false := by simp; omega
        go_wp2
        all_goals (go_ret; exact ⟨false, rfl, fun _ => HE.out hn2, HW.out.2⟩)
      · have hd3 : decide ((1073741823 : Int) < (n : Int)) = true := by simp; omega
        go_wp2
        all_goals (go_ret; exact ⟨true, rfl, (fun e => by cases e), HW.out.2⟩)

end Go.Proofs.Ytgdbcdddcejehaa
