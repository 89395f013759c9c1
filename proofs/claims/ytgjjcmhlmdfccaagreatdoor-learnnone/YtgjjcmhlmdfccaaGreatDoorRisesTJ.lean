/- What txn.Rises answers: do the zxids of a list rise. -/
import Derived.Test.YtgjjcmhlmdfccaaGreatDoorLargeTJ
import Derived.Test.YtgjjcmhlmdfccaaGreatDoorStorJ
namespace Go.Proofs.YtgjjcmhlmdfccaaGreatDoor
open Go.RowKit
set_option maxRecDepth 8000

/-- Do the zxids rise, from (e, n) on? -/
def rises : Int → Int → List TxD → Bool
  | _, _, [] => true
  | e, n, t :: l => decide (0 < zcmp t.ep t.n e n) && rises t.ep t.n l

/-- The cells of a list's transactions, as far as the zxids go: of what is behind them only the shape is asked. -/
structure SeesZs (w : World) (v : Value) (l : List TxD) : Prop where
  shape : ∃ a c, v = .slice a l.length c ∧ l.length ≤ c ∧ c ≤ maxLen
  at_ : ∀ k (hk : k < l.length), ∃ b off cap rc, v = .slice (some ⟨b, off, none⟩) l.length cap ∧ (∃ W r, SeesRq W rc r) ∧ ∀ j, j < 16 → w.cell? ⟨b, off + k * 16 + j, none⟩ = some ((txHead l[k] ++ rc).getD j (.bool false))

theorem SeesTxs.zs {w : World} {v : Value} {l : List TxD} (h : SeesTxs w v l) : SeesZs w v l := by
  refine ⟨txs_shape h, fun k hk => ?_⟩
  obtain ⟨b, off, cap, rc, hv, _, _, hr, hat⟩ := txs_at h k hk
  exact ⟨b, off, cap, rc, hv, ⟨w, _, hr⟩, hat⟩

theorem SeesZs.below {B : Nat} {w w' : World} {v : Value} {l : List TxD} (h : SeesZs w v l) (hb : Below B w w') (hB : w.heap.size ≤ B) : SeesZs w' v l := by
  refine ⟨h.shape, fun k hk => ?_⟩
  obtain ⟨b, off, cap, rc, hv, hr, hat⟩ := h.at_ k hk
  exact ⟨b, off, cap, rc, hv, hr, fun j hj => cell_later (hat j hj) hb hB⟩

set_option maxHeartbeats 2000000 in
theorem rises_any (e n : Int) (v : Value) (l : List TxD) (w : World) (h : SeesZs w v l) :
    Calls Tryz.prog 22 #[zx e n, v] w fun r w' => r = .returned (.bool (rises e n l)) ∧ Below w.heap.size w w' := by
  obtain ⟨ao, cap, rfl, hlc, hcm⟩ := h.shape
  have H : Hid (SeesZs w (.slice ao l.length cap) l) := h
  unfold maxLen at hcm
  clear h
  go_enter Tryz.func22, Tryz.ntmps22
  go_wp2_with fail
  go_loopw [6, 9] (fun _ i wr => ∃ (k : Nat) (ea na : Int), k ≤ l.length ∧ i = .int .i64 k ∧ rises e n l = rises ea na (l.drop k) ∧ wr.heap[w.heap.size]? = some (.cells #[.int .u32 ea, .int .u32 na] 27 (0, 0)) ∧ Below w.heap.size w wr) (fun _ i _ => l.length - (intOf i).toNat)
  case atStart => exact ⟨0, e, n, Nat.zero_le _, rfl, rfl, heap_alloc_new _ _, one_alloc _ _⟩
  case round =>
    obtain ⟨k, ea, na, hk, rfl, hris, hbox, hbel⟩ := hrel
    by_cases hlt : k < l.length
    · obtain ⟨b, off, cap', rc, hv, ⟨W0, r0, hr⟩, hat⟩ := (H.out.below hbel (Nat.le_refl _)).at_ k hlt
      simp at hv
      obtain ⟨rfl, rfl⟩ := hv
      obtain ⟨q0, q1, d0, d1, d2, a0, a1, a2, q4, q5, q6, q7, q8, e0, e1, e2, o0, o1, o2, rfl⟩ := rq_forms hr
      have hd : l.drop k = l[k] :: l.drop (k + 1) := List.drop_eq_getElem_cons hlt
      rw [hd] at hris
      have hh : txHead l[k] = [.int .u32 l[k].ep, .int .u32 l[k].n, .int .i8 l[k].srv, .int .u32 l[k].boot, .int .i64 l[k].num] := rfl
      rw [hh] at hat
      have HR : Hid (rises e n l = (decide (0 < zcmp l[k].ep l[k].n ea na) && rises l[k].ep l[k].n (l.drop (k + 1)))) := hris
      have hlt' : w.heap.size < wr.heap.size := lt_of_block hbox
      have x0 : wr.cell? ⟨w.heap.size, 0, none⟩ = some (.int .u32 ea) := by rw [cell_of_row _ _ _ _ _ _ hbox]; rfl
      have x1 : wr.cell? ⟨w.heap.size, 1, none⟩ = some (.int .u32 na) := by rw [cell_of_row _ _ _ _ _ _ hbox]; rfl
      generalize l[k] = t at *
      have g0 : wr.cell? ⟨b, off + k * 16, none⟩ = some (.int .u32 t.ep) := hat 0 (by omega)
      have g1 : wr.cell? ⟨b, off + k * 16 + 1, none⟩ = some (.int .u32 t.n) := hat 1 (by omega)
      have g2 : wr.cell? ⟨b, off + k * 16 + 2, none⟩ = some (.int .i8 t.srv) := hat 2 (by omega)
      have g3 : wr.cell? ⟨b, off + k * 16 + 3, none⟩ = some (.int .u32 t.boot) := hat 3 (by omega)
      have g4 : wr.cell? ⟨b, off + k * 16 + 4, none⟩ = some (.int .i64 t.num) := hat 4 (by omega)
      have g5 : wr.cell? ⟨b, off + k * 16 + 5, none⟩ = some (.int .i8 q0) := hat 5 (by omega)
      have g6 : wr.cell? ⟨b, off + k * 16 + 6, none⟩ = some (.string q1) := hat 6 (by omega)
      have g7 : wr.cell? ⟨b, off + k * 16 + 7, none⟩ = some (.slice d0 d1 d2) := hat 7 (by omega)
      have g8 : wr.cell? ⟨b, off + k * 16 + 8, none⟩ = some (.slice a0 a1 a2) := hat 8 (by omega)
      have g9 : wr.cell? ⟨b, off + k * 16 + 9, none⟩ = some (.int .i32 q4) := hat 9 (by omega)
      have g10 : wr.cell? ⟨b, off + k * 16 + 10, none⟩ = some (.bool q5) := hat 10 (by omega)
      have g11 : wr.cell? ⟨b, off + k * 16 + 11, none⟩ = some (.bool q6) := hat 11 (by omega)
      have g12 : wr.cell? ⟨b, off + k * 16 + 12, none⟩ = some (.int .i64 q7) := hat 12 (by omega)
      have g13 : wr.cell? ⟨b, off + k * 16 + 13, none⟩ = some (.int .i32 q8) := hat 13 (by omega)
      have g14 : wr.cell? ⟨b, off + k * 16 + 14, none⟩ = some (.slice e0 e1 e2) := hat 14 (by omega)
      have g15 : wr.cell? ⟨b, off + k * 16 + 15, none⟩ = some (.slice o0 o1 o2) := hat 15 (by omega)
      have HB : Hid (Below w.heap.size w wr ∧ wr.heap[w.heap.size]? = some (.cells #[.int .u32 ea, .int .u32 na] 27 (0, 0))) := ⟨hbel, hbox⟩
      clear hat hh hr hris hd hbel hbox
      go_wp2_with fail
      refine (compare_any t.ep t.n ea na _).mono ?_
      rintro r w5 ⟨rfl, hb5⟩
      obtain ⟨A, eA⟩ : ∃ A, A = wr.alloc (.cells #[.int .u32 t.ep, .int .u32 t.n, .int .i8 t.srv, .int .u32 t.boot, .int .i64 t.num, .int .i8 q0, .string q1, .slice d0 d1 d2, .slice a0 a1 a2, .int .i32 q4, .bool q5, .bool q6, .int .i64 q7, .int .i32 q8, .slice e0 e1 e2, .slice o0 o1 o2] 37) := ⟨_, rfl⟩
      have hb5' : Below A.heap.size A w5 := by rw [eA]; exact hb5
      have hA : A.heap[wr.heap.size]? = some (.cells #[.int .u32 t.ep, .int .u32 t.n, .int .i8 t.srv, .int .u32 t.boot, .int .i64 t.num, .int .i8 q0, .string q1, .slice d0 d1 d2, .slice a0 a1 a2, .int .i32 q4, .bool q5, .bool q6, .int .i64 q7, .int .i32 q8, .slice e0 e1 e2, .slice o0 o1 o2] 37 (0, 0)) := by rw [eA]; exact heap_alloc_new _ _
      have hA5 := (Below.kept hb5').heap hA (by have := lt_of_block hA; omega)
      have hbA : Below w.heap.size w A := by rw [eA]; exact HB.out.1.alloc HB.out.1.size _
      have hboxA : A.heap[w.heap.size]? = some (.cells #[.int .u32 ea, .int .u32 na] 27 (0, 0)) := by rw [eA, Below.heap_alloc _ _ _ hlt']; exact HB.out.2
      have hbox5 := (Below.kept hb5').heap hboxA (by have := lt_of_block hboxA; omega)
      have y0 : w5.cell? ⟨wr.heap.size, 0, none⟩ = some (.int .u32 t.ep) := by rw [cell_of_row _ _ _ _ _ _ hA5]; rfl
      have y1 : w5.cell? ⟨wr.heap.size, 1, none⟩ = some (.int .u32 t.n) := by rw [cell_of_row _ _ _ _ _ _ hA5]; rfl
      have z0 : w5.cell? ⟨w.heap.size, 0, none⟩ = some (.int .u32 ea) := by rw [cell_of_row _ _ _ _ _ _ hbox5]; rfl
      have z1 : w5.cell? ⟨w.heap.size, 1, none⟩ = some (.int .u32 na) := by rw [cell_of_row _ _ _ _ _ _ hbox5]; rfl
      have f0 : w5.frozen? ⟨w.heap.size, 0, none⟩ = false := frozen_of_row _ _ _ _ _ hbox5
      have f1 : w5.frozen? ⟨w.heap.size, 1, none⟩ = false := frozen_of_row _ _ _ _ _ hbox5
      have HB5 : Hid (Below w.heap.size w w5 ∧ w5.heap[w.heap.size]? = some (.cells #[.int .u32 ea, .int .u32 na] 27 (0, 0))) := ⟨hbA.trans (hb5'.mono hbA.size), hbox5⟩
      clear hb5 hb5' hA hA5 hbA hboxA hbox5 eA A HB x0 x1 g0 g1 g2 g3 g4 g5 g6 g7 g8 g9 g10 g11 g12 g13 g14 g15
      by_cases hc : 0 < zcmp t.ep t.n ea na
      · have hc' : decide (zcmp t.ep t.n ea na ≤ 0) = false := by simp; omega
        go_wp2_with fail
        go_roundw
        case rel =>
          refine ⟨k + 1, t.ep, t.n, by omega, by go_num, by rw [HR.out, decide_eq_true hc]; rfl, ?_, ?_⟩
          · rw [heap_setR _ (heap_setR _ HB5.out.2)]; rfl
          · refine HB5.out.1.trans (((Kept.refl w5 (fun k => k = w.heap.size)).setCell ⟨w.heap.size, 0, none⟩ _ (fun _ => rfl)).setCell ⟨w.heap.size, 1, none⟩ _ (fun _ => rfl) |>.below HB5.out.1.size (fun k e => by omega))
        case measure => simp [intOf]; omega
      · have hc' : decide (zcmp t.ep t.n ea na ≤ 0) = true := by simp; omega
        go_wp2_with fail
        go_ret
        exact ⟨by rw [HR.out, decide_eq_false (show ¬ 0 < zcmp t.ep t.n ea na by omega)]; rfl, HB5.out.1⟩
    · obtain rfl : k = l.length := by omega
      have HB : Hid (Below w.heap.size w wr) := hbel
      have HR : Hid (rises e n l = true) := by
        show rises e n l = true
        rw [hris, List.drop_length]; rfl
      clear hbel hris hbox
      go_wp2_with fail
      go_ret
      exact ⟨by rw [HR.out]; rfl, HB.out⟩
end Go.Proofs.YtgjjcmhlmdfccaaGreatDoor
