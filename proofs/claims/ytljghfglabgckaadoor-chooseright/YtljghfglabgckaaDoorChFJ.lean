/- The statements' own small calls of layer 14: least, lives, ask, last. -/
import Derived.Test.YtljghfglabgckaaDoorChDJ
namespace Go.Proofs.YtljghfglabgckaaDoor
open Go.RowKit
set_option maxRecDepth 8000

/-- The transaction of the least log. -/
def leT : TxD := ⟨1, 1, 0, 0, 0, .mk ⟨7, ⟨#[]⟩, [], [], 0, false, false, 0, 1, []⟩ 0 (fun i => i.elim0)⟩

theorem leT_good : leT.good := by
  refine ⟨by decide, by decide, by decide, by decide, by decide, by decide, by decide, by decide, by decide, by decide, ?_⟩
  refine ⟨⟨by decide, by decide, by decide, by decide, by decide, by decide, by decide, by decide, ?_, by decide, by decide, by decide, by decide, ?_, ?_⟩, by decide, fun i => i.elim0⟩
  · intro x hx; cases hx
  · intro x hx; cases hx
  · intro x hx; cases hx

theorem leT_size : szL [leT] = 26 := by decide +kernel

theorem leT_way : chW 0 0 0 0 [leT] 1 0 0 = ⟨1, 0, 0, true, 0⟩ := by rfl

set_option maxHeartbeats 400000 in
theorem least_any (w : World) :
    Calls Tryd.prog 15 #[] w fun r w' => ∃ a c, r = .returned (.slice a 1 c) ∧ SeesTxs w' (.slice a 1 c) [leT] ∧ Below w.heap.size w w' := by
  go_enter Tryd.func15, Tryd.ntmps15
  go_wp2
  go_ret
  refine ⟨some ⟨w.heap.size, 0, none⟩, 1, rfl, ?_, one_alloc _ _⟩
  have hn : SeesRq (w.alloc (.cells #[.int .u32 1, .int .u32 1, .int .i8 0, .int .u32 0, .int .i64 0, .int .i8 7, .string ⟨#[]⟩, .slice none 0 0, .slice none 0 0, .int .i32 0, .bool false, .bool false, .int .i64 0, .int .i32 1, .slice none 0 0, .slice none 0 0] 49)) (rqCells ⟨7, ⟨#[]⟩, [], [], 0, false, false, 0, 1, []⟩ (.slice none 0 0) (.slice none 0 0) (.slice none 0 0) (.slice none 0 0)) leT.rq :=
    .mk _ 0 _ _ _ _ _ (fun i => i.elim0) ⟨none, 0, rfl, Nat.le_refl _, by unfold maxLen; omega, fun _ => rfl, .inl rfl⟩ (SeesR.nil _ _) (SeesR.nil _ _) (SeesR.nil _ _) (fun i => i.elim0)
  refine ⟨[txHead leT ++ rqCells ⟨7, ⟨#[]⟩, [], [], 0, false, false, 0, 1, []⟩ (.slice none 0 0) (.slice none 0 0) (.slice none 0 0) (.slice none 0 0)], ⟨some ⟨w.heap.size, 0, none⟩, 1, rfl, Nat.le_refl _, by unfold maxLen; omega, (fun e => by cases e), .inr ⟨w.heap.size, 0, rfl, fun i hi j hj => ?_⟩⟩, rfl, fun i h k => ?_⟩
  · obtain rfl : i = 0 := by simp at hi; omega
    rw [cell_of_row _ _ _ _ _ _ (heap_alloc_new _ _)]
    match j, hj with
    | 0, _ => rfl
    | 1, _ => rfl
    | 2, _ => rfl
    | 3, _ => rfl
    | 4, _ => rfl
    | 5, _ => rfl
    | 6, _ => rfl
    | 7, _ => rfl
    | 8, _ => rfl
    | 9, _ => rfl
    | 10, _ => rfl
    | 11, _ => rfl
    | 12, _ => rfl
    | 13, _ => rfl
    | 14, _ => rfl
    | 15, _ => rfl
    | n + 16, h => exact absurd h (by omega)
  · obtain rfl : i = 0 := by simp at h; omega
    exact ⟨_, rfl, hn⟩

set_option maxHeartbeats 1000000 in
theorem lives14_any (w : World) (hn : Nam w) :
    Calls Tryd.prog 5 #[] w fun r w' => r = .returned (.bool true) ∧ Below w.heap.size w w' := by
  have HN : Hid (∀ W, Below w.heap.size w W → Nam W) := fun W hW => hn.below hW hn.lt
  clear hn
  go_enter Tryd.func5, Tryd.ntmps5
  go_wp2_with fail
  refine (least_any _).mono ?_
  rintro _ w1 ⟨a, c, rfl, hs, b1⟩
  have H1 : Hid (SeesTxs w1 (.slice a 1 c) [leT] ∧ Below w.heap.size w w1) := ⟨hs, b1⟩
  clear hs b1
  go_wp2_with fail
  refine (way_any 0 0 0 0 _ [leT] 1 0 0 _ H1.out.1 (fun t ht => by simp at ht; subst ht; exact leT_good) (HN.out _ H1.out.2) (by decide)).mono ?_
  rintro _ w2 ⟨rfl, b2⟩
  rw [leT_way]
  have H2 : Hid (Below w.heap.size w (w2.alloc (.cells #[.int .i8 1, .int .u32 0, .int .u32 0, .bool true] 33))) := (H1.out.2.trans (b2.mono H1.out.2.size)).alloc (H1.out.2.trans (b2.mono H1.out.2.size)).size _
  clear b2 H1
  dsimp only [ChD.val]
  go_wp2_with fail
  refine (least_any _).mono ?_
  rintro _ w3 ⟨a', c', rfl, hs, b3⟩
  have H3 : Hid (SeesTxs w3 (.slice a' 1 c') [leT] ∧ Below w.heap.size w w3) := ⟨hs, H2.out.trans (b3.mono H2.out.size)⟩
  clear hs b3 H2
  go_wp2_with fail
  refine (size_any _ [leT] _ H3.out.1 (fun t ht => by simp at ht; subst ht; exact leT_good) (HN.out _ H3.out.2) (by decide)).mono ?_
  rintro _ w4 ⟨rfl, b4⟩
  rw [leT_size]
  have H4 : Hid (Below w.heap.size w w4) := H3.out.2.trans (b4.mono H3.out.2.size)
  clear b4 H3
  go_wp2_with fail
  go_ret
  exact ⟨rfl, H4.out⟩

/-- A case's cells. -/
abbrev caseA (pe pn se sn : Int) (v : Value) (ca im : Int) (x : Nat) : Array Value := #[.int .u32 pe, .int .u32 pn, .int .u32 se, .int .u32 sn, v, .int .i64 ca, .int .i64 im, .float .f64 x]

set_option maxHeartbeats 1000000 in
theorem last_any (se sn : Int) (v : Value) (l : List TxD) (w : World) (h : SeesTxs w v l) :
    Calls Tryd.prog 7 #[zx se sn, v] w fun r w' => r = .returned (zx (lstE se l l.length) (lstN sn l l.length)) ∧ Below w.heap.size w w' := by
  obtain ⟨ao, cap, rfl, hlc, hcm⟩ := txs_shape h
  unfold maxLen at hcm
  have HB := two_alloc w
  by_cases hz : l.length = 0
  · have HL : Hid (lstE se l l.length = se ∧ lstN sn l l.length = sn) := by rw [hz]; exact ⟨lstE_zero _ _, lstN_zero _ _⟩
    obtain ⟨e1, hE⟩ : ∃ e1, e1 = lstE se l l.length := ⟨_, rfl⟩
    obtain ⟨n1, hN⟩ : ∃ n1, n1 = lstN sn l l.length := ⟨_, rfl⟩
    rw [← hE, ← hN] at HL
    rw [← hE, ← hN]
    rw [hz] at hlc ⊢
    clear hE hN h hz
    go_enter Tryd.func7, Tryd.ntmps7
    go_wp2_with fail
    refine bodyPost_ret (v := zx se sn) (by simp [results, Tryd.results7, go_sem]) rfl ⟨by rw [HL.out.1, HL.out.2], HB _ _⟩
  · obtain ⟨j, hj⟩ : ∃ j, l.length = j + 1 := ⟨l.length - 1, by omega⟩
    have hjl : j < l.length := by omega
    have HL : Hid (lstE se l l.length = l[j].ep ∧ lstN sn l l.length = l[j].n) := by
      have a := lstE_next se l j hjl
      have b := lstN_next sn l j hjl
      rw [← hj] at a b
      exact ⟨a, b⟩
    obtain ⟨b, off, cap', rc, hv, _, _, _, hat⟩ := txs_at h j hjl
    simp at hv
    obtain ⟨rfl, rfl⟩ := hv
    have e0 : w.cell? ⟨b, off + j * 16, none⟩ = some (.int .u32 l[j].ep) := hat 0 (by omega)
    have e1 : w.cell? ⟨b, off + j * 16 + 1, none⟩ = some (.int .u32 l[j].n) := hat 1 (by omega)
    clear hat
    generalize l[j] = t at *
    obtain ⟨e2, hE⟩ : ∃ e1, e1 = lstE se l l.length := ⟨_, rfl⟩
    obtain ⟨n2, hN⟩ : ∃ n1, n1 = lstN sn l l.length := ⟨_, rfl⟩
    rw [← hE, ← hN] at HL
    rw [← hE, ← hN]
    rw [hj] at hlc ⊢
    clear hE hN h hz hj hjl
    have g0 : ((w.alloc (.cells #[.int .u32 se, .int .u32 sn] 30)).alloc (.cells #[.int .u32 0, .int .u32 0] 30)).cell? ⟨b, off + j * 16, none⟩ = some (.int .u32 t.ep) := cell_later e0 (HB _ _) (Nat.le_refl _)
    have g1 : ((w.alloc (.cells #[.int .u32 se, .int .u32 sn] 30)).alloc (.cells #[.int .u32 0, .int .u32 0] 30)).cell? ⟨b, off + j * 16 + 1, none⟩ = some (.int .u32 t.n) := cell_later e1 (HB _ _) (Nat.le_refl _)
    go_enter Tryd.func7, Tryd.ntmps7
    go_wp2_with fail
    refine bodyPost_ret (v := zx t.ep t.n) (by simp [results, Tryd.results7, go_sem]) rfl ⟨by rw [HL.out.1, HL.out.2], HB _ _⟩
end Go.Proofs.YtljghfglabgckaaDoor
