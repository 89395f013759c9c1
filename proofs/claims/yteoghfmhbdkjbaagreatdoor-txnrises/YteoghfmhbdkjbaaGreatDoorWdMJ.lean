/- What Rises of the document's layer 4 answers: do the zxids of a list rise. -/
import Derived.Test.YteoghfmhbdkjbaaGreatDoorCopyZJ
import Derived.Deep.RegionHeld
namespace Go.Proofs.YteoghfmhbdkjbaaGreatDoor
open Go.RowKit
set_option maxRecDepth 8000

theorem zcmp_flip (e n f m : Int) : decide (0 < zcmp f m e n) = decide (zcmp e n f m = -1) := by
  unfold zcmp
  by_cases h1 : e < f ∨ (e = f ∧ n < m)
  · rw [if_pos h1, if_neg (by omega), if_neg (by omega)]; rfl
  · rw [if_neg h1]
    by_cases h2 : e = f ∧ n = m
    · rw [if_pos h2, if_neg (by omega), if_pos (by omega)]; rfl
    · rw [if_neg h2, if_pos (by omega)]; rfl

theorem neqInt (a b : Int) (w : World) : (binOp .neq 3 (.int .i64 a) (.int .i64 b)).run Tryz.prog w = .ok (.bool (a != b)) w := by
  simp [go_sem]

/-- The zxid that the k-th one must be above. -/
def prvE (e : Int) (l : List TxD) (k : Nat) : Int := if h : 0 < k ∧ k ≤ l.length then (l[k - 1]'(by omega)).ep else e
def prvN (n : Int) (l : List TxD) (k : Nat) : Int := if h : 0 < k ∧ k ≤ l.length then (l[k - 1]'(by omega)).n else n
theorem prvE_next (e : Int) (l : List TxD) (k : Nat) (h : k < l.length) : prvE e l (k + 1) = l[k].ep := by unfold prvE; rw [dif_pos (by omega)]; rfl
theorem prvN_next (n : Int) (l : List TxD) (k : Nat) (h : k < l.length) : prvN n l (k + 1) = l[k].n := by unfold prvN; rw [dif_pos (by omega)]; rfl

set_option maxHeartbeats 2000000 in
theorem refRises_any (e n : Int) (v : Value) (l : List TxD) (w : World) (h : SeesTxs w v l) :
    Calls Tryz.prog 19 #[zx e n, v] w fun r w' => r = .returned (.bool (rises e n l)) ∧ Below w.heap.size w w' := by
  obtain ⟨ao, cap, rfl, hlc, hcm⟩ := txs_shape h
  have H : Hid (SeesTxs w (.slice ao l.length cap) l) := h
  unfold maxLen at hcm
  obtain ⟨V, eV⟩ : ∃ V, V = w.alloc (.cells #[.int .u32 e, .int .u32 n] 24) := ⟨_, rfl⟩
  have HC : Hid (∀ W, Below V.heap.size V W → W.cell? ⟨w.heap.size, 0, none⟩ = some (.int .u32 e) ∧ W.cell? ⟨w.heap.size, 1, none⟩ = some (.int .u32 n) ∧ Below w.heap.size w W) := by
    intro W hW
    subst eV
    have hb := one_alloc w (.cells #[.int .u32 e, .int .u32 n] 24 (0, 0))
    refine ⟨cell_later ?_ hW (Nat.le_refl _), cell_later ?_ hW (Nat.le_refl _), hb.trans (hW.mono hb.size)⟩ <;> (rw [cell_of_row _ _ _ _ _ _ (heap_alloc_new _ _)]; rfl)
  have HE : Hid _ := eV
  clear h eV
  go_enter Tryz.func19, Tryz.ntmps19
  go_wp2_with fail
  rw [← HE.out]
  go_loopw [5] (fun i wr => ∃ k : Nat, k ≤ l.length ∧ i = .int .i64 k ∧ Hid (Below V.heap.size V wr) ∧ rises e n l = rises (prvE e l k) (prvN n l k) (l.drop k)) (fun i _ => l.length - (intOf i).toNat)
  case atStart => exact ⟨0, Nat.zero_le _, rfl, Below.refl _ _, rfl⟩
  case round =>
    clear HE
    obtain ⟨k, hk, rfl, HB, hris⟩ := hrel
    by_cases hlt : k < l.length
    · obtain ⟨b, off, cap', rc, hv, _, _, hr, hat⟩ := txs_at (H.out.below (HC.out _ HB.out).2.2 (Nat.le_refl _)) k hlt
      simp at hv
      obtain ⟨rfl, rfl⟩ := hv
      have g0 : wr.cell? ⟨b, off + k * 16, none⟩ = some (.int .u32 l[k].ep) := hat 0 (by omega)
      have g1 : wr.cell? ⟨b, off + k * 16 + 1, none⟩ = some (.int .u32 l[k].n) := hat 1 (by omega)
      have hd : l.drop k = l[k] :: l.drop (k + 1) := List.drop_eq_getElem_cons hlt
      rw [hd] at hris
      have HR : Hid (rises e n l = (decide (0 < zcmp l[k].ep l[k].n (prvE e l k) (prvN n l k)) && rises (prvE e l (k + 1)) (prvN n l (k + 1)) (l.drop (k + 1)))) := by
        show _ = _
        rw [hris, prvE_next e l k hlt, prvN_next n l k hlt]; rfl
      obtain ⟨x0, x1, hbw⟩ := HC.out _ HB.out
      have HP : Hid (∀ j (hj : j < l.length), wr.cell? ⟨b, off + j * 16, none⟩ = some (.int .u32 l[j].ep) ∧ wr.cell? ⟨b, off + j * 16 + 1, none⟩ = some (.int .u32 l[j].n)) := fun j hj => by
        obtain ⟨b', off', cap', rc, hv, _, _, _, hat'⟩ := txs_at (H.out.below hbw (Nat.le_refl _)) j hj
        simp at hv
        obtain ⟨⟨rfl, rfl⟩, _⟩ := hv
        exact ⟨hat' 0 (by omega), hat' 1 (by omega)⟩
      have HBW : Hid (Below w.heap.size w wr ∧ Below V.heap.size V wr) := ⟨hbw, HB.out⟩
      clear hat hr hris hd hbw HB
      generalize ee : l[k].ep = te at *
      generalize en : l[k].n = tn at *
      have hbl : b < wr.heap.size := by have := World.block_lt_of_cell? wr _ g0; simpa using this
      have hne : ¬ wr.heap.size = b := by omega
      have hne' : ¬ b = wr.heap.size := by omega
      by_cases hk0 : k = 0
      · have e1 : prvE e l k = e := by unfold prvE; rw [dif_neg (by omega)]
        have e2 : prvN n l k = n := by unfold prvN; rw [dif_neg (by omega)]
        rw [e1, e2] at HR
        have hk1 : decide (0 < k) = false := by simp; omega
        clear e1 e2 ee en hk0
        go_wp2
        obtain ⟨Z, eZ⟩ : ∃ Z, Z = wr.alloc (.cells #[.int .u32 e, .int .u32 n] 24) := ⟨_, rfl⟩
        rw [← eZ]
        have HZ : Hid (Below w.heap.size w Z ∧ Below V.heap.size V Z) := by subst eZ; exact ⟨HBW.out.1.trans ((one_alloc wr _).mono HBW.out.1.size), HBW.out.2.trans ((one_alloc wr _).mono HBW.out.2.size)⟩
        have HZD : Hid (Below Z.heap.size Z Z.drew) := below_drewN (Below.refl _ _) 1
        have HK : Hid (∀ W' : World, Below Z.heap.size Z W' → W'.cell? ⟨wr.heap.size, 0, none⟩ = some (.int .u32 e) ∧ W'.cell? ⟨wr.heap.size, 1, none⟩ = some (.int .u32 n) ∧ W'.cell? ⟨b, off + k * 16, none⟩ = some (.int .u32 te) ∧ W'.cell? ⟨b, off + k * 16 + 1, none⟩ = some (.int .u32 tn)) := by
          intro W' hW
          refine ⟨cell_later ?_ hW (Nat.le_refl _), cell_later ?_ hW (Nat.le_refl _), cell_later ?_ hW (Nat.le_refl _), cell_later ?_ hW (Nat.le_refl _)⟩
          · subst eZ; rw [cell_of_row _ _ _ _ _ _ (heap_alloc_new _ _)]; rfl
          · subst eZ; rw [cell_of_row _ _ _ _ _ _ (heap_alloc_new _ _)]; rfl
          · subst eZ; exact cell_later g0 (one_alloc wr _) (Nat.le_refl _)
          · subst eZ; exact cell_later g1 (one_alloc wr _) (Nat.le_refl _)
        clear eZ HBW g0 g1 x0 x1 HP
        have i0 : (0 : Int) ≤ (k : Int) := by omega
        have i1 : (k : Int) < (l.length : Int) := by omega
        refine wp_region_held_drew (S := fun W' => W'.cell? ⟨wr.heap.size, 0, none⟩ = some (.int .u32 e) ∧ W'.cell? ⟨wr.heap.size, 1, none⟩ = some (.int .u32 n) ∧ W'.cell? ⟨b, off + k * 16, none⟩ = some (.int .u32 te) ∧ W'.cell? ⟨b, off + k * 16 + 1, none⟩ = some (.int .u32 tn)) (by kernel_rfl) ?_ (fun hHeld => ?_)
        · exact HK.out _ HZD.out
        refine wpAnyH_take (i := 0) (oi := { dst := some 22, op := Op.load 24 (Operand.tmp 6), type := 24, pos := "ref.go:303", after := #[], guard := none }) (v := ?_) rfl (by kernel_rfl) (by kernel_rfl) (by kernel_rfl) (fun _ _ _ h => h) (Or.inl ⟨by rfl, ?_⟩) (by assumption) ?_
        rotate_left
        · (intro w hSw; (try dsimp only at hSw); go_simp) <;> with_reducible rfl
        try simp only [Act.put, List.setIfInBounds_toArray, List.set_cons_zero, List.set_cons_succ]
        refine wpAnyH_take (i := 1) (oi := { dst := some 23, op := Op.move (Operand.tmp 1), type := 44, pos := "ref.go:303", after := #[], guard := none }) (v := ?_) rfl (by kernel_rfl) (by kernel_rfl) (by kernel_rfl) (fun _ _ _ h => h) (Or.inl ⟨by rfl, ?_⟩) (by assumption) ?_
        rotate_left
        · (intro w hSw; (try dsimp only at hSw); go_simp) <;> with_reducible rfl
        try simp only [Act.put, List.setIfInBounds_toArray, List.set_cons_zero, List.set_cons_succ]
        refine wpAnyH_take (i := 2) (oi := { dst := some 24, op := Op.move (Operand.tmp 5), type := 3, pos := "ref.go:303", after := #[], guard := none }) (v := ?_) rfl (by kernel_rfl) (by kernel_rfl) (by kernel_rfl) (fun _ _ _ h => h) (Or.inl ⟨by rfl, ?_⟩) (by assumption) ?_
        rotate_left
        · (intro w hSw; (try dsimp only at hSw); go_simp) <;> with_reducible rfl
        try simp only [Act.put, List.setIfInBounds_toArray, List.set_cons_zero, List.set_cons_succ]
        refine wpAnyH_take (i := 3) (oi := { dst := some 25, op := Op.indexAddr 44 (Operand.tmp 23) (Operand.tmp 24), type := 0, pos := "ref.go:303", after := #[{ on := 1, ground := Ground.data }, { on := 2, ground := Ground.data }], guard := none }) (v := ?_) rfl (by kernel_rfl) (by kernel_rfl) (by kernel_rfl) (fun _ _ _ h => h) (Or.inl ⟨by rfl, ?_⟩) (by assumption) ?_
        rotate_left
        · (intro w hSw; (try dsimp only at hSw); go_simp) <;> with_reducible rfl
        try simp only [Act.put, List.setIfInBounds_toArray, List.set_cons_zero, List.set_cons_succ]
        refine wpAnyH_take (i := 4) (oi := { dst := some 26, op := Op.fieldAddr 35 (Operand.tmp 25) 0, type := 0, pos := "ref.go:303", after := #[{ on := 3, ground := Ground.data }], guard := none }) (v := ?_) rfl (by kernel_rfl) (by kernel_rfl) (by kernel_rfl) (fun _ _ _ h => h) (Or.inl ⟨by rfl, ?_⟩) (by assumption) ?_
        rotate_left
        · (intro w hSw; (try dsimp only at hSw); go_simp) <;> with_reducible rfl
        try simp only [Act.put, List.setIfInBounds_toArray, List.set_cons_zero, List.set_cons_succ]
        refine wpAnyH_take (i := 5) (oi := { dst := some 27, op := Op.load 24 (Operand.tmp 26), type := 24, pos := "ref.go:303", after := #[{ on := 4, ground := Ground.data }], guard := none }) (v := ?_) rfl (by kernel_rfl) (by kernel_rfl) (by kernel_rfl) (fun _ _ _ h => h) (Or.inl ⟨by rfl, ?_⟩) (by assumption) ?_
        rotate_left
        · (intro w hSw; (try dsimp only at hSw); go_simp) <;> with_reducible rfl
        try simp only [Act.put, List.setIfInBounds_toArray, List.set_cons_zero, List.set_cons_succ]
        refine wpAnyH_ready (rs := [6]) (by kernel_rfl) (by simp) ?_
        refine AllReadyH.cons (o := { dst := some 28, op := Op.call { callee := Callee.value (Operand.func 36), args := #[Operand.tmp 22, Operand.tmp 27], argTypes := #[24, 24] }, type := 3, pos := "ref.go:303", after := #[{ on := 0, ground := Ground.data }, { on := 5, ground := Ground.data }], guard := none }) rfl (fun K hK => ?_) AllReadyH.nil
        go_simp
        refine (refCompare_any e n te tn _).mono ?_
        rintro r wc ⟨rfl, hb⟩
        have HB2 : Hid (Below Z.heap.size Z wc) := HZD.out.trans (hb.mono HZD.out.size)
        clear hHeld hb
        refine hK.out _ _ (HK.out _ HB2.out) (fun hHeld => ?_)
        clear hK K
        refine wpAnyH_take (i := 7) (oi := { dst := some 29, op := Op.binOp BinOp.neq 3 (Operand.tmp 28) (Operand.const (Value.int IntKind.i64 (-1))) 3, type := 4, pos := "ref.go:303", after := #[{ on := 6, ground := Ground.data }], guard := none }) (v := ?_) rfl (by kernel_rfl) (by kernel_rfl) (by kernel_rfl) (fun _ _ _ h => h) (Or.inl ⟨by rfl, ?_⟩) (by assumption) ?_
        rotate_left
        · (intro w hSw; (try dsimp only at hSw); go_simp) <;> with_reducible rfl
        try simp only [Act.put, List.setIfInBounds_toArray, List.set_cons_zero, List.set_cons_succ]
        refine wpAnyH_done (by kernel_rfl) ?_ _
        have HB3 : Hid (Below w.heap.size w wc ∧ Below V.heap.size V wc) := ⟨HZ.out.1.trans (HB2.out.mono HZ.out.1.size), HZ.out.2.trans (HB2.out.mono HZ.out.2.size)⟩
        clear HK HB2 hHeld HZ HZD
        by_cases hc : zcmp e n te tn = -1
        · have HR2 : Hid (rises e n l = rises (prvE e l (k + 1)) (prvN n l (k + 1)) (l.drop (k + 1))) := by
            show _ = _
            rw [HR.out, zcmp_flip, decide_eq_true hc]; rfl
          rw [hc]
          clear hc HR
          go_wp2
          go_roundw
          case rel => exact ⟨k + 1, by omega, by go_num, HB3.out.2, HR2.out⟩
          case measure => simp [intOf]; omega
        · have HR2 : Hid (rises e n l = false) := by
            show _ = _
            rw [HR.out, zcmp_flip, decide_eq_false hc]; rfl
          have hc' : (zcmp e n te tn != -1) = true := by simpa using hc
          clear HR
          generalize zcmp e n te tn = zc at *
          go_wp2
          go_ret
          exact ⟨by rw [HR2.out]; rfl, HB3.out.1⟩
      · obtain ⟨m, rfl⟩ : ∃ m, k = m + 1 := ⟨k - 1, by omega⟩
        have e1 : prvE e l (m + 1) = l[m].ep := prvE_next e l m (by omega)
        have e2 : prvN n l (m + 1) = l[m].n := prvN_next n l m (by omega)
        rw [e1, e2] at HR
        obtain ⟨y0, y1⟩ := HP.out m (by omega)
        clear e1 e2 ee en
        generalize l[m].ep = pe at *
        generalize l[m].n = pn at *
        go_wp2
        obtain ⟨Z, eZ⟩ : ∃ Z, Z = wr.alloc (.cells #[.int .u32 pe, .int .u32 pn] 24) := ⟨_, rfl⟩
        rw [← eZ]
        have HZ : Hid (Below w.heap.size w Z ∧ Below V.heap.size V Z) := by subst eZ; exact ⟨HBW.out.1.trans ((one_alloc wr _).mono HBW.out.1.size), HBW.out.2.trans ((one_alloc wr _).mono HBW.out.2.size)⟩
        have HZD : Hid (Below Z.heap.size Z Z.drew) := below_drewN (Below.refl _ _) 1
        have HK : Hid (∀ W' : World, Below Z.heap.size Z W' → W'.cell? ⟨wr.heap.size, 0, none⟩ = some (.int .u32 pe) ∧ W'.cell? ⟨wr.heap.size, 1, none⟩ = some (.int .u32 pn) ∧ W'.cell? ⟨b, off + (m + 1) * 16, none⟩ = some (.int .u32 te) ∧ W'.cell? ⟨b, off + (m + 1) * 16 + 1, none⟩ = some (.int .u32 tn)) := by
          intro W' hW
          refine ⟨cell_later ?_ hW (Nat.le_refl _), cell_later ?_ hW (Nat.le_refl _), cell_later ?_ hW (Nat.le_refl _), cell_later ?_ hW (Nat.le_refl _)⟩
          · subst eZ; rw [cell_of_row _ _ _ _ _ _ (heap_alloc_new _ _)]; rfl
          · subst eZ; rw [cell_of_row _ _ _ _ _ _ (heap_alloc_new _ _)]; rfl
          · subst eZ; exact cell_later g0 (one_alloc wr _) (Nat.le_refl _)
          · subst eZ; exact cell_later g1 (one_alloc wr _) (Nat.le_refl _)
        clear eZ HBW g0 g1 x0 x1 HP
        have i0 : (0 : Int) ≤ (m : Int) + 1 := by omega
        have i1 : (m : Int) + 1 < (l.length : Int) := by omega
        refine wp_region_held_drew (S := fun W' => W'.cell? ⟨wr.heap.size, 0, none⟩ = some (.int .u32 pe) ∧ W'.cell? ⟨wr.heap.size, 1, none⟩ = some (.int .u32 pn) ∧ W'.cell? ⟨b, off + (m + 1) * 16, none⟩ = some (.int .u32 te) ∧ W'.cell? ⟨b, off + (m + 1) * 16 + 1, none⟩ = some (.int .u32 tn)) (by kernel_rfl) ?_ (fun hHeld => ?_)
        · exact HK.out _ HZD.out
        refine wpAnyH_take (i := 0) (oi := { dst := some 22, op := Op.load 24 (Operand.tmp 6), type := 24, pos := "ref.go:303", after := #[], guard := none }) (v := ?_) rfl (by kernel_rfl) (by kernel_rfl) (by kernel_rfl) (fun _ _ _ h => h) (Or.inl ⟨by rfl, ?_⟩) (by assumption) ?_
        rotate_left
        · (intro w hSw; (try dsimp only at hSw); go_simp) <;> with_reducible rfl
        try simp only [Act.put, List.setIfInBounds_toArray, List.set_cons_zero, List.set_cons_succ]
        refine wpAnyH_take (i := 1) (oi := { dst := some 23, op := Op.move (Operand.tmp 1), type := 44, pos := "ref.go:303", after := #[], guard := none }) (v := ?_) rfl (by kernel_rfl) (by kernel_rfl) (by kernel_rfl) (fun _ _ _ h => h) (Or.inl ⟨by rfl, ?_⟩) (by assumption) ?_
        rotate_left
        · (intro w hSw; (try dsimp only at hSw); go_simp) <;> with_reducible rfl
        try simp only [Act.put, List.setIfInBounds_toArray, List.set_cons_zero, List.set_cons_succ]
        refine wpAnyH_take (i := 2) (oi := { dst := some 24, op := Op.move (Operand.tmp 5), type := 3, pos := "ref.go:303", after := #[], guard := none }) (v := ?_) rfl (by kernel_rfl) (by kernel_rfl) (by kernel_rfl) (fun _ _ _ h => h) (Or.inl ⟨by rfl, ?_⟩) (by assumption) ?_
        rotate_left
        · (intro w hSw; (try dsimp only at hSw); go_simp) <;> with_reducible rfl
        try simp only [Act.put, List.setIfInBounds_toArray, List.set_cons_zero, List.set_cons_succ]
        refine wpAnyH_take (i := 3) (oi := { dst := some 25, op := Op.indexAddr 44 (Operand.tmp 23) (Operand.tmp 24), type := 0, pos := "ref.go:303", after := #[{ on := 1, ground := Ground.data }, { on := 2, ground := Ground.data }], guard := none }) (v := ?_) rfl (by kernel_rfl) (by kernel_rfl) (by kernel_rfl) (fun _ _ _ h => h) (Or.inl ⟨by rfl, ?_⟩) (by assumption) ?_
        rotate_left
        · (intro w hSw; (try dsimp only at hSw); go_simp) <;> with_reducible rfl
        try simp only [Act.put, List.setIfInBounds_toArray, List.set_cons_zero, List.set_cons_succ]
        refine wpAnyH_take (i := 4) (oi := { dst := some 26, op := Op.fieldAddr 35 (Operand.tmp 25) 0, type := 0, pos := "ref.go:303", after := #[{ on := 3, ground := Ground.data }], guard := none }) (v := ?_) rfl (by kernel_rfl) (by kernel_rfl) (by kernel_rfl) (fun _ _ _ h => h) (Or.inl ⟨by rfl, ?_⟩) (by assumption) ?_
        rotate_left
        · (intro w hSw; (try dsimp only at hSw); go_simp) <;> with_reducible rfl
        try simp only [Act.put, List.setIfInBounds_toArray, List.set_cons_zero, List.set_cons_succ]
        refine wpAnyH_take (i := 5) (oi := { dst := some 27, op := Op.load 24 (Operand.tmp 26), type := 24, pos := "ref.go:303", after := #[{ on := 4, ground := Ground.data }], guard := none }) (v := ?_) rfl (by kernel_rfl) (by kernel_rfl) (by kernel_rfl) (fun _ _ _ h => h) (Or.inl ⟨by rfl, ?_⟩) (by assumption) ?_
        rotate_left
        · (intro w hSw; (try dsimp only at hSw); go_simp) <;> with_reducible rfl
        try simp only [Act.put, List.setIfInBounds_toArray, List.set_cons_zero, List.set_cons_succ]
        refine wpAnyH_ready (rs := [6]) (by kernel_rfl) (by simp) ?_
        refine AllReadyH.cons (o := { dst := some 28, op := Op.call { callee := Callee.value (Operand.func 36), args := #[Operand.tmp 22, Operand.tmp 27], argTypes := #[24, 24] }, type := 3, pos := "ref.go:303", after := #[{ on := 0, ground := Ground.data }, { on := 5, ground := Ground.data }], guard := none }) rfl (fun K hK => ?_) AllReadyH.nil
        go_simp
        refine (refCompare_any pe pn te tn _).mono ?_
        rintro r wc ⟨rfl, hb⟩
        have HB2 : Hid (Below Z.heap.size Z wc) := HZD.out.trans (hb.mono HZD.out.size)
        clear hHeld hb
        refine hK.out _ _ (HK.out _ HB2.out) (fun hHeld => ?_)
        clear hK K
        refine wpAnyH_take (i := 7) (oi := { dst := some 29, op := Op.binOp BinOp.neq 3 (Operand.tmp 28) (Operand.const (Value.int IntKind.i64 (-1))) 3, type := 4, pos := "ref.go:303", after := #[{ on := 6, ground := Ground.data }], guard := none }) (v := ?_) rfl (by kernel_rfl) (by kernel_rfl) (by kernel_rfl) (fun _ _ _ h => h) (Or.inl ⟨by rfl, ?_⟩) (by assumption) ?_
        rotate_left
        · (intro w hSw; (try dsimp only at hSw); go_simp) <;> with_reducible rfl
        try simp only [Act.put, List.setIfInBounds_toArray, List.set_cons_zero, List.set_cons_succ]
        refine wpAnyH_done (by kernel_rfl) ?_ _
        have HB3 : Hid (Below w.heap.size w wc ∧ Below V.heap.size V wc) := ⟨HZ.out.1.trans (HB2.out.mono HZ.out.1.size), HZ.out.2.trans (HB2.out.mono HZ.out.2.size)⟩
        clear HK HB2 hHeld HZ HZD
        by_cases hc : zcmp pe pn te tn = -1
        · have HR2 : Hid (rises e n l = rises (prvE e l ((m + 1) + 1)) (prvN n l ((m + 1) + 1)) (l.drop ((m + 1) + 1))) := by
            show _ = _
            rw [HR.out, zcmp_flip, decide_eq_true hc]; rfl
          rw [hc]
          clear hc HR
          go_wp2
          go_roundw
          case rel => exact ⟨(m + 1) + 1, by omega, by go_num, HB3.out.2, HR2.out⟩
          case measure => simp [intOf]; omega
        · have HR2 : Hid (rises e n l = false) := by
            show _ = _
            rw [HR.out, zcmp_flip, decide_eq_false hc]; rfl
          have hc' : (zcmp pe pn te tn != -1) = true := by simpa using hc
          clear HR
          generalize zcmp pe pn te tn = zc at *
          go_wp2
          go_ret
          exact ⟨by rw [HR2.out]; rfl, HB3.out.1⟩
    · obtain rfl : k = l.length := by omega
      have hr : Hid (rises e n l = true) := by show _ = _; rw [hris, List.drop_length]; rfl
      have HB1 := (HC.out _ HB.out).2.2
      clear hris
      go_wp2_with fail
      go_ret
      exact ⟨by rw [hr.out]; rfl, HB1⟩
end Go.Proofs.YteoghfmhbdkjbaaGreatDoor
