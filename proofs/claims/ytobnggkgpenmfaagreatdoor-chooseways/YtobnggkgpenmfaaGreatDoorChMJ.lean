/- What Way of the document's layer 14 answers, for all that came in. -/
import Derived.Test.YtobnggkgpenmfaaGreatDoorWeCJ
import Derived.Test.YtobnggkgpenmfaaGreatDoorChKJ
import Derived.Test.YtobnggkgpenmfaaGreatDoorChDJ
namespace Go.Proofs.YtobnggkgpenmfaaGreatDoor
open Go.RowKit
set_option maxRecDepth 8000

/-- In a list that rises: who is at most (e, n) stands ahead of the place. -/
theorem up_iff {e n e0 n0 : Int} {l : List TxD} (hr : rises e0 n0 l = true) (i : Nat) (hi : i < l.length) : zcmp l[i].ep l[i].n e n ≤ 0 ↔ i < upN e n l := by
  refine ⟨fun h => ?_, fun h => upN_below e n l i h hi⟩
  apply Nat.lt_of_not_le
  intro hle
  have a := upN_stop e n l (by omega)
  have b := rises_lt l e0 n0 (upN e n l) i hi hle hr
  have := zcmp_trans b h
  omega

/-- Way's own variables, and the zxid that is chosen. -/
structure RwE (w : World) (pe pn se sn : Int) (y : Nat) (fe fn : Int) (W : World) : Prop where
  s : WayS w pe pn se sn W
  f : W.heap[y]? = some (.cells #[.int .u32 fe, .int .u32 fn] 24 (0, 0))
  hy : w.heap.size + 2 < y

theorem RwE.later {w : World} {pe pn se sn : Int} {y : Nat} {fe fn : Int} {W W' : World} (h : RwE w pe pn se sn y fe fn W) (hb : Below W.heap.size W W') : RwE w pe pn se sn y fe fn W' :=
  ⟨h.s.later hb, (Below.kept hb).heap h.f (by have := lt_of_block h.f; omega), h.hy⟩
theorem RwE.set {w : World} {pe pn se sn : Int} {y : Nat} {fe fn : Int} {W : World} (h : RwE w pe pn se sn y fe fn W) (a b : Int) : RwE w pe pn se sn y a b ((W.setCell ⟨y, 0, none⟩ (.int .u32 a)).setCell ⟨y, 1, none⟩ (.int .u32 b)) := by
  have e := h.hy
  have k : Kept W ((W.setCell ⟨y, 0, none⟩ (.int .u32 a)).setCell ⟨y, 1, none⟩ (.int .u32 b)) (fun k => k = y) := ((Kept.refl W (fun k => k = y)).setCell ⟨y, 0, none⟩ _ (fun _ => rfl)).setCell ⟨y, 1, none⟩ _ (fun _ => rfl)
  refine ⟨h.s.kept k (fun q hq e => by omega), ?_, h.hy⟩
  rw [heap_setR _ (heap_setR _ h.f)]
  rfl

set_option maxHeartbeats 2000000 in
theorem refWay_any (pe pn se sn : Int) (v : Value) (l : List TxD) (ca im : Int) (x : Nat) (w : World) (h : SeesTxs w v l) (hg : ∀ t ∈ l, t.good) (hl : l.length ≤ 1000000) :
    Calls Tryz.prog 9 #[zx pe pn, zx se sn, v, .int .i64 ca, .int .i64 im, .float .f64 x] w fun r w' => r = .returned (.tuple #[(chW pe pn se sn l ca im x).val, .int .i64 (chW pe pn se sn l ca im x).err]) ∧ Below w.heap.size w w' := by
  obtain ⟨ao, cap, rfl, hlc, hcm⟩ := txs_shape h
  have H : Hid (SeesTxs w (.slice ao l.length cap) l ∧ (∀ t ∈ l, t.good)) := ⟨h, hg⟩
  unfold maxLen at hcm
  obtain ⟨V, eV⟩ : ∃ V, V = (((w.alloc (.cells #[.int .u32 pe, .int .u32 pn] 24)).alloc (.cells #[.int .u32 se, .int .u32 sn] 24)).alloc (.cells chZ 34)) := ⟨_, rfl⟩
  have HV : Hid (WayS w pe pn se sn V) := by subst eV; exact WayS.start _ _ _ _ _
  have HE : Hid _ := eV
  obtain ⟨C, hC⟩ : ∃ C, C = chW pe pn se sn l ca im x := ⟨_, rfl⟩
  rw [← hC]
  have HC : Hid _ := hC
  clear h hg eV hC
  go_enter Tryz.func9, Tryz.ntmps9
  go_wp2_with fail
  rw [← HE.out]
  refine (refRises14_any se sn _ l V (H.out.1.below HV.out.bel (Nat.le_refl _))).mono ?_
  rintro _ w1 ⟨rfl, b1⟩
  have H1 : Hid (WayS w pe pn se sn w1) := HV.out.later b1
  clear b1 HV HE
  have f0 : w1.frozen? ⟨w.heap.size + 2, 0, none⟩ = false := frozen_of_row _ _ _ _ _ H1.out.b2
  have f1 : w1.frozen? ⟨w.heap.size + 2, 1, none⟩ = false := frozen_of_row _ _ _ _ _ H1.out.b2
  have f2 : w1.frozen? ⟨w.heap.size + 2, 2, none⟩ = false := frozen_of_row _ _ _ _ _ H1.out.b2
  have f3 : w1.frozen? ⟨w.heap.size + 2, 3, none⟩ = false := frozen_of_row _ _ _ _ _ H1.out.b2
  have d0 : w1.cell? ⟨w.heap.size + 2, 0, none⟩ = some (.int .i8 0) := cellAt H1.out.b2 rfl
  have d1 : w1.cell? ⟨w.heap.size + 2, 1, none⟩ = some (.int .u32 0) := cellAt H1.out.b2 rfl
  have d2 : w1.cell? ⟨w.heap.size + 2, 2, none⟩ = some (.int .u32 0) := cellAt H1.out.b2 rfl
  have d3 : w1.cell? ⟨w.heap.size + 2, 3, none⟩ = some (.bool false) := cellAt H1.out.b2 rfl
  have HB4 : Hid (∀ a0 a1 a2 a3 : Value, Below w.heap.size w ((((w1.setCell ⟨w.heap.size + 2, 0, none⟩ a0).setCell ⟨w.heap.size + 2, 1, none⟩ a1).setCell ⟨w.heap.size + 2, 2, none⟩ a2).setCell ⟨w.heap.size + 2, 3, none⟩ a3)) := four_kept _ (by omega) H1.out.bel
  cases hr : rises se sn l with
  | false =>
    have HX : Hid (C = ⟨0, 0, 0, false, 1⟩) := by show C = _; rw [HC.out]; unfold chW; rw [if_pos (.inl hr)]
    clear HC hr
    go_wp2_with fail
    refine bodyPost_ret (v := .tuple #[.agg chZ, .int .i64 1]) (by simp [results, Tryz.results9, go_sem, d0, d1, d2, d3]) rfl ⟨by rw [HX.out], HB4.out _ _ _ _⟩
  | true =>
    have HR : Hid _ := hr
    clear hr
    by_cases h1 : ca < 0
    · have HX : Hid (C = ⟨0, 0, 0, false, 1⟩) := by show C = _; rw [HC.out]; unfold chW; rw [if_pos (.inr (.inl h1))]
      have h1' : decide (ca < 0) = true := decide_eq_true h1
      clear HC h1
      go_wp2_with fail
      refine bodyPost_ret (v := .tuple #[.agg chZ, .int .i64 1]) (by simp [results, Tryz.results9, go_sem, d0, d1, d2, d3]) rfl ⟨by rw [HX.out], HB4.out _ _ _ _⟩
    have h1' : decide (ca < 0) = false := decide_eq_false h1
    by_cases h2 : (l.length : Int) < ca
    · have HX : Hid (C = ⟨0, 0, 0, false, 1⟩) := by show C = _; rw [HC.out]; unfold chW; rw [if_pos (.inr (.inr (.inl h2)))]
      have h2' : decide ((l.length : Int) < ca) = true := decide_eq_true h2
      clear HC h1 h2
      go_wp2_with fail
      refine bodyPost_ret (v := .tuple #[.agg chZ, .int .i64 1]) (by simp [results, Tryz.results9, go_sem, d0, d1, d2, d3]) rfl ⟨by rw [HX.out], HB4.out _ _ _ _⟩
    have h2' : decide ((l.length : Int) < ca) = false := decide_eq_false h2
    by_cases h3 : im < 0
    · have HX : Hid (C = ⟨0, 0, 0, false, 1⟩) := by show C = _; rw [HC.out]; unfold chW; rw [if_pos (.inr (.inr (.inr h3)))]
      have h3' : decide (im < 0) = true := decide_eq_true h3
      clear HC h1 h2 h3
      go_wp2_with fail
      refine bodyPost_ret (v := .tuple #[.agg chZ, .int .i64 1]) (by simp [results, Tryz.results9, go_sem, d0, d1, d2, d3]) rfl ⟨by rw [HX.out], HB4.out _ _ _ _⟩
    have h3' : decide (im < 0) = false := decide_eq_false h3
    have HX : Hid (C = if zcmp pe pn se sn < 0 then ⟨4, 0, 0, false, 0⟩ else chN pe pn se sn l ca im x (upN pe pn l)) := by
      show C = _
      rw [HC.out]
      unfold chW
      rw [if_neg]
      rintro (h | h | h | h)
      · rw [HR.out] at h; cases h
      · exact h1 h
      · exact h2 h
      · exact h3 h
    have p0 : w1.cell? ⟨w.heap.size, 0, none⟩ = some (.int .u32 pe) := cellAt H1.out.b0 rfl
    have p1 : w1.cell? ⟨w.heap.size, 1, none⟩ = some (.int .u32 pn) := cellAt H1.out.b0 rfl
    have s0 : w1.cell? ⟨w.heap.size + 1, 0, none⟩ = some (.int .u32 se) := cellAt H1.out.b1 rfl
    have s1 : w1.cell? ⟨w.heap.size + 1, 1, none⟩ = some (.int .u32 sn) := cellAt H1.out.b1 rfl
    clear HC HB4 f0 f1 f2 f3 d0 d1 d2 d3
    go_wp2_with fail
    refine (refCompare_any pe pn se sn _).mono ?_
    rintro _ w2 ⟨rfl, b2⟩
    have H2 : Hid (WayS w pe pn se sn w2) := H1.out.later b2
    clear b2 H1 p0 p1 s0 s1
    by_cases hz : zcmp pe pn se sn < 0
    · have f0 : w2.frozen? ⟨w.heap.size + 2, 0, none⟩ = false := frozen_of_row _ _ _ _ _ H2.out.b2
      have f1 : w2.frozen? ⟨w.heap.size + 2, 1, none⟩ = false := frozen_of_row _ _ _ _ _ H2.out.b2
      have f2 : w2.frozen? ⟨w.heap.size + 2, 2, none⟩ = false := frozen_of_row _ _ _ _ _ H2.out.b2
      have f3 : w2.frozen? ⟨w.heap.size + 2, 3, none⟩ = false := frozen_of_row _ _ _ _ _ H2.out.b2
      have d0 : w2.cell? ⟨w.heap.size + 2, 0, none⟩ = some (.int .i8 0) := cellAt H2.out.b2 rfl
      have d1 : w2.cell? ⟨w.heap.size + 2, 1, none⟩ = some (.int .u32 0) := cellAt H2.out.b2 rfl
      have d2 : w2.cell? ⟨w.heap.size + 2, 2, none⟩ = some (.int .u32 0) := cellAt H2.out.b2 rfl
      have d3 : w2.cell? ⟨w.heap.size + 2, 3, none⟩ = some (.bool false) := cellAt H2.out.b2 rfl
      have HB4 : Hid (∀ a0 a1 a2 a3 : Value, Below w.heap.size w ((((w2.setCell ⟨w.heap.size + 2, 0, none⟩ a0).setCell ⟨w.heap.size + 2, 1, none⟩ a1).setCell ⟨w.heap.size + 2, 2, none⟩ a2).setCell ⟨w.heap.size + 2, 3, none⟩ a3)) := four_kept _ (by omega) H2.out.bel
      have HY : Hid (C = ⟨4, 0, 0, false, 0⟩) := by show C = _; rw [HX.out, if_pos hz]
      have hz' : decide (zcmp pe pn se sn < 0) = true := decide_eq_true hz
      clear HX hz
      go_wp2_with fail
      refine bodyPost_ret (v := .tuple #[.agg #[.int .i8 4, .int .u32 0, .int .u32 0, .bool false], .int .i64 0]) (by simp [results, Tryz.results9, go_sem, d0, d1, d2, d3]) rfl ⟨by rw [HY.out], HB4.out _ _ _ _⟩
    have hz' : decide (zcmp pe pn se sn < 0) = false := decide_eq_false hz
    have HY : Hid (C = chN pe pn se sn l ca im x (upN pe pn l)) := by show C = _; rw [HX.out, if_neg hz]
    have s0 : w2.cell? ⟨w.heap.size + 1, 0, none⟩ = some (.int .u32 se) := cellAt H2.out.b1 rfl
    have s1 : w2.cell? ⟨w.heap.size + 1, 1, none⟩ = some (.int .u32 sn) := cellAt H2.out.b1 rfl
    obtain ⟨y, hy⟩ : ∃ y, y = w2.heap.size := ⟨_, rfl⟩
    obtain ⟨U, hU⟩ : ∃ U, U = w2.alloc (.cells #[.int .u32 se, .int .u32 sn] 24) := ⟨_, rfl⟩
    have HU : Hid (RwE w pe pn se sn y se sn U) := by
      have hyw : w.heap.size + 2 < y := by rw [hy]; exact lt_of_block H2.out.b2
      subst hU; subst hy
      exact ⟨H2.out.later (one_alloc _ _), heap_alloc_new _ _, hyw⟩
    have HUE : Hid (U = w2.alloc (.cells #[.int .u32 se, .int .u32 sn] 24) ∧ y = w2.heap.size) := ⟨hU, hy⟩
    have hup := upN_le pe pn l
    obtain ⟨u, hu⟩ : ∃ u, u = upN pe pn l := ⟨_, rfl⟩
    rw [← hu] at HY hup
    have HQ : Hid (∀ i (hi : i < l.length), zcmp l[i].ep l[i].n pe pn ≤ 0 ↔ i < u) := fun i hi => by rw [hu]; exact up_iff HR.out i hi
    clear HX hz hU hy hu
    go_upto_region 6 with fail
    rw [← HUE.out.1, ← HUE.out.2]
    clear HUE H2 s0 s1
    go_wp2_with fail
    go_loopw [15, 16] (fun hv i wr => ∃ k : Nat, k ≤ l.length ∧ i = .int .i64 k ∧ hv = .int .i64 (min k u : Nat) ∧ Hid (RwE w pe pn se sn y (lstE se l (min k u)) (lstN sn l (min k u)) wr)) (fun _ i _ => l.length - (intOf i).toNat)
    case atStart =>
      refine ⟨0, Nat.zero_le _, rfl, by rw [Nat.zero_min]; rfl, ?_⟩
      rw [Nat.zero_min, lstE_zero, lstN_zero]
      exact HU
    case round =>
    obtain ⟨k, hk, rfl, rfl, HB⟩ := hrel
    clear HU
    by_cases hlt : k < l.length
    · obtain ⟨b, off, cap', rc, hv, _, _, _, hat⟩ := txs_at (H.out.1.below HB.out.s.bel (Nat.le_refl _)) k hlt
      simp at hv
      obtain ⟨rfl, rfl⟩ := hv
      have HS : Hid (∀ W, Below wr.heap.size wr W → W.cell? ⟨b, off + k * 16, none⟩ = some (.int .u32 l[k].ep) ∧ W.cell? ⟨b, off + k * 16 + 1, none⟩ = some (.int .u32 l[k].n) ∧ W.cell? ⟨w.heap.size, 0, none⟩ = some (.int .u32 pe) ∧ W.cell? ⟨w.heap.size, 1, none⟩ = some (.int .u32 pn)) := fun W hW =>
        ⟨cell_later (hat 0 (by omega)) hW (Nat.le_refl _), cell_later (hat 1 (by omega)) hW (Nat.le_refl _), cell_later (cellAt HB.out.s.b0 rfl) hW (Nat.le_refl _), cell_later (cellAt HB.out.s.b0 rfl) hW (Nat.le_refl _)⟩
      clear hat
      go_upto_region 10 with fail
      refine wp_region_held_drew (S := (fun W => W.cell? ⟨b, off + k * 16, none⟩ = some (.int .u32 l[k].ep) ∧ W.cell? ⟨b, off + k * 16 + 1, none⟩ = some (.int .u32 l[k].n) ∧ W.cell? ⟨w.heap.size, 0, none⟩ = some (.int .u32 pe) ∧ W.cell? ⟨w.heap.size, 1, none⟩ = some (.int .u32 pn))) (by kernel_rfl) ?_ (fun hHeld => ?_)
      · exact HS.out _ (below_drewN (Below.refl _ _) 1)
      refine wpAnyH_take (i := 0) (oi := { dst := some 52, op := Op.move (Operand.tmp 2), type := 25, pos := "ref.go:50", after := #[], guard := none }) (v := ?_) rfl (by kernel_rfl) (by kernel_rfl) (by kernel_rfl) (fun _ _ _ h => h) (Or.inl ⟨by rfl, ?_⟩) (by assumption) ?_
      rotate_left
      · (intro w hSw; (try dsimp only at hSw); go_simp) <;> with_reducible rfl
      try simp only [Act.put, List.setIfInBounds_toArray, List.set_cons_zero, List.set_cons_succ]
      refine wpAnyH_take (i := 1) (oi := { dst := some 53, op := Op.move (Operand.tmp 16), type := 3, pos := "ref.go:50", after := #[], guard := none }) (v := ?_) rfl (by kernel_rfl) (by kernel_rfl) (by kernel_rfl) (fun _ _ _ h => h) (Or.inl ⟨by rfl, ?_⟩) (by assumption) ?_
      rotate_left
      · (intro w hSw; (try dsimp only at hSw); go_simp) <;> with_reducible rfl
      try simp only [Act.put, List.setIfInBounds_toArray, List.set_cons_zero, List.set_cons_succ]
      refine wpAnyH_take (i := 2) (oi := { dst := some 54, op := Op.indexAddr 25 (Operand.tmp 52) (Operand.tmp 53), type := 0, pos := "ref.go:50", after := #[{ on := 0, ground := Ground.data }, { on := 1, ground := Ground.data }], guard := none }) (v := ?_) rfl (by kernel_rfl) (by kernel_rfl) (by kernel_rfl) (fun _ _ _ h => h) (Or.inl ⟨by rfl, ?_⟩) (by assumption) ?_
      rotate_left
      · (intro w hSw; (try dsimp only at hSw); go_simp) <;> with_reducible rfl
      try simp only [Act.put, List.setIfInBounds_toArray, List.set_cons_zero, List.set_cons_succ]
      refine wpAnyH_take (i := 3) (oi := { dst := some 55, op := Op.fieldAddr 49 (Operand.tmp 54) 0, type := 0, pos := "ref.go:50", after := #[{ on := 2, ground := Ground.data }], guard := none }) (v := ?_) rfl (by kernel_rfl) (by kernel_rfl) (by kernel_rfl) (fun _ _ _ h => h) (Or.inl ⟨by rfl, ?_⟩) (by assumption) ?_
      rotate_left
      · (intro w hSw; (try dsimp only at hSw); go_simp) <;> with_reducible rfl
      try simp only [Act.put, List.setIfInBounds_toArray, List.set_cons_zero, List.set_cons_succ]
      refine wpAnyH_take (i := 4) (oi := { dst := some 56, op := Op.load 24 (Operand.tmp 55), type := 24, pos := "ref.go:50", after := #[{ on := 3, ground := Ground.data }], guard := none }) (v := ?_) rfl (by kernel_rfl) (by kernel_rfl) (by kernel_rfl) (fun _ _ _ h => h) (Or.inl ⟨by rfl, ?_⟩) (by assumption) ?_
      rotate_left
      · (intro w hSw; (try dsimp only at hSw); go_simp) <;> with_reducible rfl
      try simp only [Act.put, List.setIfInBounds_toArray, List.set_cons_zero, List.set_cons_succ]
      refine wpAnyH_take (i := 5) (oi := { dst := some 57, op := Op.load 24 (Operand.tmp 6), type := 24, pos := "ref.go:50", after := #[], guard := none }) (v := ?_) rfl (by kernel_rfl) (by kernel_rfl) (by kernel_rfl) (fun _ _ _ h => h) (Or.inl ⟨by rfl, ?_⟩) (by assumption) ?_
      rotate_left
      · (intro w hSw; (try dsimp only at hSw); go_simp) <;> with_reducible rfl
      try simp only [Act.put, List.setIfInBounds_toArray, List.set_cons_zero, List.set_cons_succ]
      refine wpAnyH_ready (rs := [6]) (by kernel_rfl) (by simp) ?_
      refine AllReadyH.cons (o := { dst := some 58, op := Op.call { callee := Callee.value (Operand.func 23), args := #[Operand.tmp 56, Operand.tmp 57], argTypes := #[24, 24] }, type := 3, pos := "ref.go:50", after := #[{ on := 4, ground := Ground.data }, { on := 5, ground := Ground.data }], guard := none }) rfl (fun K hK => ?_) AllReadyH.nil
      go_simp
      refine (refCompare_any l[k].ep l[k].n pe pn _).mono ?_
      rintro _ w5 ⟨rfl, b5⟩
      have HB5 : Hid (Below wr.heap.size wr w5) := (below_drewN (Below.refl wr.heap.size wr) 1).trans b5
      clear b5
      refine hK.out _ _ (HS.out _ HB5.out) (fun hHeld => ?_)
      clear hK K
      refine wpAnyH_take (i := 7) (oi := { dst := some 59, op := Op.binOp BinOp.leq 3 (Operand.tmp 58) (Operand.const (Value.int IntKind.i64 0)) 3, type := 4, pos := "ref.go:50", after := #[{ on := 6, ground := Ground.data }], guard := none }) (v := ?_) rfl (by kernel_rfl) (by kernel_rfl) (by kernel_rfl) (fun _ _ _ h => h) (Or.inl ⟨by rfl, ?_⟩) (by assumption) ?_
      rotate_left
      · (intro w hSw; (try dsimp only at hSw); go_simp) <;> with_reducible rfl
      try simp only [Act.put, List.setIfInBounds_toArray, List.set_cons_zero, List.set_cons_succ]
      refine wpAnyH_done (by kernel_rfl) ?_ _
      obtain ⟨g0, g1, p0, p1⟩ := hHeld
      have HF : Hid (RwE w pe pn se sn y (lstE se l (min k u)) (lstN sn l (min k u)) w5) := HB.out.later HB5.out
      have f0 : w5.frozen? ⟨y, 0, none⟩ = false := frozen_of_row _ _ _ _ _ HF.out.f
      have f1 : w5.frozen? ⟨y, 1, none⟩ = false := frozen_of_row _ _ _ _ _ HF.out.f
      have e0 : w5.cell? ⟨y, 0, none⟩ = some (.int .u32 (lstE se l (min k u))) := cellAt HF.out.f rfl
      have e1 : w5.cell? ⟨y, 1, none⟩ = some (.int .u32 (lstN sn l (min k u))) := cellAt HF.out.f rfl
      clear HB HB5 HS
      by_cases hku : k < u
      · have hc' : decide (zcmp l[k].ep l[k].n pe pn ≤ 0) = true := decide_eq_true ((HQ.out k hlt).2 hku)
        have HT : Hid (min (k + 1) u = k + 1 ∧ lstE se l (k + 1) = l[k].ep ∧ lstN sn l (k + 1) = l[k].n) := ⟨by omega, lstE_next _ _ _ hlt, lstN_next _ _ _ hlt⟩
        generalize hZ : decide (zcmp l[k].ep l[k].n pe pn ≤ 0) = Z at *
        clear hZ
        subst hc'
        go_wp2_with fail
        go_roundw
        case rel =>
          refine ⟨k + 1, by omega, by go_num, by rw [HT.out.1]; go_num, ?_⟩
          rw [HT.out.1, HT.out.2.1, HT.out.2.2]
          exact HF.out.set _ _
        case measure => simp [intOf]; omega
      · have hc' : decide (zcmp l[k].ep l[k].n pe pn ≤ 0) = false := decide_eq_false (fun h => hku ((HQ.out k hlt).1 h))
        have HT : Hid (min (k + 1) u = min k u) := by show min (k + 1) u = min k u; omega
        generalize hZ : decide (zcmp l[k].ep l[k].n pe pn ≤ 0) = Z at *
        clear hZ
        subst hc'
        go_wp2_with fail
        go_roundw
        case rel => exact ⟨k + 1, by omega, by go_num, by rw [HT.out], by rw [HT.out]; exact HF⟩
        case measure => simp [intOf]; omega
    · obtain rfl : k = l.length := by omega
      rw [Nat.min_eq_right hup] at HB
      rw [Nat.min_eq_right hup]
      obtain ⟨fe, hfe⟩ : ∃ fe, fe = lstE se l u := ⟨_, rfl⟩
      obtain ⟨fn, hfn⟩ : ∃ fn, fn = lstN sn l u := ⟨_, rfl⟩
      rw [← hfe, ← hfn] at HB
      obtain ⟨P1, hP1⟩ : ∃ P1, P1 = sliced ao u l.length cap 16 := ⟨_, rfl⟩
      have hsl : ∀ w, (Instr.slice 25 (.slice ao l.length cap) (some (.int .i64 (u : Int))) none none).run Tryz.prog w = .ok P1 w := fun w => by rw [hP1]; exact run_fromK ao l.length cap u hup w
      have hsu : SeesTxs wr P1 (l.drop u) := by
        have := seesTxs_cut (H.out.1.below HB.out.s.bel (Nat.le_refl _)) u l.length hup (Nat.le_refl _)
        rw [List.take_length] at this
        rw [hP1]
        exact this
      obtain ⟨ua, uc, eP, huc, hum⟩ := txs_shape hsu
      rw [List.length_drop] at huc eP
      obtain ⟨m, hm⟩ : ∃ m, m = l.length - u := ⟨_, rfl⟩
      rw [← hm] at huc eP
      unfold maxLen at hum
      have HD : Hid (fe = lstE se l u ∧ fn = lstN sn l u ∧ m = l.length - u) := ⟨hfe, hfn, hm⟩
      have HSU : Hid (SeesTxs wr P1 (l.drop u) ∧ (∀ t ∈ l.drop u, t.good) ∧ (l.drop u).length ≤ 1000000) := ⟨hsu, fun t ht => H.out.2 t (List.mem_of_mem_drop ht), by rw [List.length_drop]; omega⟩
      have hm1 : m ≤ 1000000 := by omega
      clear hP1 hsu hfe hfn hm
      subst eP
      have p0 : wr.cell? ⟨w.heap.size, 0, none⟩ = some (.int .u32 pe) := cellAt HB.out.s.b0 rfl
      go_wp2_with fail
      refine (refSize_any _ (l.drop u) _ HSU.out.1 HSU.out.2.1 HSU.out.2.2).mono ?_
      rintro _ w4 ⟨rfl, b4⟩
      have HZ4 : Hid (RwE w pe pn se sn y fe fn w4) := HB.out.later b4
      clear b4 HB HSU p0
      go_wp2_with fail
      refine (refUnder_any _ im x _).mono ?_
      rintro _ X1 ⟨rfl, b5⟩
      have HZ : Hid (RwE w pe pn se sn y fe fn X1) := HZ4.out.later b5
      clear b5 HZ4
      have HYY : Hid (C = if (m : Int) ≤ ca then ⟨sendW (decide (fe = pe ∧ fn = pn)) m, fe, fn, true, 0⟩ else if undB (szL (l.drop u)) im x then ⟨sendW (decide (fe = pe ∧ fn = pn)) m, fe, fn, false, 0⟩ else ⟨4, 0, 0, false, 0⟩) := by
        show C = _
        rw [HY.out]
        unfold chN
        rw [HD.out.1, HD.out.2.1, HD.out.2.2]
      clear HY HD
      generalize undB (szL (l.drop u)) im x = ub at *
      have g0 : X1.frozen? ⟨w.heap.size + 2, 0, none⟩ = false := frozen_of_row _ _ _ _ _ HZ.out.s.b2
      have g1 : X1.frozen? ⟨w.heap.size + 2, 1, none⟩ = false := frozen_of_row _ _ _ _ _ HZ.out.s.b2
      have g2 : X1.frozen? ⟨w.heap.size + 2, 2, none⟩ = false := frozen_of_row _ _ _ _ _ HZ.out.s.b2
      have g3 : X1.frozen? ⟨w.heap.size + 2, 3, none⟩ = false := frozen_of_row _ _ _ _ _ HZ.out.s.b2
      have c0 : X1.cell? ⟨w.heap.size + 2, 0, none⟩ = some (.int .i8 0) := cellAt HZ.out.s.b2 rfl
      have c1 : X1.cell? ⟨w.heap.size + 2, 1, none⟩ = some (.int .u32 0) := cellAt HZ.out.s.b2 rfl
      have c2 : X1.cell? ⟨w.heap.size + 2, 2, none⟩ = some (.int .u32 0) := cellAt HZ.out.s.b2 rfl
      have c3 : X1.cell? ⟨w.heap.size + 2, 3, none⟩ = some (.bool false) := cellAt HZ.out.s.b2 rfl
      have p0 : X1.cell? ⟨w.heap.size, 0, none⟩ = some (.int .u32 pe) := cellAt HZ.out.s.b0 rfl
      have p1 : X1.cell? ⟨w.heap.size, 1, none⟩ = some (.int .u32 pn) := cellAt HZ.out.s.b0 rfl
      have q0 : X1.cell? ⟨y, 0, none⟩ = some (.int .u32 fe) := cellAt HZ.out.f rfl
      have q1 : X1.cell? ⟨y, 1, none⟩ = some (.int .u32 fn) := cellAt HZ.out.f rfl
      have HBE : Hid (∀ a0 a1 a2 a3 : Value, Below w.heap.size w ((((X1.setCell ⟨w.heap.size + 2, 0, none⟩ a0).setCell ⟨w.heap.size + 2, 1, none⟩ a1).setCell ⟨w.heap.size + 2, 2, none⟩ a2).setCell ⟨w.heap.size + 2, 3, none⟩ a3)) := four_kept _ (by omega) HZ.out.s.bel
      have hgq : Tryz.prog.eqGuardType Tryz.prog.depth 24 = false := by kernel_rfl
      by_cases hnear : (m : Int) ≤ ca
      · have hnear' : decide ((m : Int) ≤ ca) = true := decide_eq_true hnear
        rw [if_pos hnear] at HYY
        clear hnear
        generalize hN : decide ((m : Int) ≤ ca) = N at *
        clear hN
        subst hnear'
        by_cases hs : fe = pe ∧ fn = pn
        · have heq : ∀ w, (binOp .eql 24 (.agg #[.int .u32 fe, .int .u32 fn]) (.agg #[.int .u32 pe, .int .u32 pn])).run Tryz.prog w = .ok (.bool true) w := fun w => by rw [eqZx, decide_eq_true hs]
          rw [decide_eq_true hs] at HYY
          clear hs
          go_wp2_with fail
          refine bodyPost_ret (v := .tuple #[.agg #[.int .i8 1, .int .u32 fe, .int .u32 fn, .bool true], .int .i64 0]) (by simp [results, Tryz.results9, go_sem, c0, c1, c2, c3]) rfl ⟨by rw [HYY.out]; rfl, HBE.out _ _ _ _⟩
        · have heq : ∀ w, (binOp .eql 24 (.agg #[.int .u32 fe, .int .u32 fn]) (.agg #[.int .u32 pe, .int .u32 pn])).run Tryz.prog w = .ok (.bool false) w := fun w => by rw [eqZx, decide_eq_false hs]
          rw [decide_eq_false hs] at HYY
          clear hs
          by_cases hm0 : m = 0
          · subst hm0
            go_wp2_with fail
            refine bodyPost_ret (v := .tuple #[.agg #[.int .i8 2, .int .u32 fe, .int .u32 fn, .bool true], .int .i64 0]) (by simp [results, Tryz.results9, go_sem, c0, c1, c2, c3]) rfl ⟨by rw [HYY.out]; rfl, HBE.out _ _ _ _⟩
          · have hm0' : ((m : Int) == 0) = false := by simp; omega
            have HW : Hid (sendW false m = 3) := by show sendW false m = 3; unfold sendW; rw [if_neg (by decide), if_neg hm0]
            clear hm0
            go_wp2_with fail
            refine bodyPost_ret (v := .tuple #[.agg #[.int .i8 3, .int .u32 fe, .int .u32 fn, .bool true], .int .i64 0]) (by simp [results, Tryz.results9, go_sem, c0, c1, c2, c3]) rfl ⟨by rw [HYY.out, HW.out], HBE.out _ _ _ _⟩
      · have hnear' : decide ((m : Int) ≤ ca) = false := decide_eq_false hnear
        rw [if_neg hnear] at HYY
        clear hnear
        generalize hN : decide ((m : Int) ≤ ca) = N at *
        clear hN
        subst hnear'
        cases ub with
        | true =>
          rw [if_pos rfl] at HYY
          by_cases hs : fe = pe ∧ fn = pn
          · have heq : ∀ w, (binOp .eql 24 (.agg #[.int .u32 fe, .int .u32 fn]) (.agg #[.int .u32 pe, .int .u32 pn])).run Tryz.prog w = .ok (.bool true) w := fun w => by rw [eqZx, decide_eq_true hs]
            rw [decide_eq_true hs] at HYY
            clear hs
            go_wp2_with fail
            refine bodyPost_ret (v := .tuple #[.agg #[.int .i8 1, .int .u32 fe, .int .u32 fn, .bool false], .int .i64 0]) (by simp [results, Tryz.results9, go_sem, c0, c1, c2, c3]) rfl ⟨by rw [HYY.out]; rfl, HBE.out _ _ _ _⟩
          · have heq : ∀ w, (binOp .eql 24 (.agg #[.int .u32 fe, .int .u32 fn]) (.agg #[.int .u32 pe, .int .u32 pn])).run Tryz.prog w = .ok (.bool false) w := fun w => by rw [eqZx, decide_eq_false hs]
            rw [decide_eq_false hs] at HYY
            clear hs
            by_cases hm0 : m = 0
            · subst hm0
              go_wp2_with fail
              refine bodyPost_ret (v := .tuple #[.agg #[.int .i8 2, .int .u32 fe, .int .u32 fn, .bool false], .int .i64 0]) (by simp [results, Tryz.results9, go_sem, c0, c1, c2, c3]) rfl ⟨by rw [HYY.out]; rfl, HBE.out _ _ _ _⟩
            · have hm0' : ((m : Int) == 0) = false := by simp; omega
              have HW : Hid (sendW false m = 3) := by show sendW false m = 3; unfold sendW; rw [if_neg (by decide), if_neg hm0]
              clear hm0
              go_wp2_with fail
              refine bodyPost_ret (v := .tuple #[.agg #[.int .i8 3, .int .u32 fe, .int .u32 fn, .bool false], .int .i64 0]) (by simp [results, Tryz.results9, go_sem, c0, c1, c2, c3]) rfl ⟨by rw [HYY.out, HW.out], HBE.out _ _ _ _⟩
        | false =>
          rw [if_neg (by decide)] at HYY
          go_wp2_with fail
          refine bodyPost_ret (v := .tuple #[.agg #[.int .i8 4, .int .u32 0, .int .u32 0, .bool false], .int .i64 0]) (by simp [results, Tryz.results9, go_sem, c0, c1, c2, c3]) rfl ⟨by rw [HYY.out], HBE.out _ _ _ _⟩
end Go.Proofs.YtobnggkgpenmfaaGreatDoor
