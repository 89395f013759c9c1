/- What choose.Way answers, for all that came in. -/
import Derived.Test.YtljghfglabgckaaDoorChCJ
namespace Go.Proofs.YtljghfglabgckaaDoor
open Go.RowKit
set_option maxRecDepth 8000

abbrev chZ : Array Value := #[.int .i8 0, .int .u32 0, .int .u32 0, .bool false]

/-- Way's own variables: the two zxids that came in, and the answer's place. -/
structure WayS (w : World) (pe pn se sn : Int) (W : World) : Prop where
  b0 : W.heap[w.heap.size]? = some (.cells #[.int .u32 pe, .int .u32 pn] 30 (0, 0))
  b1 : W.heap[w.heap.size + 1]? = some (.cells #[.int .u32 se, .int .u32 sn] 30 (0, 0))
  b2 : W.heap[w.heap.size + 2]? = some (.cells chZ 33 (0, 0))
  bel : Below w.heap.size w W

theorem WayS.later {w : World} {pe pn se sn : Int} {W W' : World} (h : WayS w pe pn se sn W) (hb : Below W.heap.size W W') : WayS w pe pn se sn W' :=
  ⟨(Below.kept hb).heap h.b0 (by have := lt_of_block h.b0; omega), (Below.kept hb).heap h.b1 (by have := lt_of_block h.b1; omega), (Below.kept hb).heap h.b2 (by have := lt_of_block h.b2; omega), h.bel.trans (hb.mono h.bel.size)⟩

theorem WayS.start (w : World) (pe pn se sn : Int) : WayS w pe pn se sn (((w.alloc (.cells #[.int .u32 pe, .int .u32 pn] 30)).alloc (.cells #[.int .u32 se, .int .u32 sn] 30)).alloc (.cells chZ 33)) := by
  refine ⟨?_, ?_, ?_, (two_alloc _ _ _).alloc (by simp; omega) _⟩
  · rw [Below.heap_alloc _ _ _ (by simp; omega), Below.heap_alloc _ _ _ (by simp)]; exact heap_alloc_new _ _
  · rw [Below.heap_alloc _ _ _ (by simp)]
    have := heap_alloc_new (w.alloc (.cells #[.int .u32 pe, .int .u32 pn] 30)) (.cells #[.int .u32 se, .int .u32 sn] 30 (0, 0))
    simpa using this
  · have := heap_alloc_new ((w.alloc (.cells #[.int .u32 pe, .int .u32 pn] 30)).alloc (.cells #[.int .u32 se, .int .u32 sn] 30)) (.cells chZ 33 (0, 0))
    simpa using this

/-- Four cells of one's own, stored over. -/
theorem four_kept {w W : World} (b : Nat) (h : w.heap.size ≤ b) (hb : Below w.heap.size w W) (a0 a1 a2 a3 : Value) : Below w.heap.size w ((((W.setCell ⟨b, 0, none⟩ a0).setCell ⟨b, 1, none⟩ a1).setCell ⟨b, 2, none⟩ a2).setCell ⟨b, 3, none⟩ a3) :=
  hb.trans (((((Kept.refl W (fun k => k = b)).setCell ⟨b, 0, none⟩ a0 (fun _ => rfl)).setCell ⟨b, 1, none⟩ a1 (fun _ => rfl)).setCell ⟨b, 2, none⟩ a2 (fun _ => rfl)).setCell ⟨b, 3, none⟩ a3 (fun _ => rfl) |>.below hb.size (fun k e => by omega))

theorem WayS.kept {w : World} {pe pn se sn : Int} {W W' : World} {S : Nat → Prop} (h : WayS w pe pn se sn W) (hk : Kept W W' S) (hS : ∀ k, k ≤ w.heap.size + 2 → ¬ S k) : WayS w pe pn se sn W' :=
  ⟨hk.heap h.b0 (hS _ (by omega)), hk.heap h.b1 (hS _ (by omega)), hk.heap h.b2 (hS _ (by omega)), h.bel.trans (hk.below h.bel.size (fun k e => Nat.le_of_not_lt (fun h' => hS k (by omega) e)))⟩

/-- The choice that is made, and where the rest begins. -/
structure WayE (w : World) (pe pn se sn : Int) (y qf : Nat) (fe fn : Int) (nr : Bool) (W : World) : Prop where
  s : WayS w pe pn se sn W
  c : W.heap[y]? = some (.cells #[.int .i8 0, .int .u32 0, .int .u32 0, .bool nr] 33 (0, 0))
  f : W.heap[qf]? = some (.cells #[.int .u32 fe, .int .u32 fn] 30 (0, 0))
  hy : w.heap.size + 2 < y
  hq : y < qf

theorem WayE.later {w : World} {pe pn se sn : Int} {y qf : Nat} {fe fn : Int} {nr : Bool} {W W' : World} (h : WayE w pe pn se sn y qf fe fn nr W) (hb : Below W.heap.size W W') : WayE w pe pn se sn y qf fe fn nr W' :=
  ⟨h.s.later hb, (Below.kept hb).heap h.c (by have := lt_of_block h.c; omega), (Below.kept hb).heap h.f (by have := lt_of_block h.f; omega), h.hy, h.hq⟩

theorem WayE.held {w : World} {pe pn se sn : Int} {y qf : Nat} {fe fn : Int} {nr : Bool} {W : World} (h : WayE w pe pn se sn y qf fe fn nr W) :
    W.drew.cell? ⟨qf, 0, none⟩ = some (.int .u32 fe) ∧ W.drew.cell? ⟨qf, 1, none⟩ = some (.int .u32 fn) ∧ W.drew.cell? ⟨w.heap.size, 0, none⟩ = some (.int .u32 pe) ∧ W.drew.cell? ⟨w.heap.size, 1, none⟩ = some (.int .u32 pn) :=
  ⟨cellAt h.f rfl, cellAt h.f rfl, cellAt h.s.b0 rfl, cellAt h.s.b0 rfl⟩

theorem WayE.held1 {w : World} {pe pn se sn : Int} {y qf : Nat} {fe fn : Int} {nr : Bool} {W : World} (h : WayE w pe pn se sn y qf fe fn nr W) (a : Value) :
    (W.drew.setCell ⟨y, 0, none⟩ a).cell? ⟨qf, 0, none⟩ = some (.int .u32 fe) ∧ (W.drew.setCell ⟨y, 0, none⟩ a).cell? ⟨qf, 1, none⟩ = some (.int .u32 fn) ∧ (W.drew.setCell ⟨y, 0, none⟩ a).cell? ⟨w.heap.size, 0, none⟩ = some (.int .u32 pe) ∧ (W.drew.setCell ⟨y, 0, none⟩ a).cell? ⟨w.heap.size, 1, none⟩ = some (.int .u32 pn) := by
  have h1 := h.held
  have e1 := h.hy
  have e2 := h.hq
  refine ⟨?_, ?_, ?_, ?_⟩ <;> rw [World.cell?_setCell_far _ _ _ _ (by simp only; omega)]
  · exact h1.1
  · exact h1.2.1
  · exact h1.2.2.1
  · exact h1.2.2.2

theorem WayE.held3 {w : World} {pe pn se sn : Int} {y qf : Nat} {fe fn : Int} {nr : Bool} {W : World} (h : WayE w pe pn se sn y qf fe fn nr W) (a b c : Value) :
    (((W.drew.setCell ⟨y, 0, none⟩ a).setCell ⟨y, 1, none⟩ b).setCell ⟨y, 2, none⟩ c).cell? ⟨qf, 0, none⟩ = some (.int .u32 fe) ∧ (((W.drew.setCell ⟨y, 0, none⟩ a).setCell ⟨y, 1, none⟩ b).setCell ⟨y, 2, none⟩ c).cell? ⟨qf, 1, none⟩ = some (.int .u32 fn) ∧ (((W.drew.setCell ⟨y, 0, none⟩ a).setCell ⟨y, 1, none⟩ b).setCell ⟨y, 2, none⟩ c).cell? ⟨w.heap.size, 0, none⟩ = some (.int .u32 pe) ∧ (((W.drew.setCell ⟨y, 0, none⟩ a).setCell ⟨y, 1, none⟩ b).setCell ⟨y, 2, none⟩ c).cell? ⟨w.heap.size, 1, none⟩ = some (.int .u32 pn) := by
  have h1 := h.held1 a
  have e1 := h.hy
  have e2 := h.hq
  refine ⟨?_, ?_, ?_, ?_⟩ <;> rw [World.cell?_setCell_far _ _ _ _ (by simp only; omega), World.cell?_setCell_far _ _ _ _ (by simp only; omega)]
  · exact h1.1
  · exact h1.2.1
  · exact h1.2.2.1
  · exact h1.2.2.2

theorem WayE.end_ {w : World} {pe pn se sn : Int} {y qf : Nat} {fe fn : Int} {nr : Bool} {W : World} (h : WayE w pe pn se sn y qf fe fn nr W) (a b c a0 a1 a2 a3 : Value) :
    Below w.heap.size w ((((((((W.setCell ⟨y, 0, none⟩ a).setCell ⟨y, 1, none⟩ b).setCell ⟨y, 2, none⟩ c)).setCell ⟨w.heap.size + 2, 0, none⟩ a0).setCell ⟨w.heap.size + 2, 1, none⟩ a1).setCell ⟨w.heap.size + 2, 2, none⟩ a2).setCell ⟨w.heap.size + 2, 3, none⟩ a3).drew :=
  have e1 := h.hy
  below_drewN (four_kept _ (by omega) (h.s.bel.trans ((((Kept.refl W (fun k => k = y)).setCell ⟨y, 0, none⟩ a (fun _ => rfl)).setCell ⟨y, 1, none⟩ b (fun _ => rfl)).setCell ⟨y, 2, none⟩ c (fun _ => rfl) |>.below h.s.bel.size (fun k e => by omega))) a0 a1 a2 a3) 1

theorem sending_w (fe fn pe pn : Int) (m : Nat) (w : World) :
    Calls Tryd.prog 21 #[.bool (!decide (fe = pe) || !decide (fn = pn)), .bool (decide (0 < m))] w fun r w' => r = .returned (.int .i8 (sendW (decide (fe = pe ∧ fn = pn)) m)) ∧ w' = w := by
  refine (sending_any _ _ w).mono ?_
  rintro _ _ ⟨rfl, rfl⟩
  refine ⟨?_, rfl⟩
  unfold sendW
  by_cases h1 : fe = pe <;> by_cases h2 : fn = pn <;> by_cases h3 : m = 0 <;> simp [h1, h2, h3] <;> omega

set_option maxHeartbeats 1500000 in
theorem way_any (pe pn se sn : Int) (v : Value) (l : List TxD) (ca im : Int) (x : Nat) (w : World) (h : SeesTxs w v l) (hg : ∀ t ∈ l, t.good) (hn : Nam w) (hl : l.length ≤ 1000000) :
    Calls Tryd.prog 6 #[zx pe pn, zx se sn, v, .int .i64 ca, .int .i64 im, .float .f64 x] w fun r w' => r = .returned (.tuple #[(chW pe pn se sn l ca im x).val, .int .i64 (chW pe pn se sn l ca im x).err]) ∧ Below w.heap.size w w' := by
  obtain ⟨ao, cap, rfl, hlc, hcm⟩ := txs_shape h
  have H : Hid (SeesTxs w (.slice ao l.length cap) l ∧ (∀ t ∈ l, t.good) ∧ Nam w) := ⟨h, hg, hn⟩
  unfold maxLen at hcm
  obtain ⟨V, eV⟩ : ∃ V, V = (((w.alloc (.cells #[.int .u32 pe, .int .u32 pn] 30)).alloc (.cells #[.int .u32 se, .int .u32 sn] 30)).alloc (.cells chZ 33)) := ⟨_, rfl⟩
  have HV : Hid (WayS w pe pn se sn V) := by subst eV; exact WayS.start _ _ _ _ _
  have HE : Hid _ := eV
  obtain ⟨C, hC⟩ : ∃ C, C = chW pe pn se sn l ca im x := ⟨_, rfl⟩
  rw [← hC]
  have HC : Hid _ := hC
  clear h hg hn eV hC
  go_enter Tryd.func6, Tryd.ntmps6
  go_wp2_with fail
  rw [← HE.out]
  refine (rises_any se sn _ l V (H.out.1.below HV.out.bel (Nat.le_refl _)).zs).mono ?_
  rintro _ w1 ⟨rfl, b1⟩
  have H1 : Hid (WayS w pe pn se sn w1) := HV.out.later b1
  clear b1 HV HE
  have f0 : w1.frozen? ⟨w.heap.size + 2, 0, none⟩ = false := frozen_of_row _ _ _ _ _ H1.out.b2
  have f1 : w1.frozen? ⟨w.heap.size + 2, 1, none⟩ = false := frozen_of_row _ _ _ _ _ H1.out.b2
  have f2 : w1.frozen? ⟨w.heap.size + 2, 2, none⟩ = false := frozen_of_row _ _ _ _ _ H1.out.b2
  have f3 : w1.frozen? ⟨w.heap.size + 2, 3, none⟩ = false := frozen_of_row _ _ _ _ _ H1.out.b2
  have d0 : w1.cell? ⟨w.heap.size + 2, 0, none⟩ = some (.int .i8 0) := cellAt H1.out.b2 rfl
  have d1 : w1.cell? ⟨w.heap.size + 2, 1, none⟩ = some (.int .u32 0) := cellAt H1.out.b2 rfl
  have d2 : w1.cell? ⟨w.heap.size + 2, 2, none⟩ = some (.int .u32 0) := cellAt H1.out.b2 rfl
  have d3 : w1.cell? ⟨w.heap.size + 2, 3, none⟩ = some (.bool false) := cellAt H1.out.b2 rfl
  have HB4 : Hid (∀ a0 a1 a2 a3 : Value, Below w.heap.size w ((((w1.setCell ⟨w.heap.size + 2, 0, none⟩ a0).setCell ⟨w.heap.size + 2, 1, none⟩ a1).setCell ⟨w.heap.size + 2, 2, none⟩ a2).setCell ⟨w.heap.size + 2, 3, none⟩ a3)) := four_kept _ (by omega) H1.out.bel
  cases hr : rises se sn l with
  | false =>
    have HX : Hid (C = ⟨0, 0, 0, false, 1⟩) := by show C = _; rw [HC.out]; unfold chW; rw [if_pos (.inl hr)]
    clear HC hr
    go_wp2_with fail
    refine bodyPost_ret (v := .tuple #[.agg chZ, .int .i64 1]) (by simp [results, Tryd.results6, go_sem, d0, d1, d2, d3]) rfl ⟨by rw [HX.out], HB4.out _ _ _ _⟩
  | true =>
    have HR : Hid _ := hr
    clear hr
    by_cases h1 : ca < 0
    · have HX : Hid (C = ⟨0, 0, 0, false, 1⟩) := by show C = _; rw [HC.out]; unfold chW; rw [if_pos (.inr (.inl h1))]
      have h1' : decide (ca < 0) = true := decide_eq_true h1
      clear HC h1
      go_wp2_with fail
      refine bodyPost_ret (v := .tuple #[.agg chZ, .int .i64 1]) (by simp [results, Tryd.results6, go_sem, d0, d1, d2, d3]) rfl ⟨by rw [HX.out], HB4.out _ _ _ _⟩
    have h1' : decide (ca < 0) = false := decide_eq_false h1
    by_cases h2 : (l.length : Int) < ca
    · have HX : Hid (C = ⟨0, 0, 0, false, 1⟩) := by show C = _; rw [HC.out]; unfold chW; rw [if_pos (.inr (.inr (.inl h2)))]
      have h2' : decide ((l.length : Int) < ca) = true := decide_eq_true h2
      clear HC h1 h2
      go_wp2_with fail
      refine bodyPost_ret (v := .tuple #[.agg chZ, .int .i64 1]) (by simp [results, Tryd.results6, go_sem, d0, d1, d2, d3]) rfl ⟨by rw [HX.out], HB4.out _ _ _ _⟩
    have h2' : decide ((l.length : Int) < ca) = false := decide_eq_false h2
    by_cases h3 : im < 0
    · have HX : Hid (C = ⟨0, 0, 0, false, 1⟩) := by show C = _; rw [HC.out]; unfold chW; rw [if_pos (.inr (.inr (.inr h3)))]
      have h3' : decide (im < 0) = true := decide_eq_true h3
      clear HC h1 h2 h3
      go_wp2_with fail
      refine bodyPost_ret (v := .tuple #[.agg chZ, .int .i64 1]) (by simp [results, Tryd.results6, go_sem, d0, d1, d2, d3]) rfl ⟨by rw [HX.out], HB4.out _ _ _ _⟩
    have h3' : decide (im < 0) = false := decide_eq_false h3
    have HX : Hid (C = if zcmp pe pn se sn < 0 then ⟨4, 0, 0, false, 0⟩ else chN pe pn se sn l ca im x (upN pe pn l)) := by
      show C = _
      rw [HC.out]
      unfold chW
      rw [if_neg]
      rintro (h | h | h | h)
      · rw [HR.out] at h; cases h
      · exact h1 h
      · exact h2 h
      · exact h3 h
    have p0 : w1.cell? ⟨w.heap.size, 0, none⟩ = some (.int .u32 pe) := cellAt H1.out.b0 rfl
    have p1 : w1.cell? ⟨w.heap.size, 1, none⟩ = some (.int .u32 pn) := cellAt H1.out.b0 rfl
    have s0 : w1.cell? ⟨w.heap.size + 1, 0, none⟩ = some (.int .u32 se) := cellAt H1.out.b1 rfl
    have s1 : w1.cell? ⟨w.heap.size + 1, 1, none⟩ = some (.int .u32 sn) := cellAt H1.out.b1 rfl
    clear HC HB4 f0 f1 f2 f3 d0 d1 d2 d3
    go_wp2_with fail
    refine (compare_any pe pn se sn _).mono ?_
    rintro _ w2 ⟨rfl, b2⟩
    have H2 : Hid (WayS w pe pn se sn w2) := H1.out.later b2
    clear b2 H1 p0 p1 s0 s1
    have f0 : w2.frozen? ⟨w.heap.size + 2, 0, none⟩ = false := frozen_of_row _ _ _ _ _ H2.out.b2
    have f1 : w2.frozen? ⟨w.heap.size + 2, 1, none⟩ = false := frozen_of_row _ _ _ _ _ H2.out.b2
    have f2 : w2.frozen? ⟨w.heap.size + 2, 2, none⟩ = false := frozen_of_row _ _ _ _ _ H2.out.b2
    have f3 : w2.frozen? ⟨w.heap.size + 2, 3, none⟩ = false := frozen_of_row _ _ _ _ _ H2.out.b2
    have d0 : w2.cell? ⟨w.heap.size + 2, 0, none⟩ = some (.int .i8 0) := cellAt H2.out.b2 rfl
    have d1 : w2.cell? ⟨w.heap.size + 2, 1, none⟩ = some (.int .u32 0) := cellAt H2.out.b2 rfl
    have d2 : w2.cell? ⟨w.heap.size + 2, 2, none⟩ = some (.int .u32 0) := cellAt H2.out.b2 rfl
    have d3 : w2.cell? ⟨w.heap.size + 2, 3, none⟩ = some (.bool false) := cellAt H2.out.b2 rfl
    have p0 : w2.cell? ⟨w.heap.size, 0, none⟩ = some (.int .u32 pe) := cellAt H2.out.b0 rfl
    have p1 : w2.cell? ⟨w.heap.size, 1, none⟩ = some (.int .u32 pn) := cellAt H2.out.b0 rfl
    have s0 : w2.cell? ⟨w.heap.size + 1, 0, none⟩ = some (.int .u32 se) := cellAt H2.out.b1 rfl
    have s1 : w2.cell? ⟨w.heap.size + 1, 1, none⟩ = some (.int .u32 sn) := cellAt H2.out.b1 rfl
    have HB4 : Hid (∀ a0 a1 a2 a3 : Value, Below w.heap.size w ((((w2.setCell ⟨w.heap.size + 2, 0, none⟩ a0).setCell ⟨w.heap.size + 2, 1, none⟩ a1).setCell ⟨w.heap.size + 2, 2, none⟩ a2).setCell ⟨w.heap.size + 2, 3, none⟩ a3)) := four_kept _ (by omega) H2.out.bel
    by_cases hz : zcmp pe pn se sn < 0
    · have HY : Hid (C = ⟨4, 0, 0, false, 0⟩) := by show C = _; rw [HX.out, if_pos hz]
      have hz' : decide (zcmp pe pn se sn < 0) = true := decide_eq_true hz
      clear HX hz
      go_wp2_with fail
      refine bodyPost_ret (v := .tuple #[.agg #[.int .i8 4, .int .u32 0, .int .u32 0, .bool false], .int .i64 0]) (by simp [results, Tryd.results6, go_sem, d0, d1, d2, d3]) rfl ⟨by rw [HY.out], HB4.out _ _ _ _⟩
    have hz' : decide (zcmp pe pn se sn < 0) = false := decide_eq_false hz
    have HY : Hid (C = chN pe pn se sn l ca im x (upN pe pn l)) := by show C = _; rw [HX.out, if_neg hz]
    obtain ⟨y, hy⟩ : ∃ y, y = w2.heap.size := ⟨_, rfl⟩
    obtain ⟨U, hU⟩ : ∃ U, U = w2.alloc (.cells chZ 33) := ⟨_, rfl⟩
    have HU : Hid (WayS w pe pn se sn U ∧ U.heap[y]? = some (.cells chZ 33 (0, 0))) := by
      subst hU; subst hy
      exact ⟨H2.out.later (one_alloc _ _), heap_alloc_new _ _⟩
    have HUE : Hid (U = w2.alloc (.cells chZ 33) ∧ y = w2.heap.size) := ⟨hU, hy⟩
    have hyw : w.heap.size + 2 < y := by rw [hy]; exact lt_of_block H2.out.b2
    clear HX hz f0 f1 f2 f3 d0 d1 d2 d3 p0 p1 s0 s1 HB4
    have p0 : U.cell? ⟨w.heap.size, 0, none⟩ = some (.int .u32 pe) := cellAt HU.out.1.b0 rfl
    have p1 : U.cell? ⟨w.heap.size, 1, none⟩ = some (.int .u32 pn) := cellAt HU.out.1.b0 rfl
    have s0 : U.cell? ⟨w.heap.size + 1, 0, none⟩ = some (.int .u32 se) := cellAt HU.out.1.b1 rfl
    have s1 : U.cell? ⟨w.heap.size + 1, 1, none⟩ = some (.int .u32 sn) := cellAt HU.out.1.b1 rfl
    go_upto_region 6 with fail
    rw [← HUE.out.1, ← HUE.out.2]
    clear HUE hU hy H2
    go_wp2_with fail
    refine (chBehind_any pe pn se sn _ l U (H.out.1.below HU.out.1.bel (Nat.le_refl _)) HR.out hl).mono ?_
    rintro _ w3 ⟨u, rfl, hsu, b3⟩
    obtain ⟨k, hk⟩ : ∃ k, k = upN pe pn l := ⟨_, rfl⟩
    have hkl : k ≤ l.length := by rw [hk]; exact upN_le _ _ _
    rw [← hk] at HY hsu
    rw [← hk]
    obtain ⟨fe, hfe⟩ : ∃ fe, fe = lstE se l k := ⟨_, rfl⟩
    obtain ⟨fn, hfn⟩ : ∃ fn, fn = lstN sn l k := ⟨_, rfl⟩
    rw [← hfe, ← hfn]
    obtain ⟨ua, uc, rfl, huc, hum⟩ := txs_shape hsu
    rw [List.length_drop] at huc hsu ⊢
    obtain ⟨m, hm⟩ : ∃ m, m = l.length - k := ⟨_, rfl⟩
    rw [← hm] at huc hsu
    rw [← hm]
    unfold maxLen at hum
    obtain ⟨qf, hqf⟩ : ∃ qf, qf = w3.heap.size := ⟨_, rfl⟩
    obtain ⟨X, hX⟩ : ∃ X, X = w3.alloc (.cells #[.int .u32 fe, .int .u32 fn] 30) := ⟨_, rfl⟩
    have HXX : Hid (WayS w pe pn se sn X ∧ X.heap[y]? = some (.cells chZ 33 (0, 0)) ∧ X.heap[qf]? = some (.cells #[.int .u32 fe, .int .u32 fn] 30 (0, 0)) ∧ SeesTxs X (.slice ua m uc) (l.drop k)) := by
      have hy3 := (Below.kept b3).heap HU.out.2 (by have := lt_of_block HU.out.2; omega)
      subst hX; subst hqf
      exact ⟨(HU.out.1.later b3).later (one_alloc _ _), by rw [Below.heap_alloc _ _ _ (lt_of_block hy3)]; exact hy3, heap_alloc_new _ _, hsu.below (one_alloc _ _) (Nat.le_refl _)⟩
    have hqy : y < qf := by rw [hqf]; exact lt_of_block ((Below.kept b3).heap HU.out.2 (by have := lt_of_block HU.out.2; omega))
    have HXE : Hid (X = w3.alloc (.cells #[.int .u32 fe, .int .u32 fn] 30) ∧ qf = w3.heap.size) := ⟨hX, hqf⟩
    have HD : Hid (fe = lstE se l k ∧ fn = lstN sn l k ∧ m = l.length - k) := ⟨hfe, hfn, hm⟩
    have hm1 : m ≤ 1000000 := by omega
    clear hk hfe hfn hm hX hqf hsu b3 HU p0 p1 s0 s1
    go_upto_region 7 with fail
    rw [← HXE.out.1, ← HXE.out.2]
    clear HXE
    by_cases hnear : (m : Int) ≤ ca
    · have hnear' : decide ((m : Int) ≤ ca) = true := decide_eq_true hnear
      have HYY : Hid (C = ⟨sendW (decide (fe = pe ∧ fn = pn)) m, fe, fn, true, 0⟩) := by
        show C = _
        rw [HY.out]
        unfold chN
        rw [HD.out.1, HD.out.2.1, HD.out.2.2] at *
        rw [if_pos hnear]
      clear HY HD hnear
      have f3 : X.frozen? ⟨y, 3, none⟩ = false := frozen_of_row _ _ _ _ _ HXX.out.2.1
      have d3 : X.cell? ⟨y, 3, none⟩ = some (.bool false) := cellAt HXX.out.2.1 rfl
      obtain ⟨X1, hX1⟩ : ∃ X1, X1 = X.setCell ⟨y, 3, none⟩ (.bool true) := ⟨_, rfl⟩
      have HZ : Hid (WayE w pe pn se sn y qf fe fn true X1) := by
        have k1 : Kept X X1 (fun k => k = y) := by rw [hX1]; exact (Kept.refl X (fun k => k = y)).setCell ⟨y, 3, none⟩ (.bool true) (fun _ => rfl)
        refine ⟨HXX.out.1.kept k1 (fun k hk e => by omega), ?_, k1.heap HXX.out.2.2.1 (by omega), hyw, hqy⟩
        rw [hX1, heap_setR _ HXX.out.2.1]
        rfl
      have HX1 : Hid _ := hX1
      clear hX1 HXX
      go_upto_region 10 with fail
      rw [← HX1.out]
      clear f3 d3 HX1
      refine wp_region_held_drew (S := (fun W => W.cell? ⟨qf, 0, none⟩ = some (.int .u32 fe) ∧ W.cell? ⟨qf, 1, none⟩ = some (.int .u32 fn) ∧ W.cell? ⟨w.heap.size, 0, none⟩ = some (.int .u32 pe) ∧ W.cell? ⟨w.heap.size, 1, none⟩ = some (.int .u32 pn))) (by kernel_rfl) ?_ (fun hHeld => ?_)
      · exact HZ.out.held
      refine wpAnyH_take (i := 0) (oi := { dst := some 60, op := Op.load 30 (Operand.tmp 15), type := 30, pos := "choose.go:24", after := #[], guard := none }) (v := ?_) rfl (by kernel_rfl) (by kernel_rfl) (by kernel_rfl) (fun _ _ _ h => h) (Or.inl ⟨by rfl, ?_⟩) (by assumption) ?_
      rotate_left
      · (intro w hSw; (try dsimp only at hSw); go_simp) <;> with_reducible rfl
      try simp only [Act.put, List.setIfInBounds_toArray, List.set_cons_zero, List.set_cons_succ]
      refine wpAnyH_take (i := 1) (oi := { dst := some 61, op := Op.load 30 (Operand.tmp 6), type := 30, pos := "choose.go:24", after := #[], guard := none }) (v := ?_) rfl (by kernel_rfl) (by kernel_rfl) (by kernel_rfl) (fun _ _ _ h => h) (Or.inl ⟨by rfl, ?_⟩) (by assumption) ?_
      rotate_left
      · (intro w hSw; (try dsimp only at hSw); go_simp) <;> with_reducible rfl
      try simp only [Act.put, List.setIfInBounds_toArray, List.set_cons_zero, List.set_cons_succ]
      refine wpAnyH_take (i := 2) (oi := { dst := some 62, op := Op.binOp BinOp.neq 30 (Operand.tmp 60) (Operand.tmp 61) 30, type := 4, pos := "choose.go:24", after := #[{ on := 0, ground := Ground.data }, { on := 1, ground := Ground.data }], guard := none }) (v := .bool (!decide (fe = pe ∧ fn = pn))) rfl (by kernel_rfl) (by kernel_rfl) (by kernel_rfl) (fun _ _ _ h => h) (Or.inl ⟨by rfl, fun w' hSw => by go_simp; by_cases h1 : fe = pe <;> by_cases h2 : fn = pn <;> simp [h1, h2]⟩) (by assumption) ?_
      try simp only [Act.put, List.setIfInBounds_toArray, List.set_cons_zero, List.set_cons_succ]
      refine wpAnyH_take (i := 3) (oi := { dst := some 63, op := Op.move (Operand.tmp 16), type := 22, pos := "choose.go:24", after := #[], guard := none }) (v := ?_) rfl (by kernel_rfl) (by kernel_rfl) (by kernel_rfl) (fun _ _ _ h => h) (Or.inl ⟨by rfl, ?_⟩) (by assumption) ?_
      rotate_left
      · (intro w hSw; (try dsimp only at hSw); go_simp) <;> with_reducible rfl
      try simp only [Act.put, List.setIfInBounds_toArray, List.set_cons_zero, List.set_cons_succ]
      refine wpAnyH_take (i := 4) (oi := { dst := some 64, op := Op.call { callee := Callee.builtin Builtin.len, args := #[Operand.tmp 63], argTypes := #[22] }, type := 3, pos := "choose.go:24", after := #[{ on := 3, ground := Ground.data }], guard := none }) (v := ?_) rfl (by kernel_rfl) (by kernel_rfl) (by kernel_rfl) (fun _ _ _ h => h) (Or.inl ⟨by rfl, ?_⟩) (by assumption) ?_
      rotate_left
      · (intro w hSw; (try dsimp only at hSw); go_simp) <;> with_reducible rfl
      try simp only [Act.put, List.setIfInBounds_toArray, List.set_cons_zero, List.set_cons_succ]
      refine wpAnyH_take (i := 5) (oi := { dst := some 65, op := Op.binOp BinOp.gtr 3 (Operand.tmp 64) (Operand.const (Value.int IntKind.i64 0)) 3, type := 4, pos := "choose.go:24", after := #[{ on := 4, ground := Ground.data }], guard := none }) (v := ?_) rfl (by kernel_rfl) (by kernel_rfl) (by kernel_rfl) (fun _ _ _ h => h) (Or.inl ⟨by rfl, ?_⟩) (by assumption) ?_
      rotate_left
      · (intro w hSw; (try dsimp only at hSw); go_simp) <;> with_reducible rfl
      try simp only [Act.put, List.setIfInBounds_toArray, List.set_cons_zero, List.set_cons_succ]
      refine wpAnyH_take (i := 7) (oi := { dst := some 67, op := Op.load 30 (Operand.tmp 15), type := 30, pos := "choose.go:24", after := #[{ on := 9, ground := Ground.gcOnly Departure.lateStores }], guard := none }) (v := ?_) rfl (by kernel_rfl) (by kernel_rfl) (by kernel_rfl) (fun _ _ _ h => h) (Or.inl ⟨by rfl, ?_⟩) (by assumption) ?_
      rotate_left
      · (intro w hSw; (try dsimp only at hSw); go_simp) <;> with_reducible rfl
      try simp only [Act.put, List.setIfInBounds_toArray, List.set_cons_zero, List.set_cons_succ]
      refine wpAnyH_ready (rs := [6]) (by kernel_rfl) (by simp) ?_
      refine AllReadyH.cons (o := { dst := some 66, op := Op.call { callee := Callee.value (Operand.func 21), args := #[Operand.tmp 62, Operand.tmp 65], argTypes := #[4, 4] }, type := 31, pos := "choose.go:24", after := #[{ on := 2, ground := Ground.data }, { on := 5, ground := Ground.data }], guard := none }) rfl (fun K hK => ?_) AllReadyH.nil
      go_simp
      refine (sending_w fe fn pe pn m _).mono ?_
      rintro _ _ ⟨rfl, rfl⟩
      generalize sendW (decide (fe = pe ∧ fn = pn)) m = sw at *
      refine hK.out _ _ HZ.out.held (fun hHeld => ?_)
      have fy0 : X1.frozen? ⟨y, 0, none⟩ = false := frozen_of_row _ _ _ _ _ HZ.out.c
      have fy1 : X1.frozen? ⟨y, 1, none⟩ = false := frozen_of_row _ _ _ _ _ HZ.out.c
      have fy2 : X1.frozen? ⟨y, 2, none⟩ = false := frozen_of_row _ _ _ _ _ HZ.out.c
      have dy0 : X1.cell? ⟨y, 0, none⟩ = some (.int .i8 0) := cellAt HZ.out.c rfl
      have dy1 : X1.cell? ⟨y, 1, none⟩ = some (.int .u32 0) := cellAt HZ.out.c rfl
      have dy2 : X1.cell? ⟨y, 2, none⟩ = some (.int .u32 0) := cellAt HZ.out.c rfl
      clear hK K
      refine wpAnyH_take (i := 8) (oi := { dst := some 68, op := Op.fieldAddr 33 (Operand.tmp 14) 0, type := 0, pos := "choose.go:24", after := #[{ on := 0, ground := Ground.phase }, { on := 1, ground := Ground.phase }, { on := 2, ground := Ground.phase }, { on := 3, ground := Ground.phase }, { on := 4, ground := Ground.phase }, { on := 5, ground := Ground.phase }, { on := 6, ground := Ground.phase }, { on := 7, ground := Ground.textOnly Departure.lateStores }], guard := none }) (v := ?_) rfl (by kernel_rfl) (by kernel_rfl) (by kernel_rfl) (fun _ _ _ h => h) (Or.inl ⟨by rfl, ?_⟩) (by assumption) ?_
      rotate_left
      · (intro w hSw; (try dsimp only at hSw); go_simp) <;> with_reducible rfl
      try simp only [Act.put, List.setIfInBounds_toArray, List.set_cons_zero, List.set_cons_succ]
      refine wpAnyH_ready (rs := [9]) (by kernel_rfl) (by simp) ?_
      refine AllReadyH.cons (o := { dst := none, op := Op.store 31 (Operand.tmp 68) (Operand.tmp 66), type := 0, pos := "choose.go:24", after := #[{ on := 8, ground := Ground.data }, { on := 6, ground := Ground.data }, { on := 6, ground := Ground.chain }, { on := 0, ground := Ground.phase }, { on := 1, ground := Ground.phase }, { on := 2, ground := Ground.phase }, { on := 3, ground := Ground.phase }, { on := 4, ground := Ground.phase }, { on := 5, ground := Ground.phase }, { on := 6, ground := Ground.phase }, { on := 7, ground := Ground.textOnly Departure.lateStores }], guard := none }) rfl (fun K hK => ?_) AllReadyH.nil
      go_simp
      refine hK.out _ _ (HZ.out.held1 _) (fun hHeld => ?_)
      clear hK K
      refine wpAnyH_take (i := 10) (oi := { dst := some 69, op := Op.fieldAddr 33 (Operand.tmp 14) 1, type := 0, pos := "choose.go:24", after := #[{ on := 0, ground := Ground.phase }, { on := 1, ground := Ground.phase }, { on := 2, ground := Ground.phase }, { on := 3, ground := Ground.phase }, { on := 4, ground := Ground.phase }, { on := 5, ground := Ground.phase }, { on := 6, ground := Ground.phase }, { on := 7, ground := Ground.phase }, { on := 8, ground := Ground.phase }, { on := 9, ground := Ground.phase }], guard := none }) (v := ?_) rfl (by kernel_rfl) (by kernel_rfl) (by kernel_rfl) (fun _ _ _ h => h) (Or.inl ⟨by rfl, ?_⟩) (by assumption) ?_
      rotate_left
      · (intro w hSw; (try dsimp only at hSw); go_simp) <;> with_reducible rfl
      try simp only [Act.put, List.setIfInBounds_toArray, List.set_cons_zero, List.set_cons_succ]
      refine wpAnyH_ready (rs := [11]) (by kernel_rfl) (by simp) ?_
      refine AllReadyH.cons (o := { dst := none, op := Op.store 30 (Operand.tmp 69) (Operand.tmp 67), type := 0, pos := "choose.go:24", after := #[{ on := 10, ground := Ground.data }, { on := 7, ground := Ground.data }, { on := 9, ground := Ground.chain }, { on := 0, ground := Ground.phase }, { on := 1, ground := Ground.phase }, { on := 2, ground := Ground.phase }, { on := 3, ground := Ground.phase }, { on := 4, ground := Ground.phase }, { on := 5, ground := Ground.phase }, { on := 6, ground := Ground.phase }, { on := 7, ground := Ground.phase }, { on := 8, ground := Ground.phase }, { on := 9, ground := Ground.phase }], guard := none }) rfl (fun K hK => ?_) AllReadyH.nil
      go_simp
      refine hK.out _ _ (HZ.out.held3 _ _ _) (fun hHeld => ?_)
      clear hK K
      refine wpAnyH_done (by kernel_rfl) ?_ _
      clear hHeld
      have dy3 : X1.cell? ⟨y, 3, none⟩ = some (.bool true) := cellAt HZ.out.c rfl
      have g0 : X1.frozen? ⟨w.heap.size + 2, 0, none⟩ = false := frozen_of_row _ _ _ _ _ HZ.out.s.b2
      have g1 : X1.frozen? ⟨w.heap.size + 2, 1, none⟩ = false := frozen_of_row _ _ _ _ _ HZ.out.s.b2
      have g2 : X1.frozen? ⟨w.heap.size + 2, 2, none⟩ = false := frozen_of_row _ _ _ _ _ HZ.out.s.b2
      have g3 : X1.frozen? ⟨w.heap.size + 2, 3, none⟩ = false := frozen_of_row _ _ _ _ _ HZ.out.s.b2
      have c0 : X1.cell? ⟨w.heap.size + 2, 0, none⟩ = some (.int .i8 0) := cellAt HZ.out.s.b2 rfl
      have c1 : X1.cell? ⟨w.heap.size + 2, 1, none⟩ = some (.int .u32 0) := cellAt HZ.out.s.b2 rfl
      have c2 : X1.cell? ⟨w.heap.size + 2, 2, none⟩ = some (.int .u32 0) := cellAt HZ.out.s.b2 rfl
      have c3 : X1.cell? ⟨w.heap.size + 2, 3, none⟩ = some (.bool false) := cellAt HZ.out.s.b2 rfl
      have hyn : ¬ y = w.heap.size + 2 := by omega
      have hyn' : ¬ w.heap.size + 2 = y := by omega
      go_wp2_with fail
      refine bodyPost_ret (v := .tuple #[.agg #[.int .i8 sw, .int .u32 fe, .int .u32 fn, .bool true], .int .i64 0]) (by simp [results, Tryd.results6, go_sem, c0, c1, c2, c3]) rfl ⟨by rw [HYY.out], HZ.out.end_ _ _ _ _ _ _ _⟩
    · have hnear' : decide ((m : Int) ≤ ca) = false := decide_eq_false hnear
      have HND : Hid (Nam X ∧ (∀ t ∈ l.drop k, t.good) ∧ (l.drop k).length ≤ 1000000) := ⟨H.out.2.2.below HXX.out.1.bel H.out.2.2.lt, fun t ht => H.out.2.1 t (List.mem_of_mem_drop ht), by rw [List.length_drop]; omega⟩
      have HYY : Hid (C = if undB (szL (l.drop k)) im x then ⟨sendW (decide (fe = pe ∧ fn = pn)) m, fe, fn, false, 0⟩ else ⟨4, 0, 0, false, 0⟩) := by
        show C = _
        rw [HY.out]
        unfold chN
        rw [HD.out.1, HD.out.2.1, HD.out.2.2] at *
        rw [if_neg hnear]
      clear HY HD hnear
      go_wp2_with fail
      refine (size_any _ (l.drop k) X HXX.out.2.2.2 HND.out.2.1 HND.out.1 HND.out.2.2).mono ?_
      rintro _ w4 ⟨rfl, b4⟩
      have HZ4 : Hid (WayE w pe pn se sn y qf fe fn false w4) := ((⟨HXX.out.1, HXX.out.2.1, HXX.out.2.2.1, hyw, hqy⟩ : WayE w pe pn se sn y qf fe fn false X)).later b4
      clear b4 HXX HND
      go_wp2_with fail
      refine (under_any _ im x _).mono ?_
      rintro _ X1 ⟨rfl, b5⟩
      have HZ : Hid (WayE w pe pn se sn y qf fe fn false X1) := HZ4.out.later b5
      clear b5 HZ4
      cases hu : undB (szL (l.drop k)) im x with
      | true =>
        rw [hu, if_pos rfl] at HYY
        clear hu
        go_upto_region 10 with fail
        refine wp_region_held_drew (S := (fun W => W.cell? ⟨qf, 0, none⟩ = some (.int .u32 fe) ∧ W.cell? ⟨qf, 1, none⟩ = some (.int .u32 fn) ∧ W.cell? ⟨w.heap.size, 0, none⟩ = some (.int .u32 pe) ∧ W.cell? ⟨w.heap.size, 1, none⟩ = some (.int .u32 pn))) (by kernel_rfl) ?_ (fun hHeld => ?_)
        · exact HZ.out.held
        refine wpAnyH_take (i := 0) (oi := { dst := some 60, op := Op.load 30 (Operand.tmp 15), type := 30, pos := "choose.go:24", after := #[], guard := none }) (v := ?_) rfl (by kernel_rfl) (by kernel_rfl) (by kernel_rfl) (fun _ _ _ h => h) (Or.inl ⟨by rfl, ?_⟩) (by assumption) ?_
        rotate_left
        · (intro w hSw; (try dsimp only at hSw); go_simp) <;> with_reducible rfl
        try simp only [Act.put, List.setIfInBounds_toArray, List.set_cons_zero, List.set_cons_succ]
        refine wpAnyH_take (i := 1) (oi := { dst := some 61, op := Op.load 30 (Operand.tmp 6), type := 30, pos := "choose.go:24", after := #[], guard := none }) (v := ?_) rfl (by kernel_rfl) (by kernel_rfl) (by kernel_rfl) (fun _ _ _ h => h) (Or.inl ⟨by rfl, ?_⟩) (by assumption) ?_
        rotate_left
        · (intro w hSw; (try dsimp only at hSw); go_simp) <;> with_reducible rfl
        try simp only [Act.put, List.setIfInBounds_toArray, List.set_cons_zero, List.set_cons_succ]
        refine wpAnyH_take (i := 2) (oi := { dst := some 62, op := Op.binOp BinOp.neq 30 (Operand.tmp 60) (Operand.tmp 61) 30, type := 4, pos := "choose.go:24", after := #[{ on := 0, ground := Ground.data }, { on := 1, ground := Ground.data }], guard := none }) (v := .bool (!decide (fe = pe ∧ fn = pn))) rfl (by kernel_rfl) (by kernel_rfl) (by kernel_rfl) (fun _ _ _ h => h) (Or.inl ⟨by rfl, fun w' hSw => by go_simp; by_cases h1 : fe = pe <;> by_cases h2 : fn = pn <;> simp [h1, h2]⟩) (by assumption) ?_
        try simp only [Act.put, List.setIfInBounds_toArray, List.set_cons_zero, List.set_cons_succ]
        refine wpAnyH_take (i := 3) (oi := { dst := some 63, op := Op.move (Operand.tmp 16), type := 22, pos := "choose.go:24", after := #[], guard := none }) (v := ?_) rfl (by kernel_rfl) (by kernel_rfl) (by kernel_rfl) (fun _ _ _ h => h) (Or.inl ⟨by rfl, ?_⟩) (by assumption) ?_
        rotate_left
        · (intro w hSw; (try dsimp only at hSw); go_simp) <;> with_reducible rfl
        try simp only [Act.put, List.setIfInBounds_toArray, List.set_cons_zero, List.set_cons_succ]
        refine wpAnyH_take (i := 4) (oi := { dst := some 64, op := Op.call { callee := Callee.builtin Builtin.len, args := #[Operand.tmp 63], argTypes := #[22] }, type := 3, pos := "choose.go:24", after := #[{ on := 3, ground := Ground.data }], guard := none }) (v := ?_) rfl (by kernel_rfl) (by kernel_rfl) (by kernel_rfl) (fun _ _ _ h => h) (Or.inl ⟨by rfl, ?_⟩) (by assumption) ?_
        rotate_left
        · (intro w hSw; (try dsimp only at hSw); go_simp) <;> with_reducible rfl
        try simp only [Act.put, List.setIfInBounds_toArray, List.set_cons_zero, List.set_cons_succ]
        refine wpAnyH_take (i := 5) (oi := { dst := some 65, op := Op.binOp BinOp.gtr 3 (Operand.tmp 64) (Operand.const (Value.int IntKind.i64 0)) 3, type := 4, pos := "choose.go:24", after := #[{ on := 4, ground := Ground.data }], guard := none }) (v := ?_) rfl (by kernel_rfl) (by kernel_rfl) (by kernel_rfl) (fun _ _ _ h => h) (Or.inl ⟨by rfl, ?_⟩) (by assumption) ?_
        rotate_left
        · (intro w hSw; (try dsimp only at hSw); go_simp) <;> with_reducible rfl
        try simp only [Act.put, List.setIfInBounds_toArray, List.set_cons_zero, List.set_cons_succ]
        refine wpAnyH_take (i := 7) (oi := { dst := some 67, op := Op.load 30 (Operand.tmp 15), type := 30, pos := "choose.go:24", after := #[{ on := 9, ground := Ground.gcOnly Departure.lateStores }], guard := none }) (v := ?_) rfl (by kernel_rfl) (by kernel_rfl) (by kernel_rfl) (fun _ _ _ h => h) (Or.inl ⟨by rfl, ?_⟩) (by assumption) ?_
        rotate_left
        · (intro w hSw; (try dsimp only at hSw); go_simp) <;> with_reducible rfl
        try simp only [Act.put, List.setIfInBounds_toArray, List.set_cons_zero, List.set_cons_succ]
        refine wpAnyH_ready (rs := [6]) (by kernel_rfl) (by simp) ?_
        refine AllReadyH.cons (o := { dst := some 66, op := Op.call { callee := Callee.value (Operand.func 21), args := #[Operand.tmp 62, Operand.tmp 65], argTypes := #[4, 4] }, type := 31, pos := "choose.go:24", after := #[{ on := 2, ground := Ground.data }, { on := 5, ground := Ground.data }], guard := none }) rfl (fun K hK => ?_) AllReadyH.nil
        go_simp
        refine (sending_w fe fn pe pn m _).mono ?_
        rintro _ _ ⟨rfl, rfl⟩
        generalize sendW (decide (fe = pe ∧ fn = pn)) m = sw at *
        refine hK.out _ _ HZ.out.held (fun hHeld => ?_)
        have fy0 : X1.frozen? ⟨y, 0, none⟩ = false := frozen_of_row _ _ _ _ _ HZ.out.c
        have fy1 : X1.frozen? ⟨y, 1, none⟩ = false := frozen_of_row _ _ _ _ _ HZ.out.c
        have fy2 : X1.frozen? ⟨y, 2, none⟩ = false := frozen_of_row _ _ _ _ _ HZ.out.c
        have dy0 : X1.cell? ⟨y, 0, none⟩ = some (.int .i8 0) := cellAt HZ.out.c rfl
        have dy1 : X1.cell? ⟨y, 1, none⟩ = some (.int .u32 0) := cellAt HZ.out.c rfl
        have dy2 : X1.cell? ⟨y, 2, none⟩ = some (.int .u32 0) := cellAt HZ.out.c rfl
        clear hK K
        refine wpAnyH_take (i := 8) (oi := { dst := some 68, op := Op.fieldAddr 33 (Operand.tmp 14) 0, type := 0, pos := "choose.go:24", after := #[{ on := 0, ground := Ground.phase }, { on := 1, ground := Ground.phase }, { on := 2, ground := Ground.phase }, { on := 3, ground := Ground.phase }, { on := 4, ground := Ground.phase }, { on := 5, ground := Ground.phase }, { on := 6, ground := Ground.phase }, { on := 7, ground := Ground.textOnly Departure.lateStores }], guard := none }) (v := ?_) rfl (by kernel_rfl) (by kernel_rfl) (by kernel_rfl) (fun _ _ _ h => h) (Or.inl ⟨by rfl, ?_⟩) (by assumption) ?_
        rotate_left
        · (intro w hSw; (try dsimp only at hSw); go_simp) <;> with_reducible rfl
        try simp only [Act.put, List.setIfInBounds_toArray, List.set_cons_zero, List.set_cons_succ]
        refine wpAnyH_ready (rs := [9]) (by kernel_rfl) (by simp) ?_
        refine AllReadyH.cons (o := { dst := none, op := Op.store 31 (Operand.tmp 68) (Operand.tmp 66), type := 0, pos := "choose.go:24", after := #[{ on := 8, ground := Ground.data }, { on := 6, ground := Ground.data }, { on := 6, ground := Ground.chain }, { on := 0, ground := Ground.phase }, { on := 1, ground := Ground.phase }, { on := 2, ground := Ground.phase }, { on := 3, ground := Ground.phase }, { on := 4, ground := Ground.phase }, { on := 5, ground := Ground.phase }, { on := 6, ground := Ground.phase }, { on := 7, ground := Ground.textOnly Departure.lateStores }], guard := none }) rfl (fun K hK => ?_) AllReadyH.nil
        go_simp
        refine hK.out _ _ (HZ.out.held1 _) (fun hHeld => ?_)
        clear hK K
        refine wpAnyH_take (i := 10) (oi := { dst := some 69, op := Op.fieldAddr 33 (Operand.tmp 14) 1, type := 0, pos := "choose.go:24", after := #[{ on := 0, ground := Ground.phase }, { on := 1, ground := Ground.phase }, { on := 2, ground := Ground.phase }, { on := 3, ground := Ground.phase }, { on := 4, ground := Ground.phase }, { on := 5, ground := Ground.phase }, { on := 6, ground := Ground.phase }, { on := 7, ground := Ground.phase }, { on := 8, ground := Ground.phase }, { on := 9, ground := Ground.phase }], guard := none }) (v := ?_) rfl (by kernel_rfl) (by kernel_rfl) (by kernel_rfl) (fun _ _ _ h => h) (Or.inl ⟨by rfl, ?_⟩) (by assumption) ?_
        rotate_left
        · (intro w hSw; (try dsimp only at hSw); go_simp) <;> with_reducible rfl
        try simp only [Act.put, List.setIfInBounds_toArray, List.set_cons_zero, List.set_cons_succ]
        refine wpAnyH_ready (rs := [11]) (by kernel_rfl) (by simp) ?_
        refine AllReadyH.cons (o := { dst := none, op := Op.store 30 (Operand.tmp 69) (Operand.tmp 67), type := 0, pos := "choose.go:24", after := #[{ on := 10, ground := Ground.data }, { on := 7, ground := Ground.data }, { on := 9, ground := Ground.chain }, { on := 0, ground := Ground.phase }, { on := 1, ground := Ground.phase }, { on := 2, ground := Ground.phase }, { on := 3, ground := Ground.phase }, { on := 4, ground := Ground.phase }, { on := 5, ground := Ground.phase }, { on := 6, ground := Ground.phase }, { on := 7, ground := Ground.phase }, { on := 8, ground := Ground.phase }, { on := 9, ground := Ground.phase }], guard := none }) rfl (fun K hK => ?_) AllReadyH.nil
        go_simp
        refine hK.out _ _ (HZ.out.held3 _ _ _) (fun hHeld => ?_)
        clear hK K
        refine wpAnyH_done (by kernel_rfl) ?_ _
        clear hHeld
        have dy3 : X1.cell? ⟨y, 3, none⟩ = some (.bool false) := cellAt HZ.out.c rfl
        have g0 : X1.frozen? ⟨w.heap.size + 2, 0, none⟩ = false := frozen_of_row _ _ _ _ _ HZ.out.s.b2
        have g1 : X1.frozen? ⟨w.heap.size + 2, 1, none⟩ = false := frozen_of_row _ _ _ _ _ HZ.out.s.b2
        have g2 : X1.frozen? ⟨w.heap.size + 2, 2, none⟩ = false := frozen_of_row _ _ _ _ _ HZ.out.s.b2
        have g3 : X1.frozen? ⟨w.heap.size + 2, 3, none⟩ = false := frozen_of_row _ _ _ _ _ HZ.out.s.b2
        have c0 : X1.cell? ⟨w.heap.size + 2, 0, none⟩ = some (.int .i8 0) := cellAt HZ.out.s.b2 rfl
        have c1 : X1.cell? ⟨w.heap.size + 2, 1, none⟩ = some (.int .u32 0) := cellAt HZ.out.s.b2 rfl
        have c2 : X1.cell? ⟨w.heap.size + 2, 2, none⟩ = some (.int .u32 0) := cellAt HZ.out.s.b2 rfl
        have c3 : X1.cell? ⟨w.heap.size + 2, 3, none⟩ = some (.bool false) := cellAt HZ.out.s.b2 rfl
        have hyn : ¬ y = w.heap.size + 2 := by omega
        have hyn' : ¬ w.heap.size + 2 = y := by omega
        go_wp2_with fail
        refine bodyPost_ret (v := .tuple #[.agg #[.int .i8 sw, .int .u32 fe, .int .u32 fn, .bool false], .int .i64 0]) (by simp [results, Tryd.results6, go_sem, c0, c1, c2, c3]) rfl ⟨by rw [HYY.out], HZ.out.end_ _ _ _ _ _ _ _⟩
      | false =>
        rw [hu, if_neg (by decide)] at HYY
        clear hu
        have f0 : X1.frozen? ⟨y, 0, none⟩ = false := frozen_of_row _ _ _ _ _ HZ.out.c
        have d0 : X1.cell? ⟨y, 0, none⟩ = some (.int .i8 0) := cellAt HZ.out.c rfl
        have d1 : X1.cell? ⟨y, 1, none⟩ = some (.int .u32 0) := cellAt HZ.out.c rfl
        have d2 : X1.cell? ⟨y, 2, none⟩ = some (.int .u32 0) := cellAt HZ.out.c rfl
        have d3 : X1.cell? ⟨y, 3, none⟩ = some (.bool false) := cellAt HZ.out.c rfl
        have g0 : X1.frozen? ⟨w.heap.size + 2, 0, none⟩ = false := frozen_of_row _ _ _ _ _ HZ.out.s.b2
        have g1 : X1.frozen? ⟨w.heap.size + 2, 1, none⟩ = false := frozen_of_row _ _ _ _ _ HZ.out.s.b2
        have g2 : X1.frozen? ⟨w.heap.size + 2, 2, none⟩ = false := frozen_of_row _ _ _ _ _ HZ.out.s.b2
        have g3 : X1.frozen? ⟨w.heap.size + 2, 3, none⟩ = false := frozen_of_row _ _ _ _ _ HZ.out.s.b2
        have c0 : X1.cell? ⟨w.heap.size + 2, 0, none⟩ = some (.int .i8 0) := cellAt HZ.out.s.b2 rfl
        have c1 : X1.cell? ⟨w.heap.size + 2, 1, none⟩ = some (.int .u32 0) := cellAt HZ.out.s.b2 rfl
        have c2 : X1.cell? ⟨w.heap.size + 2, 2, none⟩ = some (.int .u32 0) := cellAt HZ.out.s.b2 rfl
        have c3 : X1.cell? ⟨w.heap.size + 2, 3, none⟩ = some (.bool false) := cellAt HZ.out.s.b2 rfl
        have hyn : ¬ y = w.heap.size + 2 := by omega
        have hyn' : ¬ w.heap.size + 2 = y := by omega
        have HBE : Hid (∀ a a0 a1 a2 a3 : Value, Below w.heap.size w (((((X1.setCell ⟨y, 0, none⟩ a).setCell ⟨w.heap.size + 2, 0, none⟩ a0).setCell ⟨w.heap.size + 2, 1, none⟩ a1).setCell ⟨w.heap.size + 2, 2, none⟩ a2).setCell ⟨w.heap.size + 2, 3, none⟩ a3)) := fun a a0 a1 a2 a3 =>
          four_kept _ (by omega) (HZ.out.s.bel.trans ((Kept.refl X1 (fun k => k = y)).setCell ⟨y, 0, none⟩ a (fun _ => rfl) |>.below HZ.out.s.bel.size (fun k e => by omega))) a0 a1 a2 a3
        go_wp2_with fail

        refine bodyPost_ret (v := .tuple #[.agg #[.int .i8 4, .int .u32 0, .int .u32 0, .bool false], .int .i64 0]) (by simp [results, Tryd.results6, go_sem, c0, c1, c2, c3]) rfl ⟨by rw [HYY.out], HBE.out _ _ _ _ _⟩
end Go.Proofs.YtljghfglabgckaaDoor
