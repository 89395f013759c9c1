/- The statements' Bag: AddRequest and AddRequests, for a request whose lists lie in blocks of their own. -/
import Derived.Test.YtoeialngbbfoeaaGreatDoorBqCJ
namespace Go.Proofs.YtoeialngbbfoeaaGreatDoor
open Go.RowKit Go.Shelf
set_option maxRecDepth 8000
set_option linter.unusedVariables false
set_option linter.unusedSimpArgs false

/-- What AddRequest does with a request of its own blocks between lo and hi. -/
def AddsQ (g B lo hi : Nat) (fn : Nat) (v : Value) (L : QL) (V : QV) (w : World) : Prop :=
  Calls Tryz.prog fn #[.pointer (some ⟨g, 0, none⟩), v] w fun e w' => e = .returned (.tuple #[]) ∧ ∃ V' D, BagQ w' g V' (L.add D).cut B ∧ BagStep w w' g V V' ∧ LiesQ w' lo hi D

/-- A Bag whose lists lie elsewhere than between lo and hi. -/
structure FarQ (w : World) (g B lo hi : Nat) (V : QV) (L : QL) : Prop where
  bag : BagQ w g V L.cut B
  base : B ≤ w.heap.size
  top : hi ≤ w.heap.size
  far : ∀ k, lo ≤ k → k < hi → k ≠ g ∧ ¬ V.own k

theorem FarQ.step {w w' : World} {g B lo hi : Nat} {V V' : QV} {L L' : QL} (h : FarQ w g B lo hi V L) (hs : BagStep w w' g V V') (hb : BagQ w' g V' L'.cut B) : FarQ w' g B lo hi V' L' :=
  ⟨hb, Nat.le_trans h.base hs.kept.size, Nat.le_trans h.top hs.kept.size, fun k h1 h2 => ⟨(h.far k h1 h2).1, fun e => by
    have ht := h.top
    rcases hs.own k e with e | e
    · exact (h.far k h1 h2).2 e
    · omega⟩⟩
theorem FarQ.mono {w : World} {g B lo hi lo' hi' : Nat} {V : QV} {L : QL} (h : FarQ w g B lo hi V L) (h1 : lo ≤ lo') (h2 : hi' ≤ hi) : FarQ w g B lo' hi' V L := ⟨h.bag, h.base, Nat.le_trans h2 h.top, fun k k1 k2 => h.far k (by omega) (by omega)⟩
theorem FarQ.not {w : World} {g B lo hi : Nat} {V : QV} {L : QL} (h : FarQ w g B lo hi V L) {k : Nat} (h1 : lo ≤ k) (h2 : k < hi) : ¬ (k = g ∨ V.own k) := fun e => e.elim (h.far k h1 h2).1 (h.far k h1 h2).2
theorem FarQ.alloc {w : World} {g B lo hi : Nat} {V : QV} {L : QL} (h : FarQ w g B lo hi V L) (o : Obj) : FarQ (w.alloc o) g B lo hi V L := by
  have hk : Kept w (w.alloc o) (fun _ => False) := (Kept.refl w _).alloc o
  exact ⟨h.bag.kept hk (fun e => e) (fun _ _ e => e), Nat.le_trans h.base hk.size, Nat.le_trans h.top hk.size, h.far⟩

theorem addsQ_step {w w' w'' : World} {g B lo m hi : Nat} {V V1 V2 : QV} {L D1 D2 : QL} (hf : FarQ w g B lo hi V L) (h1 : lo ≤ m) (h2 : m ≤ hi) (s1 : BagStep w w' g V V1) (l1 : LiesQ w' lo m D1) (f1 : FarQ w' g B lo hi V1 (L.add D1))
    (b2 : BagQ w'' g V2 ((L.add D1).add D2).cut B) (s2 : BagStep w' w'' g V1 V2) (l2 : LiesQ w'' m hi D2) : FarQ w'' g B lo hi V2 (L.add (D1.add D2)) ∧ BagStep w w'' g V V2 ∧ LiesQ w'' lo hi (D1.add D2) := by
  refine ⟨?_, s1.trans s2, (l1.kept s2.kept (fun k k1 k2 => f1.not k1 (by omega))).add l2 h1 h2⟩
  rw [← QL.add_add]
  exact f1.step s2 b2

set_option maxHeartbeats 2000000 in
theorem addRequests_of (g B : Nat) {n : Nat} (ops : Fin n → Rq) (oc : Fin n → List Value) (M : Nat → Nat) (m3 hi : Nat) (ov : Value) (fl : List Value) (V : QV) (L : QL) (w : World)
    (hI : ∀ (i : Fin n) (w : World) (V : QV) (L : QL), FarQ w g B (M i.1) (M (i.1 + 1)) V L → OwnQ w (M i.1) (M (i.1 + 1)) (oc i) (ops i) → AddsQ g B (M i.1) (M (i.1 + 1)) 11 (.agg (oc i).toArray) L V w)
    (hF : FarQ w g B m3 hi V L) (ho : w.ownsRow m3 33 11 ov n fl) (hf : ∀ (i : Fin n) j, j < 11 → fl[i.1 * 11 + j]? = some ((oc i).getD j (.bool false))) (hown : ∀ i : Fin n, OwnQ w (M i.1) (M (i.1 + 1)) (oc i) (ops i)) (om : ∀ i, i < n → M i ≤ M (i + 1)) (hb : m3 ≤ M 0 ∧ M n ≤ hi) (hbo : ∀ k, ov.ownBlock = some k → k < M 0) (hn : n ≤ 1000000000) :
    AddsQ g B m3 hi 29 ov L V w := by
  have H : Hid (w.ownsRow m3 33 11 ov n fl ∧ (∀ (i : Fin n) j, j < 11 → fl[i.1 * 11 + j]? = some ((oc i).getD j (.bool false))) ∧ (∀ i : Fin n, OwnQ w (M i.1) (M (i.1 + 1)) (oc i) (ops i)) ∧ (∀ i, i < n → M i ≤ M (i + 1)) ∧ (m3 ≤ M 0 ∧ M n ≤ hi) ∧ (∀ k, ov.ownBlock = some k → k < M 0)) := ⟨ho, hf, hown, om, hb, hbo⟩
  clear hf hown hbo
  obtain ⟨L0, hL0⟩ : ∃ L0, L0 = L := ⟨_, rfl⟩
  obtain ⟨V0, hV0⟩ : ∃ V0, V0 = V := ⟨_, rfl⟩
  have HF : Hid (FarQ w g B m3 hi V0 L0) := by rw [hL0, hV0]; exact hF
  rw [← hL0, ← hV0]
  have hq := hF.bag
  have hBw := hF.base
  have hl0 := liesQ_r ho hn H.out.2.2.2.2.2
  obtain ⟨pa, pc, rfl⟩ := row_val ho
  clear ho hF
  obtain ⟨vb, vi, va, vr, vt⟩ := V
  obtain ⟨lb, li, la, lr, lt⟩ := L
  have hq : BagQ w g ⟨vb, vi, va, vr, vt⟩ ⟨lb.take 600, li.take 600, la.take 600, lr.take 600, lt.take 600⟩ B := hq
  obtain ⟨lr6, h6⟩ : ∃ x, x = lr.take 600 := ⟨_, rfl⟩
  have hl6 : lr6.length = min 600 lr.length := by rw [h6, List.length_take]
  rw [← h6] at hq
  unfold AddsQ
  by_cases hl : lr.length < 600
  · have e : ((QL.mk lb li la lr lt).add ⟨[], [], [], [.slice pa n pc], []⟩).cut = ⟨lb.take 600, li.take 600, la.take 600, lr.take 600 ++ [.slice pa n pc], lt.take 600⟩ := by
      have e1 : (lr ++ [Value.slice pa n pc]).take 600 = lr.take 600 ++ [Value.slice pa n pc] := by
        rw [List.take_of_length_le (by simp; omega), List.take_of_length_le (by omega)]
      simp only [QL.add, QL.cut, List.append_nil, e1]
    obtain ⟨ao, cap, ao', n', cap', w1, hvr, hr, c0, c1, f1, l1, l0, hQ, hS⟩ := BagQ.putRequests pa n pc hq (by omega) hBw
    subst hvr
    have hd : decide ((lr6.length : Int) < 600) = true := by simp; omega
    have HR : Hid (∃ V' D, FarQ (w1.setCell ⟨g, 6, none⟩ (.slice ao' n' cap')) g B m3 hi V' (L0.add D) ∧ BagStep w (w1.setCell ⟨g, 6, none⟩ (.slice ao' n' cap')) g V0 V' ∧ LiesQ (w1.setCell ⟨g, 6, none⟩ (.slice ao' n' cap')) m3 (M 0) D) := by
      have hf := HF.out
      rw [hL0, hV0] at hf
      rw [hL0, hV0]
      refine ⟨_, ⟨[], [], [], [.slice pa n pc], []⟩, hf.step hS ?_, hS, hl0.kept hS.kept (fun k k1 k2 => hf.not k1 ?_)⟩
      · rw [e, ← h6]; exact hQ
      · have := (mono_upQ om 0 n (Nat.zero_le _) (Nat.le_refl _)); omega
    clear hq hQ hS hl0 e hL0 hV0 hl6 h6 hl
    go_enter Tryz.func29, Tryz.ntmps29
    go_wp2_with (at_builtin; refine Lib.wpList_append_run_sl _ rfl _ _ 47 rfl _ _ rfl rfl hr ?_)
    clear c0 hr c1 f1 hd l1 l0
    go_loopw [4] (fun vi wr => ∃ k : Nat, k ≤ n ∧ vi = .int .i64 (k : Int) ∧ Hid (∃ V' D, FarQ wr g B m3 hi V' (L0.add D) ∧ BagStep w wr g V0 V' ∧ LiesQ wr m3 (M k) D)) (fun vi _ => n - (intOf vi).toNat)
    case atStart => exact ⟨0, Nat.zero_le _, rfl, HR.out⟩
    case round =>
      obtain ⟨k, hk, rfl, HI⟩ := hrel
      clear HR
      have hmn : Hid (∀ j, j ≤ n → M j ≤ hi ∧ M 0 ≤ M j) := fun j hj => ⟨Nat.le_trans (mono_upQ H.out.2.2.2.1 j n hj (Nat.le_refl _)) H.out.2.2.2.2.1.2, mono_upQ H.out.2.2.2.1 0 j (Nat.zero_le _) hj⟩
      by_cases hlt : k < n ∧ k < 600
      · obtain ⟨hlt, hl6⟩ := hlt
        have d0 : decide ((k : Int) < (n : Int)) = true := by simp; omega
        have d1 : decide ((k : Int) < 600) = true := by simp; omega
        obtain ⟨V1, D1, hf1, hs1, hl1⟩ := HI.out
        obtain ⟨ho, hfl, hown, hom, hb, hbo⟩ := H.out
        have hF0 := HF.out
        have hm1 := (hmn.out (k + 1) (by omega)).1
        have hm0 := (hmn.out k (by omega)).2
        have hb1 := hb.1
        have hmnn := hmn.out n (Nat.le_refl _)
        have hrow := row_kept ho hs1.kept (fun j e e' => by
          have := row_base ho e; have := hbo j e; exact hF0.not (by omega) (by omega) e')
        have hown1 := (hown ⟨k, hlt⟩).kept hs1.kept (fun j e1 e2 e' => by
          have e3 : M k ≤ j := e1
          have e4 : j < M (k + 1) := e2
          exact hF0.not (by omega) (by omega) e')
        obtain ⟨x0, x1, x2, x3, x4, x5, x6, x7, x8, x9, x10, x11, x12, x13, x14, x15, x16, x17, x18, hcs⟩ := rq_forms (hown1.sees)
        obtain ⟨ga, hga, hgc⟩ := row_first hrow (by omega)
        have hat : ∀ j, j < 11 → wr.cell? ⟨ga, k * 11 + j, none⟩ = some (([.int .i8 x0, .string x1, .slice x2 x3 x4, .slice x5 x6 x7, .int .i32 x8, .bool x9, .bool x10, .int .i64 x11, .int .i32 x12, .slice x13 x14 x15, .slice x16 x17 x18]).getD j (.bool false)) := fun j hj => by
          have hkn : k * 11 + 11 ≤ n * 11 := by have : (k + 1) * 11 ≤ n * 11 := Nat.mul_le_mul_right 11 hlt; omega
          rw [hgc _ (by omega), hfl ⟨k, hlt⟩ j hj, hcs]
        have g0 : wr.cell? ⟨ga, k * 11, none⟩ = some (.int .i8 x0) := hat 0 (by omega)
        have g1 : wr.cell? ⟨ga, k * 11 + 1, none⟩ = some (.string x1) := hat 1 (by omega)
        have g2 : wr.cell? ⟨ga, k * 11 + 2, none⟩ = some (.slice x2 x3 x4) := hat 2 (by omega)
        have g3 : wr.cell? ⟨ga, k * 11 + 3, none⟩ = some (.slice x5 x6 x7) := hat 3 (by omega)
        have g4 : wr.cell? ⟨ga, k * 11 + 4, none⟩ = some (.int .i32 x8) := hat 4 (by omega)
        have g5 : wr.cell? ⟨ga, k * 11 + 5, none⟩ = some (.bool x9) := hat 5 (by omega)
        have g6 : wr.cell? ⟨ga, k * 11 + 6, none⟩ = some (.bool x10) := hat 6 (by omega)
        have g7 : wr.cell? ⟨ga, k * 11 + 7, none⟩ = some (.int .i64 x11) := hat 7 (by omega)
        have g8 : wr.cell? ⟨ga, k * 11 + 8, none⟩ = some (.int .i32 x12) := hat 8 (by omega)
        have g9 : wr.cell? ⟨ga, k * 11 + 9, none⟩ = some (.slice x13 x14 x15) := hat 9 (by omega)
        have g10 : wr.cell? ⟨ga, k * 11 + 10, none⟩ = some (.slice x16 x17 x18) := hat 10 (by omega)
        have HO : Hid (AddsQ g B (M k) (M (k + 1)) 11 (.agg #[.int .i8 x0, .string x1, .slice x2 x3 x4, .slice x5 x6 x7, .int .i32 x8, .bool x9, .bool x10, .int .i64 x11, .int .i32 x12, .slice x13 x14 x15, .slice x16 x17 x18]) (L0.add D1) V1 wr) := by
          have := hI ⟨k, hlt⟩ wr V1 (L0.add D1) (hf1.mono (by show m3 ≤ M k; omega) (by show M (k + 1) ≤ hi; omega)) hown1
          rw [hcs] at this
          exact this
        have HS : Hid (FarQ wr g B m3 hi V1 (L0.add D1) ∧ BagStep w wr g V0 V1 ∧ LiesQ wr m3 (M k) D1) := ⟨hf1, hs1, hl1⟩
        have HB1 : Hid (m3 ≤ M k ∧ M k ≤ M (k + 1) ∧ M (k + 1) ≤ hi) := ⟨by omega, hom k hlt, hm1⟩
        have hgl := row_lt hrow (g := ga) (by rw [hga]; rfl)
        subst hga
        clear hf1 hs1 hl1 ho hfl hown hom hb hbo hF0 hrow hown1 hcs hgc hat HI hb1
        have q0 : (0 : Int) ≤ (k : Int) := by omega
        have q1 : (k : Int) < (n : Int) := by omega
        go_wp2_with fail
        refine Calls.mono HO.out ?_
        rintro e w3 ⟨rfl, V3, D3, b3, s3, l3⟩
        have H3 : Hid (∃ V' D, FarQ w3 g B m3 hi V' (L0.add D) ∧ BagStep w w3 g V0 V' ∧ LiesQ w3 m3 (M (k + 1)) D) := by
          obtain ⟨f1, s1, l1⟩ := HS.out
          obtain ⟨o1, o2, o3⟩ := HB1.out
          refine ⟨V3, D1.add D3, ?_, s1.trans s3, (l1.kept s3.kept (fun j k1 k2 => f1.not k1 (by omega))).add l3 o1 o2⟩
          rw [← QL.add_add]
          exact f1.step s3 b3
        clear b3 s3 l3 HS HO g0 g1 g2 g3 g4 g5 g6 g7 g8 g9 g10 hgl
        go_wp2
        go_roundw
        case rel => exact ⟨k + 1, by omega, by go_num, H3.out⟩
        case measure => simp [intOf]; omega
      · have HE : Hid (∃ V' D, FarQ wr g B m3 hi V' (L0.add D) ∧ BagStep w wr g V0 V' ∧ LiesQ wr m3 hi D) := by
          obtain ⟨V1, D1, hf1, hs1, hl1⟩ := HI.out
          exact ⟨V1, D1, hf1, hs1, hl1.mono (Nat.le_refl _) (hmn.out k hk).1⟩
        clear HI
        by_cases hkp : k < n
        · have n6 : ¬ k < 600 := by omega
          have d0 : decide ((k : Int) < (n : Int)) = true := by simp; omega
          have d1 : decide ((k : Int) < 600) = false := by simp; omega
          clear hlt
          go_wp2
          go_end0
          obtain ⟨V1, D1, hf1, hs1, hl1⟩ := HE.out
          exact ⟨rfl, V1, D1, hf1.bag, hs1, hl1⟩
        · have d0 : decide ((k : Int) < (n : Int)) = false := by simp; omega
          clear hlt
          go_wp2
          go_end0
          obtain ⟨V1, D1, hf1, hs1, hl1⟩ := HE.out
          exact ⟨rfl, V1, D1, hf1.bag, hs1, hl1⟩
  · obtain ⟨ao, cap, hvr⟩ : ∃ ao cap, vr = .slice ao lr6.length cap := row_val hq.r
    subst hvr
    have c0 : w.cell? ⟨g, 6, none⟩ = some (.slice ao lr6.length cap) := by rw [bagQ_cells hq.row 6 (by omega)]; rfl
    have l0 : g < w.heap.size := lt_of_block hq.row
    have hd : decide ((lr6.length : Int) < 600) = false := by simp; omega
    have HR : Hid (∃ V' D, FarQ w g B m3 hi V' (L0.add D) ∧ BagStep w w g V0 V' ∧ LiesQ w m3 (M 0) D) := by
      refine ⟨V0, QL.nil, ?_, BagStep.refl _ _ _, LiesQ.nil⟩
      rw [QL.add_nil]
      exact HF.out
    clear hq hl0 hL0 hV0 hl6 h6 hl
    go_enter Tryz.func29, Tryz.ntmps29
    go_wp2
    clear c0 hd l0
    go_loopw [4] (fun vi wr => ∃ k : Nat, k ≤ n ∧ vi = .int .i64 (k : Int) ∧ Hid (∃ V' D, FarQ wr g B m3 hi V' (L0.add D) ∧ BagStep w wr g V0 V' ∧ LiesQ wr m3 (M k) D)) (fun vi _ => n - (intOf vi).toNat)
    case atStart => exact ⟨0, Nat.zero_le _, rfl, HR.out⟩
    case round =>
      obtain ⟨k, hk, rfl, HI⟩ := hrel
      clear HR
      have hmn : Hid (∀ j, j ≤ n → M j ≤ hi ∧ M 0 ≤ M j) := fun j hj => ⟨Nat.le_trans (mono_upQ H.out.2.2.2.1 j n hj (Nat.le_refl _)) H.out.2.2.2.2.1.2, mono_upQ H.out.2.2.2.1 0 j (Nat.zero_le _) hj⟩
      by_cases hlt : k < n ∧ k < 600
      · obtain ⟨hlt, hl6⟩ := hlt
        have d0 : decide ((k : Int) < (n : Int)) = true := by simp; omega
        have d1 : decide ((k : Int) < 600) = true := by simp; omega
        obtain ⟨V1, D1, hf1, hs1, hl1⟩ := HI.out
        obtain ⟨ho, hfl, hown, hom, hb, hbo⟩ := H.out
        have hF0 := HF.out
        have hm1 := (hmn.out (k + 1) (by omega)).1
        have hm0 := (hmn.out k (by omega)).2
        have hb1 := hb.1
        have hmnn := hmn.out n (Nat.le_refl _)
        have hrow := row_kept ho hs1.kept (fun j e e' => by
          have := row_base ho e; have := hbo j e; exact hF0.not (by omega) (by omega) e')
        have hown1 := (hown ⟨k, hlt⟩).kept hs1.kept (fun j e1 e2 e' => by
          have e3 : M k ≤ j := e1
          have e4 : j < M (k + 1) := e2
          exact hF0.not (by omega) (by omega) e')
        obtain ⟨x0, x1, x2, x3, x4, x5, x6, x7, x8, x9, x10, x11, x12, x13, x14, x15, x16, x17, x18, hcs⟩ := rq_forms (hown1.sees)
        obtain ⟨ga, hga, hgc⟩ := row_first hrow (by omega)
        have hat : ∀ j, j < 11 → wr.cell? ⟨ga, k * 11 + j, none⟩ = some (([.int .i8 x0, .string x1, .slice x2 x3 x4, .slice x5 x6 x7, .int .i32 x8, .bool x9, .bool x10, .int .i64 x11, .int .i32 x12, .slice x13 x14 x15, .slice x16 x17 x18]).getD j (.bool false)) := fun j hj => by
          have hkn : k * 11 + 11 ≤ n * 11 := by have : (k + 1) * 11 ≤ n * 11 := Nat.mul_le_mul_right 11 hlt; omega
          rw [hgc _ (by omega), hfl ⟨k, hlt⟩ j hj, hcs]
        have g0 : wr.cell? ⟨ga, k * 11, none⟩ = some (.int .i8 x0) := hat 0 (by omega)
        have g1 : wr.cell? ⟨ga, k * 11 + 1, none⟩ = some (.string x1) := hat 1 (by omega)
        have g2 : wr.cell? ⟨ga, k * 11 + 2, none⟩ = some (.slice x2 x3 x4) := hat 2 (by omega)
        have g3 : wr.cell? ⟨ga, k * 11 + 3, none⟩ = some (.slice x5 x6 x7) := hat 3 (by omega)
        have g4 : wr.cell? ⟨ga, k * 11 + 4, none⟩ = some (.int .i32 x8) := hat 4 (by omega)
        have g5 : wr.cell? ⟨ga, k * 11 + 5, none⟩ = some (.bool x9) := hat 5 (by omega)
        have g6 : wr.cell? ⟨ga, k * 11 + 6, none⟩ = some (.bool x10) := hat 6 (by omega)
        have g7 : wr.cell? ⟨ga, k * 11 + 7, none⟩ = some (.int .i64 x11) := hat 7 (by omega)
        have g8 : wr.cell? ⟨ga, k * 11 + 8, none⟩ = some (.int .i32 x12) := hat 8 (by omega)
        have g9 : wr.cell? ⟨ga, k * 11 + 9, none⟩ = some (.slice x13 x14 x15) := hat 9 (by omega)
        have g10 : wr.cell? ⟨ga, k * 11 + 10, none⟩ = some (.slice x16 x17 x18) := hat 10 (by omega)
        have HO : Hid (AddsQ g B (M k) (M (k + 1)) 11 (.agg #[.int .i8 x0, .string x1, .slice x2 x3 x4, .slice x5 x6 x7, .int .i32 x8, .bool x9, .bool x10, .int .i64 x11, .int .i32 x12, .slice x13 x14 x15, .slice x16 x17 x18]) (L0.add D1) V1 wr) := by
          have := hI ⟨k, hlt⟩ wr V1 (L0.add D1) (hf1.mono (by show m3 ≤ M k; omega) (by show M (k + 1) ≤ hi; omega)) hown1
          rw [hcs] at this
          exact this
        have HS : Hid (FarQ wr g B m3 hi V1 (L0.add D1) ∧ BagStep w wr g V0 V1 ∧ LiesQ wr m3 (M k) D1) := ⟨hf1, hs1, hl1⟩
        have HB1 : Hid (m3 ≤ M k ∧ M k ≤ M (k + 1) ∧ M (k + 1) ≤ hi) := ⟨by omega, hom k hlt, hm1⟩
        have hgl := row_lt hrow (g := ga) (by rw [hga]; rfl)
        subst hga
        clear hf1 hs1 hl1 ho hfl hown hom hb hbo hF0 hrow hown1 hcs hgc hat HI hb1
        have q0 : (0 : Int) ≤ (k : Int) := by omega
        have q1 : (k : Int) < (n : Int) := by omega
        go_wp2_with fail
        refine Calls.mono HO.out ?_
        rintro e w3 ⟨rfl, V3, D3, b3, s3, l3⟩
        have H3 : Hid (∃ V' D, FarQ w3 g B m3 hi V' (L0.add D) ∧ BagStep w w3 g V0 V' ∧ LiesQ w3 m3 (M (k + 1)) D) := by
          obtain ⟨f1, s1, l1⟩ := HS.out
          obtain ⟨o1, o2, o3⟩ := HB1.out
          refine ⟨V3, D1.add D3, ?_, s1.trans s3, (l1.kept s3.kept (fun j k1 k2 => f1.not k1 (by omega))).add l3 o1 o2⟩
          rw [← QL.add_add]
          exact f1.step s3 b3
        clear b3 s3 l3 HS HO g0 g1 g2 g3 g4 g5 g6 g7 g8 g9 g10 hgl
        go_wp2
        go_roundw
        case rel => exact ⟨k + 1, by omega, by go_num, H3.out⟩
        case measure => simp [intOf]; omega
      · have HE : Hid (∃ V' D, FarQ wr g B m3 hi V' (L0.add D) ∧ BagStep w wr g V0 V' ∧ LiesQ wr m3 hi D) := by
          obtain ⟨V1, D1, hf1, hs1, hl1⟩ := HI.out
          exact ⟨V1, D1, hf1, hs1, hl1.mono (Nat.le_refl _) (hmn.out k hk).1⟩
        clear HI
        by_cases hkp : k < n
        · have n6 : ¬ k < 600 := by omega
          have d0 : decide ((k : Int) < (n : Int)) = true := by simp; omega
          have d1 : decide ((k : Int) < 600) = false := by simp; omega
          clear hlt
          go_wp2
          go_end0
          obtain ⟨V1, D1, hf1, hs1, hl1⟩ := HE.out
          exact ⟨rfl, V1, D1, hf1.bag, hs1, hl1⟩
        · have d0 : decide ((k : Int) < (n : Int)) = false := by simp; omega
          clear hlt
          go_wp2
          go_end0
          obtain ⟨V1, D1, hf1, hs1, hl1⟩ := HE.out
          exact ⟨rfl, V1, D1, hf1.bag, hs1, hl1⟩

set_option maxHeartbeats 2000000 in
theorem addRequest_any (g B : Nat) (r : Rq) : ∀ (lo hi : Nat) (cs : List Value) (w : World) (V : QV) (L : QL), FarQ w g B lo hi V L → OwnQ w lo hi cs r → AddsQ g B lo hi 11 (.agg cs.toArray) L V w := by
  induction r with
  | mk f n ops ih =>
    intro lo hi cs w V L hF hO
    cases hO with
    | mk _ _ _ dv av wv ov oc fl _ _ m1 m2 m3 M hd ha hw ho hf sh bd ba bw bo o1 om hs =>
    have h0n := mono_upQ om 0 n (Nat.zero_le _) (Nat.le_refl _)
    obtain ⟨d0, d1, d2, rfl⟩ := row_form hd
    obtain ⟨a0, a1, a2, rfl⟩ := row_form ha
    obtain ⟨e0, e1, e2, rfl⟩ := row_form hw
    obtain ⟨q0, q1, q2, rfl⟩ := row_form ho
    have hla : (f.acl.map EnD.cells).length ≤ 1000000000 := by rw [List.length_map]; exact sh.2.1
    have hlw : (f.who.map IdD.cells).length ≤ 1000000000 := by rw [List.length_map]; exact sh.2.2.1
    obtain ⟨kind, path, data, acl, ver, eph, seq, ses, tmo, who⟩ := f
    simp only at hd sh
    simp only [rqCells]
    obtain ⟨W, eW⟩ : ∃ W, W = w.alloc (.cells #[.int .i8 kind, .string path, .slice d0 d1 d2, .slice a0 a1 a2, .int .i32 ver, .bool eph, .bool seq, .int .i64 ses, .int .i32 tmo, .slice e0 e1 e2, .slice q0 q1 q2] 33) := ⟨_, rfl⟩
    have hkW : Kept w W (fun _ => False) := by rw [eW]; exact (Kept.refl w _).alloc _
    have hrow : W.heap[w.heap.size]? = some (.cells #[.int .i8 kind, .string path, .slice d0 d1 d2, .slice a0 a1 a2, .int .i32 ver, .bool eph, .bool seq, .int .i64 ses, .int .i32 tmo, .slice e0 e1 e2, .slice q0 q1 q2] 33 (0, 0)) := by rw [eW]; exact heap_alloc_new _ _
    have hFW : FarQ W g B lo hi V L := by rw [eW]; exact hF.alloc _
    have hsW : W.heap.size = w.heap.size + 1 := by rw [eW]; simp
    have hgn : w.heap.size ≠ g ∧ ¬ V.own w.heap.size := ⟨fun e => by have := lt_of_block hF.bag.row; omega, fun e => by have := (hF.bag.owns e).2; omega⟩
    have hOW := fun {T : TypeId} {z b k : Nat} {v : Value} {xs : List Value} (h : w.ownsRow b T z v k xs) => row_kept h hkW (fun _ _ e => e)
    -- what is added, one call behind the other
    have H1 : Hid (∀ w1, (∃ V', BagQ w1 g V' (L.add ⟨[.slice d0 d1 d2], [], [], [], []⟩).cut B ∧ BagStep W w1 g V V') → ∃ V', FarQ w1 g B lo hi V' (L.add ⟨[.slice d0 d1 d2], [], [], [], []⟩) ∧ BagStep W w1 g V V' ∧ LiesQ w1 lo m1 ⟨[.slice d0 d1 d2], [], [], [], []⟩) := fun w1 ⟨V', b1, s1⟩ =>
      ⟨V', hFW.step s1 b1, s1, (liesQ_b (hOW hd) sh.1 bd).kept s1.kept (fun k k1 k2 => hFW.not k1 (by omega))⟩
    have HFW : Hid (FarQ W g B lo hi V L) := hFW
    have HW : Hid (w.ownsRow m1 105 3 (.slice a0 a1 a2) (acl.map EnD.cells).length (acl.map EnD.cells).flatten ∧ w.ownsRow m2 103 2 (.slice e0 e1 e2) (who.map IdD.cells).length (who.map IdD.cells).flatten ∧ w.ownsRow m3 33 11 (.slice q0 q1 q2) n fl ∧ (∀ (i : Fin n) j, j < 11 → fl[i.1 * 11 + j]? = some ((oc i).getD j (.bool false))) ∧ (∀ i : Fin n, OwnQ w (M i.1) (M (i.1 + 1)) (oc i) (ops i)) ∧ (∀ i, i < n → M i ≤ M (i + 1)) ∧ Kept w W (fun _ => False)) := ⟨ha, hw, ho, hf, hs, om, hkW⟩
    have HB : Hid ((lo ≤ m1 ∧ m1 ≤ m2 ∧ m2 ≤ m3 ∧ m3 ≤ M 0 ∧ M 0 ≤ M n ∧ M n ≤ hi) ∧ (∀ k, (Value.slice a0 a1 a2).ownBlock = some k → k < m2) ∧ (∀ k, (Value.slice e0 e1 e2).ownBlock = some k → k < m3) ∧ (∀ k, (Value.slice q0 q1 q2).ownBlock = some k → k < M 0) ∧ (acl.map EnD.cells).length ≤ 1000000000 ∧ (who.map IdD.cells).length ≤ 1000000000 ∧ n ≤ 1000000000) := ⟨⟨o1.1, o1.2.1, o1.2.2.1, o1.2.2.2.1, h0n, o1.2.2.2.2⟩, ba, bw, bo, hla, hlw, sh.2.2.2⟩
    have HN : Hid (∀ w1 V1, BagStep W w1 g V V1 → w1.heap[w.heap.size]? = some (.cells #[.int .i8 kind, .string path, .slice d0 d1 d2, .slice a0 a1 a2, .int .i32 ver, .bool eph, .bool seq, .int .i64 ses, .int .i32 tmo, .slice e0 e1 e2, .slice q0 q1 q2] 33 (0, 0))) := fun w1 V1 s => s.kept.heap hrow (fun e => e.elim hgn.1 hgn.2)
    have HI : Hid (∀ (i : Fin n) (w : World) (V : QV) (L : QL), FarQ w g B (M i.1) (M (i.1 + 1)) V L → OwnQ w (M i.1) (M (i.1 + 1)) (oc i) (ops i) → AddsQ g B (M i.1) (M (i.1 + 1)) 11 (.agg (oc i).toArray) L V w) := fun i w V L h1 h2 => ih i _ _ _ w V L h1 h2
    have HWE : Hid _ := eW
    have HKW : Hid (∀ w1 V1, BagStep W w1 g V V1 → BagStep w w1 g V V1) := fun w1 V1 s => ⟨(hkW.mono (fun _ _ e => e.elim)).trans s.kept (fun _ _ e => e), fun k e => (s.own k e).imp (fun e => e) (fun e => by omega)⟩
    have c0 := cell_of_row W _ 2 _ _ _ hrow
    simp only [List.getElem?_toArray, List.getElem?_cons_zero, List.getElem?_cons_succ] at c0
    have l0 := lt_of_block hrow
    clear hd ha hw ho hf hs om hkW hF hFW hOW hrow hgn h0n o1 bd ba bw bo hla hlw sh ih eW hsW
    unfold AddsQ
    go_enter Tryz.func11, Tryz.ntmps11
    go_upto_region 1 with fail
    rw [← HWE.out]
    go_wp2_with fail
    refine Calls.mono (addBytes_more g V L B d0 d1 d2 W HFW.out.bag HFW.out.base) ?_
    rintro e w1 ⟨rfl, hx⟩
    obtain ⟨V1, f1, s1, y1⟩ := H1.out w1 hx
    have HX1 : Hid (FarQ w1 g B lo hi V1 (L.add ⟨[.slice d0 d1 d2], [], [], [], []⟩) ∧ BagStep W w1 g V V1 ∧ LiesQ w1 lo m1 ⟨[.slice d0 d1 d2], [], [], [], []⟩) := ⟨f1, s1, y1⟩
    have r1 := HN.out w1 V1 s1
    have c1 := cell_of_row w1 _ 3 _ _ _ r1
    simp only [List.getElem?_toArray, List.getElem?_cons_zero, List.getElem?_cons_succ] at c1
    have l1 := lt_of_block r1
    clear c0 l0 hx f1 s1 y1 r1 H1
    go_wp2_with fail
    refine Calls.mono (addAcl_more g V1 _ B a0 a1 a2 w1 HX1.out.1.bag HX1.out.1.base) ?_
    rintro e w2 ⟨rfl, V2, b2, s2⟩
    have HX2 : Hid (∃ D, FarQ w2 g B lo hi V2 (L.add D) ∧ BagStep W w2 g V V2 ∧ LiesQ w2 lo m2 D) := by
      obtain ⟨o, ba, bw, bo, hla, hlw, hn⟩ := HB.out
      have hr := row_kept (row_kept HW.out.1 HW.out.2.2.2.2.2.2 (fun _ _ e => e)) (HX1.out.2.1.trans s2).kept (fun k e e' => HFW.out.not (by have := row_base HW.out.1 e; omega) (by have := ba k e; omega) e')
      have := addsQ_step (hi := m2) (HFW.out.mono (Nat.le_refl _) (by omega)) o.1 o.2.1 HX1.out.2.1 HX1.out.2.2 (HX1.out.1.mono (Nat.le_refl _) (by omega)) b2 s2 (liesQ_a hr hla ba)
      refine ⟨_, ?_, this.2.1, this.2.2⟩
      rw [← QL.add_add]
      exact HX1.out.1.step s2 b2
    have r2 := HN.out w2 V2 HX2.out.choose_spec.2.1
    have c2 := cell_of_row w2 _ 9 _ _ _ r2
    simp only [List.getElem?_toArray, List.getElem?_cons_zero, List.getElem?_cons_succ] at c2
    have l2 := lt_of_block r2
    clear c1 l1 b2 s2 r2 HX1
    obtain ⟨D2, HX2⟩ : ∃ D, Hid (FarQ w2 g B lo hi V2 (L.add D) ∧ BagStep W w2 g V V2 ∧ LiesQ w2 lo m2 D) := HX2.out
    go_wp2_with fail
    refine Calls.mono (addIds_more g V2 _ B e0 e1 e2 w2 HX2.out.1.bag HX2.out.1.base) ?_
    rintro e w3 ⟨rfl, V3, b3, s3⟩
    have HX3 : Hid (∃ D, FarQ w3 g B lo hi V3 (L.add D) ∧ BagStep W w3 g V V3 ∧ LiesQ w3 lo m3 D) := by
      obtain ⟨o, ba, bw, bo, hla, hlw, hn⟩ := HB.out
      have hr := row_kept (row_kept HW.out.2.1 HW.out.2.2.2.2.2.2 (fun _ _ e => e)) (HX2.out.2.1.trans s3).kept (fun k e e' => HFW.out.not (by have := row_base HW.out.2.1 e; omega) (by have := bw k e; omega) e')
      have := addsQ_step (hi := m3) (HFW.out.mono (Nat.le_refl _) (by omega)) (by omega) o.2.2.1 HX2.out.2.1 HX2.out.2.2 (HX2.out.1.mono (Nat.le_refl _) (by omega)) b3 s3 (liesQ_i hr hlw bw)
      refine ⟨_, ?_, this.2.1, this.2.2⟩
      rw [← QL.add_add]
      exact HX2.out.1.step s3 b3
    have r3 := HN.out w3 V3 HX3.out.choose_spec.2.1
    have c3 := cell_of_row w3 _ 10 _ _ _ r3
    simp only [List.getElem?_toArray, List.getElem?_cons_zero, List.getElem?_cons_succ] at c3
    have l3 := lt_of_block r3
    clear c2 l2 b3 s3 r3 HX2
    obtain ⟨D3, HX3⟩ : ∃ D, Hid (FarQ w3 g B lo hi V3 (L.add D) ∧ BagStep W w3 g V V3 ∧ LiesQ w3 lo m3 D) := HX3.out
    have HA : Hid (AddsQ g B m3 hi 29 (.slice q0 q1 q2) (L.add D3) V3 w3) := by
      obtain ⟨o, ba, bw, bo, hla, hlw, hn⟩ := HB.out
      obtain ⟨_, _, ho, hf, hs, om, hkW⟩ := HW.out
      have hr := row_kept (row_kept ho hkW (fun _ _ e => e)) HX3.out.2.1.kept (fun k e e' => HFW.out.not (by have := row_base ho e; omega) (by have := bo k e; omega) e')
      refine addRequests_of g B ops oc M m3 hi _ fl V3 (L.add D3) w3 HI.out (HX3.out.1.mono (by omega) (Nat.le_refl _)) hr hf (fun i => OwnQ.kept HX3.out.2.1.kept (OwnQ.kept hkW (hs i) (fun _ _ _ e => e)) (fun k k1 k2 e => ?_)) om ⟨o.2.2.2.1, o.2.2.2.2.2⟩ bo hn
      have e1 := mono_upQ om 0 i.1 (Nat.zero_le _) (by omega)
      have e2 := mono_upQ om (i.1 + 1) n (by omega) (Nat.le_refl _)
      exact HFW.out.not (by omega) (by omega) e
    go_wp2_with fail
    refine Calls.mono HA.out ?_
    rintro e w4 ⟨rfl, V4, D4, b4, s4, y4⟩
    have HE : Hid (∃ V' D, BagQ w4 g V' (L.add D).cut B ∧ BagStep w w4 g V V' ∧ LiesQ w4 lo hi D) := by
      obtain ⟨o, ba, bw, bo, hla, hlw, hn⟩ := HB.out
      have := addsQ_step HFW.out (by omega) (by omega) HX3.out.2.1 HX3.out.2.2 HX3.out.1 b4 s4 y4
      exact ⟨V4, _, this.1.bag, HKW.out w4 V4 this.2.1, this.2.2⟩
    clear c3 l3 b4 s4 y4 HX3 HA
    go_wp2
    go_end0
    exact ⟨rfl, HE.out⟩

end Go.Proofs.YtoeialngbbfoeaaGreatDoor
