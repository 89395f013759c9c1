/- Transactions and lists of them that came in, opened; no Go function is walked here. -/
import Derived.Test.YteindmdggpahfaaRqOpen2
namespace Go.Proofs.Yteindmdggpahfaa
open Go.ChangeShapes Go.WideShapes Go.ChangeAt Go.RowKit
set_option maxRecDepth 8000

section
variable {H : Type} {enc : TypeId × Value → H} {W : World} {base : Nat} {spare : Nat → Bool} {held : Bool}

theorem open_u32x2 {fuel : Nat} {c0 c1 : Value} {x : DataW H × List MemPlace} (h : DataW.trod enc Try.prog W base spare held fuel 24 [c0, c1] = some x) :
    ∃ e n : Int, c0 = .int .u32 e ∧ c1 = .int .u32 n ∧ 0 ≤ e ∧ e ≤ 4294967295 ∧ 0 ≤ n ∧ n ≤ 4294967295 := by
  obtain ⟨xs, n, _, hx, hl, hxl, hf⟩ := DataW.trod_struct Try.underlying24 h
  have q : Try.prog.cellsOf 22 = 1 := by kernel_rfl
  have g0 : DataW.trod enc Try.prog W base spare held n 22 (([c0, c1].drop 0).take (Try.prog.cellsOf 22)) = xs[0]? := hf 0 _ rfl
  have g1 : DataW.trod enc Try.prog W base spare held n 22 (([c0, c1].drop 1).take (Try.prog.cellsOf 22)) = xs[1]? := hf 1 _ rfl
  have hxl2 : xs.length = 2 := hxl
  clear hf hxl
  match xs, hxl2 with
  | [y0, y1], _ =>
    rw [q] at g0 g1
    obtain ⟨a, e0, _, b0⟩ := DataW.trod_int Try.underlying22 (show DataW.trod enc Try.prog W base spare held n 22 [c0] = some y0 from g0)
    obtain ⟨b, e1, _, b1⟩ := DataW.trod_int Try.underlying22 (show DataW.trod enc Try.prog W base spare held n 22 [c1] = some y1 from g1)
    simp at e0 e1
    have k0 := bounds_u32 b0
    have k1 := bounds_u32 b1
    exact ⟨a, b, e0, e1, k0.1, k0.2, k1.1, k1.2⟩

theorem open_org {fuel : Nat} {c0 c1 c2 : Value} {x : DataW H × List MemPlace} (h : DataW.trod enc Try.prog W base spare held fuel 35 [c0, c1, c2] = some x) :
    ∃ s b m : Int, c0 = .int .i8 s ∧ c1 = .int .u32 b ∧ c2 = .int .i64 m ∧ -128 ≤ s ∧ s ≤ 127 ∧ 0 ≤ b ∧ b ≤ 4294967295 ∧ -9223372036854775808 ≤ m ∧ m ≤ 9223372036854775807 := by
  obtain ⟨xs, n, _, hx, hl, hxl, hf⟩ := DataW.trod_struct Try.underlying35 h
  have q0 : Try.prog.cellsOf 33 = 1 := by kernel_rfl
  have q1 : Try.prog.cellsOf 22 = 1 := by kernel_rfl
  have q2 : Try.prog.cellsOf 2 = 1 := by kernel_rfl
  have g0 : DataW.trod enc Try.prog W base spare held n 33 (([c0, c1, c2].drop 0).take (Try.prog.cellsOf 33)) = xs[0]? := hf 0 _ rfl
  have g1 : DataW.trod enc Try.prog W base spare held n 22 (([c0, c1, c2].drop 1).take (Try.prog.cellsOf 22)) = xs[1]? := hf 1 _ rfl
  have g2 : DataW.trod enc Try.prog W base spare held n 2 (([c0, c1, c2].drop 2).take (Try.prog.cellsOf 2)) = xs[2]? := hf 2 _ rfl
  have hxl2 : xs.length = 3 := hxl
  clear hf hxl
  match xs, hxl2 with
  | [y0, y1, y2], _ =>
    rw [q0] at g0
    rw [q1] at g1
    rw [q2] at g2
    obtain ⟨a, e0, _, b0⟩ := DataW.trod_int Try.underlying33 (show DataW.trod enc Try.prog W base spare held n 33 [c0] = some y0 from g0)
    obtain ⟨b, e1, _, b1⟩ := DataW.trod_int Try.underlying22 (show DataW.trod enc Try.prog W base spare held n 22 [c1] = some y1 from g1)
    obtain ⟨m, e2, _, b2⟩ := DataW.trod_int Try.underlying2 (show DataW.trod enc Try.prog W base spare held n 2 [c2] = some y2 from g2)
    simp at e0 e1 e2
    have k0 := bounds_i8 b0
    have k1 := bounds_u32 b1
    have k2 := bounds_i64 b2
    exact ⟨a, b, m, e0, e1, e2, k0.1, k0.2, k1.1, k1.2, k2.1, k2.2⟩

theorem open_tx {fuel : Nat} {cs : List Value} {x : DataW H × List MemPlace} (h : DataW.trod enc Try.prog W base spare held fuel 43 cs = some x) (hw : (x.1.weights Try.prog 43).all (· ≤ reachBytes) = true) :
    ∃ t : TxD, SeesTx W cs t ∧ t.good := by
  have hcells : Try.prog.cellsOf 43 = 16 := by kernel_rfl
  obtain ⟨xs, n, _, hx, hl, hxl, hf⟩ := DataW.trod_struct Try.underlying43 h
  rw [hcells] at hl
  have q0 : Try.prog.cellsOf 24 = 2 := by kernel_rfl
  have q1 : Try.prog.cellsOf 35 = 3 := by kernel_rfl
  have q2 : Try.prog.cellsOf 41 = 11 := by kernel_rfl
  have g0 : DataW.trod enc Try.prog W base spare held n 24 ((cs.drop 0).take (Try.prog.cellsOf 24)) = xs[0]? := hf 0 _ rfl
  have g1 : DataW.trod enc Try.prog W base spare held n 35 ((cs.drop 2).take (Try.prog.cellsOf 35)) = xs[1]? := hf 1 _ rfl
  have g2 : DataW.trod enc Try.prog W base spare held n 41 ((cs.drop 5).take (Try.prog.cellsOf 41)) = xs[2]? := hf 2 _ rfl
  have hxl2 : xs.length = 3 := hxl
  clear hf hxl
  match xs, hxl2, cs, hl with
  | [y0, y1, y2], _, [v0, v1, v2, v3, v4, v5, v6, v7, v8, v9, v10, v11, v12, v13, v14, v15], _ =>
    rw [q0] at g0
    rw [q1] at g1
    rw [q2] at g2
    rw [hx] at hw
    simp only [DataW.weights, Try.underlying43] at hw
    have w2 := parts_all (t := 41) hw 2 y2.1 rfl rfl
    obtain ⟨e, nn, rfl, rfl, a1, a2, a3, a4⟩ := open_u32x2 (show DataW.trod enc Try.prog W base spare held n 24 [v0, v1] = some y0 from g0)
    obtain ⟨s, b, m, rfl, rfl, rfl, b1, b2, b3, b4, b5, b6⟩ := open_org (show DataW.trod enc Try.prog W base spare held n 35 [v2, v3, v4] = some y1 from g1)
    obtain ⟨r, hr, hg⟩ := open_rq _ (Nat.lt_succ_self _) (show DataW.trod enc Try.prog W base spare held n 41 [v5, v6, v7, v8, v9, v10, v11, v12, v13, v14, v15] = some y2 from g2) w2
    exact ⟨⟨e, nn, s, b, m, r⟩, ⟨_, rfl, hr⟩, ⟨a1, a2, a3, a4, b1, b2, b3, b4, b5, b6, hg⟩⟩

theorem open_txs {fuel : Nat} {v : Value} {x : DataW H × List MemPlace} (h : DataW.trod enc Try.prog W base spare held fuel 25 [v] = some x) (hw : (x.1.weights Try.prog 25).all (· ≤ reachBytes) = true) :
    ∃ l : List TxD, SeesTxs W v l ∧ l.length ≤ reachBytes ∧ ∀ t ∈ l, t.good := by
  obtain ⟨cs, hs, hl, hc⟩ := open_rows Try.underlying25 (z := 16) (by kernel_rfl) (of_decide_eq_true (by kernel_rfl)) (by omega) h hw
  have each : ∀ c ∈ cs, ∃ t : TxD, SeesTx W c t ∧ t.good := fun c hcc => by
    obtain ⟨n, y, h1, _, h3⟩ := hc c hcc
    exact open_tx h1 h3
  have pick : ∀ (ds : List (List Value)), (∀ c ∈ ds, ∃ t : TxD, SeesTx W c t ∧ t.good) → ∃ l : List TxD, ds.length = l.length ∧ (∀ i (h : i < ds.length) (k : i < l.length), SeesTx W ds[i] l[i]) ∧ ∀ t ∈ l, t.good := by
    intro ds
    induction ds with
    | nil => exact fun _ => ⟨[], rfl, fun i h => by simp at h, fun t ht => by simp at ht⟩
    | cons c ds ih =>
      intro hd
      obtain ⟨t, h1, h2⟩ := hd c (by simp)
      obtain ⟨l, e, h3, h4⟩ := ih (fun c hc => hd c (by simp [hc]))
      refine ⟨t :: l, by simp [e], fun i hi hk => ?_, fun u hu => ?_⟩
      · cases i with
        | zero => exact h1
        | succ i => exact h3 i (by simpa using hi) (by simpa using hk)
      · rcases List.mem_cons.1 hu with rfl | hu
        · exact h2
        · exact h4 u hu
  obtain ⟨l, e, h1, h2⟩ := pick cs each
  exact ⟨l, ⟨cs, hs, e, h1⟩, by omega, h2⟩
end
end Go.Proofs.Yteindmdggpahfaa
