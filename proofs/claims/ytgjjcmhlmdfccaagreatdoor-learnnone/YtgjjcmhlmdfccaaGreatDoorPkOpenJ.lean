/- Transactions and lists of them that came in, opened; no Go function is walked here. -/
import Derived.Test.YtgjjcmhlmdfccaaGreatDoorRqOpen2J
import Derived.Test.YtgjjcmhlmdfccaaGreatDoorPkAJ
namespace Go.Proofs.YtgjjcmhlmdfccaaGreatDoor
open Go.ChangeShapes Go.WideShapes Go.ChangeAt Go.RowKit
set_option maxRecDepth 8000

section
variable {H : Type} {enc : TypeId × Value → H} {W : World} {base : Nat} {spare : Nat → Bool} {held : Bool}

theorem open_u32x2 {fuel : Nat} {c0 c1 : Value} {x : DataW H × List MemPlace} (h : DataW.trod enc Tryz.prog W base spare held fuel 27 [c0, c1] = some x) :
    ∃ e n : Int, c0 = .int .u32 e ∧ c1 = .int .u32 n ∧ 0 ≤ e ∧ e ≤ 4294967295 ∧ 0 ≤ n ∧ n ≤ 4294967295 := by
  obtain ⟨xs, n, _, hx, hl, hxl, hf⟩ := DataW.trod_struct Tryz.underlying27 h
  have q : Tryz.prog.cellsOf 23 = 1 := by kernel_rfl
  have g0 : DataW.trod enc Tryz.prog W base spare held n 23 (([c0, c1].drop 0).take (Tryz.prog.cellsOf 23)) = xs[0]? := hf 0 _ rfl
  have g1 : DataW.trod enc Tryz.prog W base spare held n 23 (([c0, c1].drop 1).take (Tryz.prog.cellsOf 23)) = xs[1]? := hf 1 _ rfl
  have hxl2 : xs.length = 2 := hxl
  clear hf hxl
  match xs, hxl2 with
  | [y0, y1], _ =>
    rw [q] at g0 g1
    obtain ⟨a, e0, _, b0⟩ := DataW.trod_int Tryz.underlying23 (show DataW.trod enc Tryz.prog W base spare held n 23 [c0] = some y0 from g0)
    obtain ⟨b, e1, _, b1⟩ := DataW.trod_int Tryz.underlying23 (show DataW.trod enc Tryz.prog W base spare held n 23 [c1] = some y1 from g1)
    simp at e0 e1
    have k0 := bounds_u32 b0
    have k1 := bounds_u32 b1
    exact ⟨a, b, e0, e1, k0.1, k0.2, k1.1, k1.2⟩

theorem open_org {fuel : Nat} {c0 c1 c2 : Value} {x : DataW H × List MemPlace} (h : DataW.trod enc Tryz.prog W base spare held fuel 29 [c0, c1, c2] = some x) :
    ∃ s b m : Int, c0 = .int .i8 s ∧ c1 = .int .u32 b ∧ c2 = .int .i64 m ∧ -128 ≤ s ∧ s ≤ 127 ∧ 0 ≤ b ∧ b ≤ 4294967295 ∧ -9223372036854775808 ≤ m ∧ m ≤ 9223372036854775807 := by
  obtain ⟨xs, n, _, hx, hl, hxl, hf⟩ := DataW.trod_struct Tryz.underlying29 h
  have q0 : Tryz.prog.cellsOf 22 = 1 := by kernel_rfl
  have q1 : Tryz.prog.cellsOf 23 = 1 := by kernel_rfl
  have q2 : Tryz.prog.cellsOf 2 = 1 := by kernel_rfl
  have g0 : DataW.trod enc Tryz.prog W base spare held n 22 (([c0, c1, c2].drop 0).take (Tryz.prog.cellsOf 22)) = xs[0]? := hf 0 _ rfl
  have g1 : DataW.trod enc Tryz.prog W base spare held n 23 (([c0, c1, c2].drop 1).take (Tryz.prog.cellsOf 23)) = xs[1]? := hf 1 _ rfl
  have g2 : DataW.trod enc Tryz.prog W base spare held n 2 (([c0, c1, c2].drop 2).take (Tryz.prog.cellsOf 2)) = xs[2]? := hf 2 _ rfl
  have hxl2 : xs.length = 3 := hxl
  clear hf hxl
  match xs, hxl2 with
  | [y0, y1, y2], _ =>
    rw [q0] at g0
    rw [q1] at g1
    rw [q2] at g2
    obtain ⟨a, e0, _, b0⟩ := DataW.trod_int Tryz.underlying22 (show DataW.trod enc Tryz.prog W base spare held n 22 [c0] = some y0 from g0)
    obtain ⟨b, e1, _, b1⟩ := DataW.trod_int Tryz.underlying23 (show DataW.trod enc Tryz.prog W base spare held n 23 [c1] = some y1 from g1)
    obtain ⟨m, e2, _, b2⟩ := DataW.trod_int Tryz.underlying2 (show DataW.trod enc Tryz.prog W base spare held n 2 [c2] = some y2 from g2)
    simp at e0 e1 e2
    have k0 := bounds_i8 b0
    have k1 := bounds_u32 b1
    have k2 := bounds_i64 b2
    exact ⟨a, b, m, e0, e1, e2, k0.1, k0.2, k1.1, k1.2, k2.1, k2.2⟩

theorem open_tx {fuel : Nat} {cs : List Value} {x : DataW H × List MemPlace} (h : DataW.trod enc Tryz.prog W base spare held fuel 37 cs = some x) (hw : (x.1.weights Tryz.prog 37).all (· ≤ reachBytes) = true) :
    ∃ t : TxD, SeesTx W cs t ∧ t.good := by
  have hcells : Tryz.prog.cellsOf 37 = 16 := by kernel_rfl
  obtain ⟨xs, n, _, hx, hl, hxl, hf⟩ := DataW.trod_struct Tryz.underlying37 h
  rw [hcells] at hl
  have q0 : Tryz.prog.cellsOf 27 = 2 := by kernel_rfl
  have q1 : Tryz.prog.cellsOf 29 = 3 := by kernel_rfl
  have q2 : Tryz.prog.cellsOf 35 = 11 := by kernel_rfl
  have g0 : DataW.trod enc Tryz.prog W base spare held n 27 ((cs.drop 0).take (Tryz.prog.cellsOf 27)) = xs[0]? := hf 0 _ rfl
  have g1 : DataW.trod enc Tryz.prog W base spare held n 29 ((cs.drop 2).take (Tryz.prog.cellsOf 29)) = xs[1]? := hf 1 _ rfl
  have g2 : DataW.trod enc Tryz.prog W base spare held n 35 ((cs.drop 5).take (Tryz.prog.cellsOf 35)) = xs[2]? := hf 2 _ rfl
  have hxl2 : xs.length = 3 := hxl
  clear hf hxl
  match xs, hxl2, cs, hl with
  | [y0, y1, y2], _, [v0, v1, v2, v3, v4, v5, v6, v7, v8, v9, v10, v11, v12, v13, v14, v15], _ =>
    rw [q0] at g0
    rw [q1] at g1
    rw [q2] at g2
    rw [hx] at hw
    simp only [DataW.weights, Tryz.underlying37] at hw
    have w2 := parts_all (t := 35) hw 2 y2.1 rfl rfl
    obtain ⟨e, nn, rfl, rfl, a1, a2, a3, a4⟩ := open_u32x2 (show DataW.trod enc Tryz.prog W base spare held n 27 [v0, v1] = some y0 from g0)
    obtain ⟨s, b, m, rfl, rfl, rfl, b1, b2, b3, b4, b5, b6⟩ := open_org (show DataW.trod enc Tryz.prog W base spare held n 29 [v2, v3, v4] = some y1 from g1)
    obtain ⟨r, hr, hg⟩ := open_rq _ (Nat.lt_succ_self _) (show DataW.trod enc Tryz.prog W base spare held n 35 [v5, v6, v7, v8, v9, v10, v11, v12, v13, v14, v15] = some y2 from g2) w2
    exact ⟨⟨e, nn, s, b, m, r⟩, ⟨_, rfl, hr⟩, ⟨a1, a2, a3, a4, b1, b2, b3, b4, b5, b6, hg⟩⟩

end
end Go.Proofs.YtgjjcmhlmdfccaaGreatDoor

/- A packet that came in, opened; no Go function is walked here. -/
namespace Go.Proofs.YtgjjcmhlmdfccaaGreatDoor
open Go.ChangeShapes Go.WideShapes Go.ChangeAt Go.RowKit
set_option maxRecDepth 8000

section
variable {H : Type} {enc : TypeId × Value → H} {W : World} {base : Nat} {spare : Nat → Bool} {held : Bool}

theorem open_cn {fuel : Nat} {c0 c1 : Value} {x : DataW H × List MemPlace} (h : DataW.trod enc Tryz.prog W base spare held fuel 25 [c0, c1] = some x) :
    ∃ e n : Int, c0 = .int .u32 e ∧ c1 = .int .u32 n ∧ 0 ≤ e ∧ e ≤ 4294967295 ∧ 0 ≤ n ∧ n ≤ 4294967295 := by
  obtain ⟨xs, n, _, hx, hl, hxl, hf⟩ := DataW.trod_struct Tryz.underlying25 h
  have q : Tryz.prog.cellsOf 23 = 1 := by kernel_rfl
  have g0 : DataW.trod enc Tryz.prog W base spare held n 23 (([c0, c1].drop 0).take (Tryz.prog.cellsOf 23)) = xs[0]? := hf 0 _ rfl
  have g1 : DataW.trod enc Tryz.prog W base spare held n 23 (([c0, c1].drop 1).take (Tryz.prog.cellsOf 23)) = xs[1]? := hf 1 _ rfl
  have hxl2 : xs.length = 2 := hxl
  clear hf hxl
  match xs, hxl2 with
  | [y0, y1], _ =>
    rw [q] at g0 g1
    obtain ⟨a, e0, _, b0⟩ := DataW.trod_int Tryz.underlying23 (show DataW.trod enc Tryz.prog W base spare held n 23 [c0] = some y0 from g0)
    obtain ⟨b, e1, _, b1⟩ := DataW.trod_int Tryz.underlying23 (show DataW.trod enc Tryz.prog W base spare held n 23 [c1] = some y1 from g1)
    simp at e0 e1
    have k0 := bounds_u32 b0
    have k1 := bounds_u32 b1
    exact ⟨a, b, e0, e1, k0.1, k0.2, k1.1, k1.2⟩

theorem open_pk {fuel : Nat} {cs : List Value} {x : DataW H × List MemPlace} (h : DataW.trod enc Tryz.prog W base spare held fuel 39 cs = some x) (hw : (x.1.weights Tryz.prog 39).all (· ≤ reachBytes) = true) :
    ∃ (p : PkD) (tc : List Value) (bv : Value), cs = pkL p tc bv ∧ SeesPk W tc bv p ∧ p.good := by
  have hcells : Tryz.prog.cellsOf 39 = 32 := by kernel_rfl
  obtain ⟨xs, n, _, hx, hl, hxl, hf⟩ := DataW.trod_struct Tryz.underlying39 h
  rw [hcells] at hl
  have q0 : Tryz.prog.cellsOf 22 = 1 := by kernel_rfl
  have q1 : Tryz.prog.cellsOf 25 = 2 := by kernel_rfl
  have q2 : Tryz.prog.cellsOf 2 = 1 := by kernel_rfl
  have q3 : Tryz.prog.cellsOf 23 = 1 := by kernel_rfl
  have q4 : Tryz.prog.cellsOf 27 = 2 := by kernel_rfl
  have q5 : Tryz.prog.cellsOf 4 = 1 := by kernel_rfl
  have q6 : Tryz.prog.cellsOf 37 = 16 := by kernel_rfl
  have q7 : Tryz.prog.cellsOf 30 = 1 := by kernel_rfl
  have g0 : DataW.trod enc Tryz.prog W base spare held n 22 ((cs.drop 0).take (Tryz.prog.cellsOf 22)) = xs[0]? := hf 0 _ rfl
  have g1 : DataW.trod enc Tryz.prog W base spare held n 25 ((cs.drop 1).take (Tryz.prog.cellsOf 25)) = xs[1]? := hf 1 _ rfl
  have g2 : DataW.trod enc Tryz.prog W base spare held n 25 ((cs.drop 3).take (Tryz.prog.cellsOf 25)) = xs[2]? := hf 2 _ rfl
  have g3 : DataW.trod enc Tryz.prog W base spare held n 2 ((cs.drop 5).take (Tryz.prog.cellsOf 2)) = xs[3]? := hf 3 _ rfl
  have g4 : DataW.trod enc Tryz.prog W base spare held n 23 ((cs.drop 6).take (Tryz.prog.cellsOf 23)) = xs[4]? := hf 4 _ rfl
  have g5 : DataW.trod enc Tryz.prog W base spare held n 23 ((cs.drop 7).take (Tryz.prog.cellsOf 23)) = xs[5]? := hf 5 _ rfl
  have g6 : DataW.trod enc Tryz.prog W base spare held n 27 ((cs.drop 8).take (Tryz.prog.cellsOf 27)) = xs[6]? := hf 6 _ rfl
  have g7 : DataW.trod enc Tryz.prog W base spare held n 27 ((cs.drop 10).take (Tryz.prog.cellsOf 27)) = xs[7]? := hf 7 _ rfl
  have g8 : DataW.trod enc Tryz.prog W base spare held n 4 ((cs.drop 12).take (Tryz.prog.cellsOf 4)) = xs[8]? := hf 8 _ rfl
  have g9 : DataW.trod enc Tryz.prog W base spare held n 4 ((cs.drop 13).take (Tryz.prog.cellsOf 4)) = xs[9]? := hf 9 _ rfl
  have g10 : DataW.trod enc Tryz.prog W base spare held n 37 ((cs.drop 14).take (Tryz.prog.cellsOf 37)) = xs[10]? := hf 10 _ rfl
  have g11 : DataW.trod enc Tryz.prog W base spare held n 30 ((cs.drop 30).take (Tryz.prog.cellsOf 30)) = xs[11]? := hf 11 _ rfl
  have g12 : DataW.trod enc Tryz.prog W base spare held n 2 ((cs.drop 31).take (Tryz.prog.cellsOf 2)) = xs[12]? := hf 12 _ rfl
  have hxl2 : xs.length = 13 := hxl
  clear hf hxl
  match xs, hxl2, cs, hl with
  | [y0, y1, y2, y3, y4, y5, y6, y7, y8, y9, y10, y11, y12], _, [v0, v1, v2, v3, v4, v5, v6, v7, v8, v9, v10, v11, v12, v13, v14, v15, v16, v17, v18, v19, v20, v21, v22, v23, v24, v25, v26, v27, v28, v29, v30, v31], _ =>
    rw [q0] at g0
    rw [q1] at g1
    rw [q1] at g2
    rw [q2] at g3
    rw [q3] at g4
    rw [q3] at g5
    rw [q4] at g6
    rw [q4] at g7
    rw [q5] at g8
    rw [q5] at g9
    rw [q6] at g10
    rw [q7] at g11
    rw [q2] at g12
    rw [hx] at hw
    simp only [DataW.weights, Tryz.underlying39] at hw
    have wt := parts_all (t := 37) hw 10 y10.1 rfl rfl
    have wb := parts_all (t := 30) hw 11 y11.1 rfl rfl
    obtain ⟨i0, e0, _, b0⟩ := DataW.trod_int Tryz.underlying22 (show DataW.trod enc Tryz.prog W base spare held n 22 [v0] = some y0 from g0)
    obtain ⟨c1, d1, ec1, ed1, l1, m1, r1, s1⟩ := open_cn (show DataW.trod enc Tryz.prog W base spare held n 25 [v1, v2] = some y1 from g1)
    obtain ⟨c2, d2, ec2, ed2, l2, m2, r2, s2⟩ := open_cn (show DataW.trod enc Tryz.prog W base spare held n 25 [v3, v4] = some y2 from g2)
    obtain ⟨i3, e3, _, b3⟩ := DataW.trod_int Tryz.underlying2 (show DataW.trod enc Tryz.prog W base spare held n 2 [v5] = some y3 from g3)
    obtain ⟨i4, e4, _, b4⟩ := DataW.trod_int Tryz.underlying23 (show DataW.trod enc Tryz.prog W base spare held n 23 [v6] = some y4 from g4)
    obtain ⟨i5, e5, _, b5⟩ := DataW.trod_int Tryz.underlying23 (show DataW.trod enc Tryz.prog W base spare held n 23 [v7] = some y5 from g5)
    obtain ⟨c6, d6, ec6, ed6, l6, m6, r6, s6⟩ := open_u32x2 (show DataW.trod enc Tryz.prog W base spare held n 27 [v8, v9] = some y6 from g6)
    obtain ⟨c7, d7, ec7, ed7, l7, m7, r7, s7⟩ := open_u32x2 (show DataW.trod enc Tryz.prog W base spare held n 27 [v10, v11] = some y7 from g7)
    obtain ⟨i8, e8, _⟩ := DataW.trod_bool Tryz.underlying4 (show DataW.trod enc Tryz.prog W base spare held n 4 [v12] = some y8 from g8)
    obtain ⟨i9, e9, _⟩ := DataW.trod_bool Tryz.underlying4 (show DataW.trod enc Tryz.prog W base spare held n 4 [v13] = some y9 from g9)
    obtain ⟨t10, ht10, hg10⟩ := open_tx (show DataW.trod enc Tryz.prog W base spare held n 37 [v14, v15, v16, v17, v18, v19, v20, v21, v22, v23, v24, v25, v26, v27, v28, v29] = some y10 from g10) wt
    obtain ⟨xs11, hs11, hr11⟩ := open_dat (show DataW.trod enc Tryz.prog W base spare held n 30 [v30] = some y11 from g11) wb
    obtain ⟨i12, e12, _, b12⟩ := DataW.trod_int Tryz.underlying2 (show DataW.trod enc Tryz.prog W base spare held n 2 [v31] = some y12 from g12)
    simp at e0 e3 e4 e5 e8 e9 e12
    have k0 := bounds_i8 b0
    have k3 := bounds_i64 b3
    have k4 := bounds_u32 b4
    have k5 := bounds_u32 b5
    have k12 := bounds_i64 b12
    subst e0 ec1 ed1 ec2 ed2 e3 e4 e5 ec6 ed6 ec7 ed7 e8 e9 e12
    exact ⟨⟨i0, c1, d1, c2, d2, i3, i4, i5, c6, d6, c7, d7, i8, i9, t10, xs11, i12⟩, _, v30, rfl, ⟨ht10, hs11, hr11.1⟩, ⟨k0.1, k0.2, l1, m1, r1, s1, l2, m2, r2, s2, k3.1, k3.2, k4.1, k4.2, k5.1, k5.2, l6, m6, r6, s6, l7, m7, r7, s7, hg10, k12.1, k12.2⟩⟩
end
end Go.Proofs.YtgjjcmhlmdfccaaGreatDoor
