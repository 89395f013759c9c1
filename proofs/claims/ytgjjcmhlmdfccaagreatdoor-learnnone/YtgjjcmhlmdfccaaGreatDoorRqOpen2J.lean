/- Requests, transactions and lists of them that came in, opened; no Go function is walked here. -/
import Derived.Test.YtgjjcmhlmdfccaaGreatDoorRqOpenJ
namespace Go.Proofs.YtgjjcmhlmdfccaaGreatDoor
open Go.ChangeShapes Go.WideShapes Go.ChangeAt Go.RowKit
set_option maxRecDepth 8000

section
variable {H : Type} {enc : TypeId × Value → H} {W : World} {base : Nat} {spare : Nat → Bool} {held : Bool}

theorem fn_of {n : Nat} {cs : List (List Value)} (hl : cs.length = n) {Q : List Value → Rq → Prop} (h : ∀ c ∈ cs, ∃ r, Q c r) : ∃ ops : Fin n → Rq, ∀ i : Fin n, Q (cs[i.1]'(by rw [hl]; exact i.2)) (ops i) := by
  refine ⟨fun i => Classical.choose (h (cs[i.1]'(by rw [hl]; exact i.2)) (List.getElem_mem _)), fun i => ?_⟩
  exact Classical.choose_spec (h (cs[i.1]'(by rw [hl]; exact i.2)) (List.getElem_mem _))

set_option maxHeartbeats 1000000 in
theorem open_rq : ∀ (N : Nat) {fuel : Nat} {cs : List Value} {x : DataW H × List MemPlace}, SizeOf.sizeOf x.1 < N → DataW.trod enc Tryz.prog W base spare held fuel 35 cs = some x → (x.1.weights Tryz.prog 35).all (· ≤ reachBytes) = true →
    ∃ r : Rq, SeesRq W cs r ∧ r.good
  | 0, _, _, _, hN, _, _ => by omega
  | N + 1, fuel, cs, x, hN, h, hw => by
    have hcells : Tryz.prog.cellsOf 35 = 11 := by kernel_rfl
    obtain ⟨xs, n, _, hx, hl, hxl, hf⟩ := DataW.trod_struct Tryz.underlying35 h
    rw [hcells] at hl
    have z0 : Tryz.prog.cellsOf 22 = 1 := by kernel_rfl
    have z1 : Tryz.prog.cellsOf 9 = 1 := by kernel_rfl
    have z2 : Tryz.prog.cellsOf 30 = 1 := by kernel_rfl
    have z3 : Tryz.prog.cellsOf 31 = 1 := by kernel_rfl
    have z4 : Tryz.prog.cellsOf 21 = 1 := by kernel_rfl
    have z5 : Tryz.prog.cellsOf 4 = 1 := by kernel_rfl
    have z6 : Tryz.prog.cellsOf 4 = 1 := by kernel_rfl
    have z7 : Tryz.prog.cellsOf 2 = 1 := by kernel_rfl
    have z8 : Tryz.prog.cellsOf 21 = 1 := by kernel_rfl
    have z9 : Tryz.prog.cellsOf 32 = 1 := by kernel_rfl
    have z10 : Tryz.prog.cellsOf 33 = 1 := by kernel_rfl
    have g0 : DataW.trod enc Tryz.prog W base spare held n 22 ((cs.drop 0).take (Tryz.prog.cellsOf 22)) = xs[0]? := hf 0 _ rfl
    have g1 : DataW.trod enc Tryz.prog W base spare held n 9 ((cs.drop 1).take (Tryz.prog.cellsOf 9)) = xs[1]? := hf 1 _ rfl
    have g2 : DataW.trod enc Tryz.prog W base spare held n 30 ((cs.drop 2).take (Tryz.prog.cellsOf 30)) = xs[2]? := hf 2 _ rfl
    have g3 : DataW.trod enc Tryz.prog W base spare held n 31 ((cs.drop 3).take (Tryz.prog.cellsOf 31)) = xs[3]? := hf 3 _ rfl
    have g4 : DataW.trod enc Tryz.prog W base spare held n 21 ((cs.drop 4).take (Tryz.prog.cellsOf 21)) = xs[4]? := hf 4 _ rfl
    have g5 : DataW.trod enc Tryz.prog W base spare held n 4 ((cs.drop 5).take (Tryz.prog.cellsOf 4)) = xs[5]? := hf 5 _ rfl
    have g6 : DataW.trod enc Tryz.prog W base spare held n 4 ((cs.drop 6).take (Tryz.prog.cellsOf 4)) = xs[6]? := hf 6 _ rfl
    have g7 : DataW.trod enc Tryz.prog W base spare held n 2 ((cs.drop 7).take (Tryz.prog.cellsOf 2)) = xs[7]? := hf 7 _ rfl
    have g8 : DataW.trod enc Tryz.prog W base spare held n 21 ((cs.drop 8).take (Tryz.prog.cellsOf 21)) = xs[8]? := hf 8 _ rfl
    have g9 : DataW.trod enc Tryz.prog W base spare held n 32 ((cs.drop 9).take (Tryz.prog.cellsOf 32)) = xs[9]? := hf 9 _ rfl
    have g10 : DataW.trod enc Tryz.prog W base spare held n 33 ((cs.drop 10).take (Tryz.prog.cellsOf 33)) = xs[10]? := hf 10 _ rfl
    have hxl2 : xs.length = 11 := hxl
    have hr := reach_lt
    clear hf hxl
    match xs, hxl2, cs, hl with
    | [y0, y1, y2, y3, y4, y5, y6, y7, y8, y9, y10], _, [v0, v1, v2, v3, v4, v5, v6, v7, v8, v9, v10], _ =>
      rw [z0] at g0
      rw [z1] at g1
      rw [z2] at g2
      rw [z3] at g3
      rw [z4] at g4
      rw [z5] at g5
      rw [z6] at g6
      rw [z7] at g7
      rw [z8] at g8
      rw [z9] at g9
      rw [z10] at g10
      have hsz : SizeOf.sizeOf y10.1 < SizeOf.sizeOf x.1 := by
        rw [hx]
        have hmem : y10.1 ∈ [y0, y1, y2, y3, y4, y5, y6, y7, y8, y9, y10].map (·.1) := by simp
        have := List.sizeOf_lt_of_mem hmem
        simp only [DataW.agg.sizeOf_spec]
        omega
      rw [hx] at hw
      simp only [DataW.weights, Tryz.underlying35] at hw
      have w1 := parts_all (t := 9) hw 1 y1.1 rfl rfl
      have w2 := parts_all (t := 30) hw 2 y2.1 rfl rfl
      have w3 := parts_all (t := 31) hw 3 y3.1 rfl rfl
      have w9 := parts_all (t := 32) hw 9 y9.1 rfl rfl
      have w10 := parts_all (t := 33) hw 10 y10.1 rfl rfl
      obtain ⟨kind, e0, _, b0⟩ := DataW.trod_int Tryz.underlying22 (show DataW.trod enc Tryz.prog W base spare held n 22 [v0] = some y0 from g0)
      obtain ⟨path, e1, d1, _⟩ := DataW.trod_string Tryz.underlying9 (show DataW.trod enc Tryz.prog W base spare held n 9 [v1] = some y1 from g1)
      obtain ⟨data, hd, hby, hdl⟩ := open_dat (show DataW.trod enc Tryz.prog W base spare held n 30 [v2] = some y2 from g2) w2
      obtain ⟨acl, ha, hal, hae⟩ := open_acl (show DataW.trod enc Tryz.prog W base spare held n 31 [v3] = some y3 from g3) w3
      obtain ⟨ver, e4, _, b4⟩ := DataW.trod_int Tryz.underlying21 (show DataW.trod enc Tryz.prog W base spare held n 21 [v4] = some y4 from g4)
      obtain ⟨eph, e5, _⟩ := DataW.trod_bool Tryz.underlying4 (show DataW.trod enc Tryz.prog W base spare held n 4 [v5] = some y5 from g5)
      obtain ⟨seq, e6, _⟩ := DataW.trod_bool Tryz.underlying4 (show DataW.trod enc Tryz.prog W base spare held n 4 [v6] = some y6 from g6)
      obtain ⟨ses, e7, _, b7⟩ := DataW.trod_int Tryz.underlying2 (show DataW.trod enc Tryz.prog W base spare held n 2 [v7] = some y7 from g7)
      obtain ⟨tmo, e8, _, b8⟩ := DataW.trod_int Tryz.underlying21 (show DataW.trod enc Tryz.prog W base spare held n 21 [v8] = some y8 from g8)
      obtain ⟨who, hwo, hwl, hwe⟩ := open_ids (show DataW.trod enc Tryz.prog W base spare held n 32 [v9] = some y9 from g9) w9
      obtain ⟨rows, ho, hol, hoe⟩ := open_rows Tryz.underlying33 (z := 11) (by kernel_rfl) (of_decide_eq_true (by kernel_rfl)) (by omega) (show DataW.trod enc Tryz.prog W base spare held n 33 [v10] = some y10 from g10) w10
      obtain ⟨ops, hops⟩ := fn_of (n := rows.length) rfl (Q := fun c r => SeesRq W c r ∧ r.good) (fun c hc => by
        obtain ⟨n', y, h1, h2, h3⟩ := hoe c hc
        exact open_rq N (x := y) (by omega) h1 h3)
      simp at e0 e1 e4 e5 e6 e7 e8
      subst e0 e1 e4 e5 e6 e7 e8
      rw [d1] at w1
      simp [DataW.weights] at w1
      have k0 := bounds_i8 b0
      have k4 := bounds_i32 b4
      have k7 := bounds_i64 b7
      have k8 := bounds_i32 b8
      have hof : List.ofFn (fun i : Fin rows.length => rows[i.1]) = rows := by
        apply List.ext_getElem
        · simp
        · intro j h1 h2; simp
      refine ⟨.mk ⟨kind, path, data, acl, ver, eph, seq, ses, tmo, who⟩ rows.length ops, .mk ⟨kind, path, data, acl, ver, eph, seq, ses, tmo, who⟩ rows.length ops v2 v3 v9 v10 (fun i => rows[i.1]) hd ha hwo (by rw [hof]; exact ho) (fun i => (hops i).1), ?_, by omega, fun i => (hops i).2⟩
      exact ⟨k0.1, k0.2, k4.1, k4.2, k7.1, k7.2, k8.1, k8.2, hby, by show path.size ≤ _; omega, by show data.length ≤ _; omega, by show acl.length ≤ _; omega, by show who.length ≤ _; omega, fun d hd' => by have := hae d hd'; exact ⟨this.1, this.2.1, by omega, by omega⟩, fun d hd' => by have := hwe d hd'; exact ⟨by omega, by omega⟩⟩
end
end Go.Proofs.YtgjjcmhlmdfccaaGreatDoor
