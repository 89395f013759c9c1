/- A call and a script of layer 22 that came in, opened; no Go function is walked here. -/
import Derived.Test.YtghngopclhhoeaaDoorLkAJ
import Derived.Test.YtghngopclhhoeaaDoorRowB8J
namespace Go.Proofs.YtghngopclhhoeaaDoor
open Go.ChangeShapes Go.WideShapes Go.ChangeAt Go.RowKit Go.Joins
set_option maxRecDepth 8000

/-- A call of a script of layer 22. -/
structure OpT where
  kd : Int
  on : Int
  f : Int
  t : Int
  ba : Option Addr
  bc : Nat
  bs : List Int
  pl : Int
  k : Int
  x : Int
@[reducible] def OpT.bv (o : OpT) : Value := .slice o.ba o.bs.length o.bc
abbrev OpT.cells (o : OpT) : List Value := [.int .i64 o.kd, .int .i64 o.on, .int .i8 o.f, .int .i8 o.t, .slice o.ba o.bs.length o.bc, .int .i64 o.pl, .int .i64 o.k, .int .u8 o.x]
structure GoodT (w : World) (o : OpT) : Prop where
  se : Sees w o.bv o.bs
  by' : Byts o.bs
  len : o.bs.length ≤ 140737488355328
  f0 : -128 ≤ o.f
  f1 : o.f ≤ 127
  t0 : -128 ≤ o.t
  t1 : o.t ≤ 127
  x0 : 0 ≤ o.x
  x1 : o.x ≤ 255
theorem GoodT.below {w w' : World} {o : OpT} (h : GoodT w o) (hB : Below w.heap.size w w') : GoodT w' o := ⟨h.se.below hB (Nat.le_refl _), h.by', h.len, h.f0, h.f1, h.t0, h.t1, h.x0, h.x1⟩
/-- A script in memory. -/
def SeesTs (w : World) (v : Value) (l : List OpT) : Prop := ∃ a c, v = .slice a l.length c ∧ l.length ≤ c ∧ (∀ o ∈ l, GoodT w o) ∧ (l ≠ [] → ∃ b off, a = some ⟨b, off, none⟩ ∧ ∀ i o, l[i]? = some o → ∀ j u, o.cells[j]? = some u → w.cell? ⟨b, off + i * 8 + j, none⟩ = some u)
theorem SeesTs.below {w w' : World} {v : Value} {l : List OpT} (h : SeesTs w v l) (hB : Below w.heap.size w w') : SeesTs w' v l := by
  obtain ⟨a, c, rfl, h1, h2, h3⟩ := h
  refine ⟨a, c, rfl, h1, fun o ho => (h2 o ho).below hB, fun hne => ?_⟩
  obtain ⟨b, off, rfl, h4⟩ := h3 hne
  refine ⟨b, off, rfl, fun i o hi j u hj => ?_⟩
  have hc := h4 i o hi j u hj
  exact (Below.kept hB).cell hc (by have := World.block_lt_of_cell? w _ hc; simp at this; show ¬ w.heap.size ≤ b; omega)

section
variable {H : Type} {enc : TypeId × Value → H} {W : World} {base : Nat} {spare : Nat → Bool} {held : Bool}

theorem reachL : reachBytes ≤ 140737488355328 := by
  have hr := reachBytes_lt
  have h47 : (2 : Nat) ^ 47 = 140737488355328 := by decide
  omega
/-- A list of bytes inside a cell. -/
theorem open_bytesL {fuel : Nat} {v : Value} {x : DataW H × List MemPlace} (h : DataW.trod enc Tryd.prog W base spare held fuel 39 [v] = some x) (hw : (x.1.weights Tryd.prog 39).all (· ≤ reachBytes) = true) :
    ∃ (ao : Option Addr) (cap : Nat) (ys : List Int), v = .slice ao ys.length cap ∧ Sees W (.slice ao ys.length cap) ys ∧ ys.length ≤ 140737488355328 ∧ Byts ys := by
  rcases open_ints Tryd.underlying39 Tryd.underlying5 (by kernel_rfl) h with ⟨hcs, _⟩ | ⟨a, l, c, zs, hcs, _, hl, hm, hz, hx, hcell, hwz⟩
  · simp at hcs
    subst hcs
    exact ⟨none, 0, [], rfl, seesP_nil W, Nat.zero_le _, fun x hx => by simp at hx⟩
  · simp at hcs
    subst hcs
    have hlz : l ≤ zs.length := by rw [hz]; split <;> omega
    have hlen : (zs.take l).length = l := by simp; omega
    refine ⟨some a, c, zs.take l, by rw [hlen], ?_, ?_, fun y hy => bounds_u8 (hwz y (List.mem_of_mem_take hy))⟩
    · refine ⟨some a, c, rfl, by omega, hm, fun e => by simp at e, ?_⟩
      by_cases h0 : l = 0
      · subst h0; exact .inl (by simp)
      · obtain ⟨b, off, spot⟩ := a
        have hc := hcell 0 (by omega)
        have hspot : spot = none := by simpa [Addr.add] using World.cell?_spot hc
        subst hspot
        refine .inr ⟨b, off, rfl, fun i hi => ?_⟩
        have := hcell i (by omega)
        rw [addP8] at this
        rw [this]
        have hi' : i < l := by omega
        simp [List.getD_eq_getElem?_getD, hi']
    · have hb1 : Tryd.prog.bytesOf 5 = 1 := by kernel_rfl
      rw [hx] at hw
      simp only [DataW.weights, Tryd.underlying39, hb1, List.all_cons, Bool.and_eq_true, decide_eq_true_eq] at hw
      have h1 := hw.1
      have h2 : (lits (H := H) .u8 (zs.take l)).length = (zs.take l).length := by simp [lits]
      have := reachL
      omega

theorem open_opT {fuel : Nat} {cs : List Value} {x : DataW H × List MemPlace} (h : DataW.trod enc Tryd.prog W base spare held fuel 41 cs = some x) (hw : (x.1.weights Tryd.prog 41).all (· ≤ reachBytes) = true) :
    ∃ o : OpT, cs = o.cells ∧ GoodT W o := by
  have hcells : Tryd.prog.cellsOf 41 = 8 := by kernel_rfl
  obtain ⟨xs, n, _, hx, hl, hxl, hf⟩ := DataW.trod_struct Tryd.underlying41 h
  rw [hcells] at hl
  have q1 : Tryd.prog.cellsOf 3 = 1 := by kernel_rfl
  have q2 : Tryd.prog.cellsOf 38 = 1 := by kernel_rfl
  have q3 : Tryd.prog.cellsOf 39 = 1 := by kernel_rfl
  have q4 : Tryd.prog.cellsOf 5 = 1 := by kernel_rfl
  have g0 : DataW.trod enc Tryd.prog W base spare held n 3 ((cs.drop 0).take (Tryd.prog.cellsOf 3)) = xs[0]? := hf 0 _ rfl
  have g1 : DataW.trod enc Tryd.prog W base spare held n 3 ((cs.drop 1).take (Tryd.prog.cellsOf 3)) = xs[1]? := hf 1 _ rfl
  have g2 : DataW.trod enc Tryd.prog W base spare held n 38 ((cs.drop 2).take (Tryd.prog.cellsOf 38)) = xs[2]? := hf 2 _ rfl
  have g3 : DataW.trod enc Tryd.prog W base spare held n 38 ((cs.drop 3).take (Tryd.prog.cellsOf 38)) = xs[3]? := hf 3 _ rfl
  have g4 : DataW.trod enc Tryd.prog W base spare held n 39 ((cs.drop 4).take (Tryd.prog.cellsOf 39)) = xs[4]? := hf 4 _ rfl
  have g5 : DataW.trod enc Tryd.prog W base spare held n 3 ((cs.drop 5).take (Tryd.prog.cellsOf 3)) = xs[5]? := hf 5 _ rfl
  have g6 : DataW.trod enc Tryd.prog W base spare held n 3 ((cs.drop 6).take (Tryd.prog.cellsOf 3)) = xs[6]? := hf 6 _ rfl
  have g7 : DataW.trod enc Tryd.prog W base spare held n 5 ((cs.drop 7).take (Tryd.prog.cellsOf 5)) = xs[7]? := hf 7 _ rfl
  have hxl8 : xs.length = 8 := hxl
  clear hf hxl
  match xs, hxl8, cs, hl with
  | [y0, y1, y2, y3, y4, y5, y6, y7], _, [v0, v1, v2, v3, v4, v5, v6, v7], _ =>
    rw [q1] at g0 g1 g5 g6
    rw [q2] at g2 g3
    rw [q3] at g4
    rw [q4] at g7
    rw [hx] at hw
    simp only [DataW.weights, Tryd.underlying41] at hw
    have hm : (y4.1.weights Tryd.prog 39).all (· ≤ reachBytes) = true := by
      rw [List.all_eq_true] at hw ⊢
      intro m hm
      exact hw m (DataW.weights_mem_each (ts := [3, 3, 38, 38, 39, 3, 3, 5]) (j := 4) rfl rfl m hm)
    obtain ⟨a, e0, _, _⟩ := DataW.trod_int Tryd.underlying3 (show DataW.trod enc Tryd.prog W base spare held n 3 [v0] = some y0 from g0)
    obtain ⟨b, e1, _, _⟩ := DataW.trod_int Tryd.underlying3 (show DataW.trod enc Tryd.prog W base spare held n 3 [v1] = some y1 from g1)
    obtain ⟨c, e2, _, w2⟩ := DataW.trod_int Tryd.underlying38 (show DataW.trod enc Tryd.prog W base spare held n 38 [v2] = some y2 from g2)
    obtain ⟨d, e3, _, w3⟩ := DataW.trod_int Tryd.underlying38 (show DataW.trod enc Tryd.prog W base spare held n 38 [v3] = some y3 from g3)
    obtain ⟨ao, cap, ys, e4, hs, hsl, hby⟩ := open_bytesL (show DataW.trod enc Tryd.prog W base spare held n 39 [v4] = some y4 from g4) hm
    obtain ⟨p, e5, _, _⟩ := DataW.trod_int Tryd.underlying3 (show DataW.trod enc Tryd.prog W base spare held n 3 [v5] = some y5 from g5)
    obtain ⟨k, e6, _, _⟩ := DataW.trod_int Tryd.underlying3 (show DataW.trod enc Tryd.prog W base spare held n 3 [v6] = some y6 from g6)
    obtain ⟨z, e7, _, w7⟩ := DataW.trod_int Tryd.underlying5 (show DataW.trod enc Tryd.prog W base spare held n 5 [v7] = some y7 from g7)
    simp at e0 e1 e2 e3 e5 e6 e7
    subst e0 e1 e2 e3 e4 e5 e6 e7
    exact ⟨⟨a, b, c, d, ao, cap, ys, p, k, z⟩, rfl, hs, hby, hsl, (bounds_i8 w2).1, (bounds_i8 w2).2, (bounds_i8 w3).1, (bounds_i8 w3).2, (bounds_u8 w7).1, (bounds_u8 w7).2⟩

theorem weightsL_all {P : Program} {e : TypeId} : ∀ {ds : List (DataW H)} {d : DataW H}, d ∈ ds → ∀ n ∈ d.weights P e, n ∈ DataW.weightsAll P e ds
  | d0 :: ds, d, hd, n, hn => by
    simp only [DataW.weightsAll, List.mem_append]
    rcases List.mem_cons.1 hd with rfl | hd
    · exact .inl hn
    · exact .inr (weightsL_all hd n hn)

theorem open_opsT {fuel : Nat} {v : Value} {x : DataW H × List MemPlace} (h : DataW.trod enc Tryd.prog W base spare held fuel 22 [v] = some x) (hw : (x.1.weights Tryd.prog 22).all (· ≤ reachBytes) = true) :
    ∃ l : List OpT, SeesTs W v l ∧ l.length ≤ 140737488355328 := by
  have hcells : Tryd.prog.cellsOf 41 = 8 := by kernel_rfl
  rcases Deep.open_slice Tryd.underlying22 h with ⟨hcs, _⟩ | ⟨a', len, cap, m, n, D, Pl, hcs, _, hl, hm, hmm, hx, hel⟩
  · simp at hcs
    subst hcs
    exact ⟨[], ⟨none, 0, rfl, Nat.le_refl _, by simp, fun e => absurd rfl e⟩, Nat.zero_le _⟩
  · simp at hcs
    subst hcs
    have hlm : len ≤ m := by rw [hmm]; split <;> omega
    have hbo : Tryd.prog.bytesOf 41 = 72 := by kernel_rfl
    rw [hx] at hw
    simp only [DataW.weights, Tryd.underlying22, hbo, List.all_cons, List.all_append, Bool.and_eq_true, decide_eq_true_eq] at hw
    have hwd : ∀ i, i < len → ((D i).weights Tryd.prog 41).all (· ≤ reachBytes) = true := by
      intro i hi
      have := hw.2.1
      rw [List.all_eq_true] at this ⊢
      intro q hq
      exact this q (weightsL_all (List.mem_map.2 ⟨i, List.mem_range.2 hi, rfl⟩) q hq)
    have each : ∀ i, i < len → ∃ o : OpT, (∀ j, j < 8 → W.cell? (a'.add (i * 8 + j)) = o.cells[j]?) ∧ GoodT W o := by
      intro i hi
      obtain ⟨cs', h1, h2⟩ := hel i (by omega)
      rw [hcells] at h1
      obtain ⟨_, hlen, hcell⟩ := World.cells?_some h1
      obtain ⟨o, e, hg⟩ := open_opT h2 (hwd i hi)
      refine ⟨o, fun j hj => ?_, hg⟩
      have := hcell j hj
      rw [Deep.add_add] at this
      rw [← e, this]
    have : Inhabited OpT := ⟨⟨0, 0, 0, 0, none, 0, [], 0, 0, 0⟩⟩
    obtain ⟨O, hO⟩ := Deep.choose_lt each
    have hol : ((List.range len).map O).length = len := by simp
    refine ⟨(List.range len).map O, ⟨some a', cap, by rw [hol], by omega, ?_, fun hne => ?_⟩, ?_⟩
    · intro s hs
      obtain ⟨i, hi, rfl⟩ := List.mem_map.1 hs
      exact (hO i (by simpa using hi)).2
    · have h0 : len ≠ 0 := fun e => hne (by subst e; rfl)
      obtain ⟨b, off, spot⟩ := a'
      have hc := (hO 0 (by omega)).1 0 (by omega)
      have hc' : W.cell? ((⟨b, off, spot⟩ : Addr).add (0 * 8 + 0)) = some (.int .i64 (O 0).kd) := hc
      have hspot : spot = none := by simpa [Addr.add] using World.cell?_spot hc'
      subst hspot
      refine ⟨b, off, rfl, fun i s hs j u hj => ?_⟩
      have hi : i < len := by rw [← hol]; exact (List.getElem?_eq_some_iff.1 hs).1
      have c := (hO i hi).1
      simp only [Addr.add_lit] at c
      have es : s = O i := by
        have := (List.getElem?_eq_some_iff.1 hs).2
        simpa using this.symm
      subst es
      have hj8 : j < 8 := (List.getElem?_eq_some_iff.1 hj).1
      rw [Nat.add_assoc, c j hj8, hj]
    · rw [hol]
      have h1 := hw.1
      simp at h1
      have hr := reachL
      omega
end
end Go.Proofs.YtghngopclhhoeaaDoor
