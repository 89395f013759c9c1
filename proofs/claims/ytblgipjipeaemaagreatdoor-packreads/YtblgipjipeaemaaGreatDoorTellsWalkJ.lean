/- A list of calls that came in, opened: what the statement's reading says of its cells; no Go function is walked here. -/
import Derived.Test.YtblgipjipeaemaaGreatDoorShellJ
import Derived.Deep.Slices
import Derived.SizedLaws
import Derived.Test.YtblgipjipeaemaaGreatDoorRawJ
import Derived.Test.YtblgipjipeaemaaGreatDoorTells2J
import Derived.Deep.RegionHeld
import Derived.Deep.CutRange
namespace Go.Proofs.YtblgipjipeaemaaGreatDoor
open Go.ChangeShapes Go.WideShapes Go.ChangeAt Go.RowKit
set_option maxRecDepth 8000

section
variable {H : Type} {enc : TypeId × Value → H} {W : World} {base : Nat} {spare : Nat → Bool} {held : Bool}

/-- A list of bytes inside a cell. -/
theorem open_bytes {fuel : Nat} {v : Value} {x : DataW H × List MemPlace} (h : DataW.trod enc Tryz.prog W base spare held fuel 22 [v] = some x) :
    ∃ (ao : Option Addr) (cap : Nat) (ys : List Int), v = .slice ao ys.length cap ∧ Sees W (.slice ao ys.length cap) ys ∧ Byts ys ∧ ((x.1.weights Tryz.prog 22).all (· ≤ reachBytes) = true → ys.length ≤ reachBytes) := by
  rcases open_ints Tryz.underlying22 Tryz.underlying5 (by kernel_rfl) h with ⟨hcs, _⟩ | ⟨a, l, c, zs, hcs, _, hl, hm, hz, hx, hcell, hwz⟩
  · simp at hcs
    subst hcs
    exact ⟨none, 0, [], rfl, sees_nil W, fun x hx => by simp at hx, fun _ => Nat.zero_le _⟩
  · simp at hcs
    subst hcs
    have hlz : l ≤ zs.length := by rw [hz]; split <;> omega
    have hlen : (zs.take l).length = l := by simp; omega
    refine ⟨some a, c, zs.take l, by rw [hlen], ?_, ?_, ?_⟩
    · refine ⟨some a, c, rfl, by omega, hm, fun e => by simp at e, ?_⟩
      by_cases h0 : l = 0
      · subst h0; exact .inl (by simp)
      · obtain ⟨b, off, spot⟩ := a
        have hc := hcell 0 (by omega)
        have hspot : spot = none := by simpa [Addr.add] using World.cell?_spot hc
        subst hspot
        refine .inr ⟨b, off, rfl, fun i hi => ?_⟩
        have := hcell i (by omega)
        rw [addr_add] at this
        rw [this]
        have hi' : i < l := by omega
        simp [List.getD_eq_getElem?_getD, hi']
    · intro y hy
      exact bounds_u8 (hwz y (List.mem_of_mem_take hy))
    · intro hw
      have hb1 : Tryz.prog.bytesOf 5 = 1 := by kernel_rfl
      rw [hx] at hw
      simp only [DataW.weights, Tryz.underlying22, hb1, List.all_cons, Bool.and_eq_true, decide_eq_true_eq] at hw
      have h1 := hw.1
      have h2 : (lits (H := H) .u8 (zs.take l)).length = (zs.take l).length := by simp [lits]
      omega

theorem trod_float' {t : TypeId} {fuel : Nat} {v : Value} {x : DataW H × List MemPlace} (ht : Tryz.prog.underlying t = some (.float .f64)) (h : DataW.trod enc Tryz.prog W base spare held fuel t [v] = some x) : ∃ b, [v] = [Value.float .f64 b] ∧ b < 18446744073709551616 := by
  cases fuel with
  | zero => simp [DataW.trod] at h
  | succ n =>
    unfold DataW.trod at h
    rw [ht] at h
    split at h <;> simp_all
    rename_i hk
    subst hk
    have hw := h.1.2
    simpa [Lit.wf] using hw

/-- What holds of a call that came in. -/
structure GoodOp (W : World) (o : OpD) : Prop where
  see : Sees W (.slice o.ao o.ys.length o.cap) o.ys
  byts : Byts o.ys
  n0 : -9223372036854775808 ≤ o.n
  n1 : o.n ≤ 9223372036854775807
  k0 : -9223372036854775808 ≤ o.kind
  k1 : o.kind ≤ 9223372036854775807
  x1 : o.x < 18446744073709551616

theorem open_op {fuel : Nat} {cs : List Value} {x : DataW H × List MemPlace} (h : DataW.trod enc Tryz.prog W base spare held fuel 46 cs = some x) (hw : (x.1.weights Tryz.prog 46).all (· ≤ reachBytes) = true) :
    ∃ o : OpD, cs = [.int .i64 o.kind, .int .i64 o.on, .int .i64 o.n, .float .f64 o.x, .string o.s, .slice o.ao o.ys.length o.cap] ∧ GoodOp W o ∧ o.s.size ≤ reachBytes ∧ o.ys.length ≤ reachBytes := by
  have hcells : Tryz.prog.cellsOf 46 = 6 := by kernel_rfl
  obtain ⟨xs, n, _, hx, hl, hxl, hf⟩ := DataW.trod_struct Tryz.underlying46 h
  rw [hcells] at hl
  have q1 : Tryz.prog.cellsOf 3 = 1 := by kernel_rfl
  have q2 : Tryz.prog.cellsOf 2 = 1 := by kernel_rfl
  have q3 : Tryz.prog.cellsOf 44 = 1 := by kernel_rfl
  have q4 : Tryz.prog.cellsOf 9 = 1 := by kernel_rfl
  have q5 : Tryz.prog.cellsOf 22 = 1 := by kernel_rfl
  have g0 : DataW.trod enc Tryz.prog W base spare held n 3 ((cs.drop 0).take (Tryz.prog.cellsOf 3)) = xs[0]? := hf 0 _ rfl
  have g1 : DataW.trod enc Tryz.prog W base spare held n 3 ((cs.drop 1).take (Tryz.prog.cellsOf 3)) = xs[1]? := hf 1 _ rfl
  have g2 : DataW.trod enc Tryz.prog W base spare held n 2 ((cs.drop 2).take (Tryz.prog.cellsOf 2)) = xs[2]? := hf 2 _ rfl
  have g3 : DataW.trod enc Tryz.prog W base spare held n 44 ((cs.drop 3).take (Tryz.prog.cellsOf 44)) = xs[3]? := hf 3 _ rfl
  have g4 : DataW.trod enc Tryz.prog W base spare held n 9 ((cs.drop 4).take (Tryz.prog.cellsOf 9)) = xs[4]? := hf 4 _ rfl
  have g5 : DataW.trod enc Tryz.prog W base spare held n 22 ((cs.drop 5).take (Tryz.prog.cellsOf 22)) = xs[5]? := hf 5 _ rfl
  have hxl6 : xs.length = 6 := hxl
  clear hf hxl
  match xs, hxl6, cs, hl with
  | [y0, y1, y2, y3, y4, y5], _, [v0, v1, v2, v3, v4, v5], _ =>
    rw [q1] at g0 g1
    rw [q2] at g2
    rw [q3] at g3
    rw [q4] at g4
    rw [q5] at g5
    obtain ⟨kind, e0, _, w0⟩ := DataW.trod_int Tryz.underlying3 (show DataW.trod enc Tryz.prog W base spare held n 3 [v0] = some y0 from g0)
    obtain ⟨on, e1, _, _⟩ := DataW.trod_int Tryz.underlying3 (show DataW.trod enc Tryz.prog W base spare held n 3 [v1] = some y1 from g1)
    obtain ⟨nn, e2, _, w2⟩ := DataW.trod_int Tryz.underlying2 (show DataW.trod enc Tryz.prog W base spare held n 2 [v2] = some y2 from g2)
    obtain ⟨xx, e3, w3⟩ := trod_float' Tryz.underlying44 (show DataW.trod enc Tryz.prog W base spare held n 44 [v3] = some y3 from g3)
    obtain ⟨s, e4, d4, _⟩ := DataW.trod_string Tryz.underlying9 (show DataW.trod enc Tryz.prog W base spare held n 9 [v4] = some y4 from g4)
    obtain ⟨ao, cap, ys, e5, hs, hb, hwy⟩ := open_bytes (show DataW.trod enc Tryz.prog W base spare held n 22 [v5] = some y5 from g5)
    simp at e0 e1 e2 e3 e4
    subst e0 e1 e2 e3 e4 e5
    rw [hx] at hw
    simp only [DataW.weights, Tryz.underlying46] at hw
    have hm : ∀ (j : Nat) (t : TypeId) (d : DataW H), ([3, 3, 2, 44, 9, 22] : List TypeId)[j]? = some t → ([y0.1, y1.1, y2.1, y3.1, y4.1, y5.1] : List (DataW H))[j]? = some d → (d.weights Tryz.prog t).all (· ≤ reachBytes) = true := by
      intro j t d ht hd
      rw [List.all_eq_true] at hw ⊢
      intro m hm
      exact hw m (DataW.weights_mem_each (ts := [3, 3, 2, 44, 9, 22]) ht hd m hm)
    have hw4 := hm 4 _ _ rfl rfl
    have hw5 := hm 5 _ _ rfl rfl
    rw [d4] at hw4
    simp [DataW.weights] at hw4
    have b0 := bounds_i64 w0
    have b2 := bounds_i64 w2
    refine ⟨⟨kind, on, nn, xx, s, ao, cap, ys⟩, rfl, ⟨hs, hb, b2.1, b2.2, b0.1, b0.2, w3⟩, ?_, hwy hw5⟩
    exact hw4

theorem weights_all {P : Program} {e : TypeId} : ∀ {ds : List (DataW H)} {d : DataW H}, d ∈ ds → ∀ n ∈ d.weights P e, n ∈ DataW.weightsAll P e ds
  | d0 :: ds, d, hd, n, hn => by
    simp only [DataW.weightsAll, List.mem_append]
    rcases List.mem_cons.1 hd with rfl | hd
    · exact .inl hn
    · exact .inr (weights_all hd n hn)

instance : Inhabited OpD := ⟨⟨0, 0, 0, 0, ⟨#[]⟩, none, 0, []⟩⟩

/-- A list of calls that came in. -/
theorem open_ops {fuel : Nat} {a : Option Addr} {len cap : Nat} {x : DataW H × List MemPlace} (h : DataW.trod enc Tryz.prog W base spare held fuel 23 [.slice a len cap] = some x)
    (hw : (x.1.weights Tryz.prog 23).all (· ≤ reachBytes) = true) :
    ∃ os : List OpD, os.length = len ∧ SeesOps W (.slice a len cap) os ∧ ∀ o ∈ os, GoodOp W o := by
  have hcells : Tryz.prog.cellsOf 46 = 6 := by kernel_rfl
  rcases Deep.open_slice Tryz.underlying23 h with ⟨hcs, _⟩ | ⟨a', l, c, m, n, D, Pl, hcs, _, hl, hm, hmm, hx, hel⟩
  · simp at hcs
    obtain ⟨rfl, rfl, rfl⟩ := hcs
    exact ⟨[], rfl, ⟨none, 0, rfl, Nat.le_refl _, by unfold maxLen; omega, .inl rfl⟩, fun o ho => by simp at ho⟩
  · simp at hcs
    obtain ⟨rfl, rfl, rfl⟩ := hcs
    have hlm : len ≤ m := by rw [hmm]; split <;> omega
    rw [hx] at hw
    simp only [DataW.weights, Tryz.underlying23, List.all_cons, List.all_append, Bool.and_eq_true] at hw
    have hwd : ∀ i, i < len → ((D i).weights Tryz.prog 46).all (· ≤ reachBytes) = true := by
      intro i hi
      have := hw.2.1
      rw [List.all_eq_true] at this ⊢
      intro q hq
      exact this q (weights_all (List.mem_map.2 ⟨i, List.mem_range.2 hi, rfl⟩) q hq)
    have each : ∀ i, i < len → ∃ o : OpD, GoodOp W o ∧ o.s.size ≤ reachBytes ∧ o.ys.length ≤ reachBytes ∧ ∀ j, j < 6 → W.cell? (a'.add (i * 6 + j)) = [Value.int .i64 o.kind, .int .i64 o.on, .int .i64 o.n, .float .f64 o.x, .string o.s, .slice o.ao o.ys.length o.cap][j]? := by
      intro i hi
      obtain ⟨cs', h1, h2⟩ := hel i (by omega)
      rw [hcells] at h1
      obtain ⟨_, hlen, hcell⟩ := World.cells?_some h1
      obtain ⟨o, e, hg, hs, hy⟩ := open_op h2 (hwd i hi)
      refine ⟨o, hg, hs, hy, fun j hj => ?_⟩
      have := hcell j hj
      rw [Deep.add_add] at this
      rw [← e, this]
    obtain ⟨O, hO⟩ := Deep.choose_lt each
    have hol : ((List.range len).map O).length = len := by simp
    refine ⟨(List.range len).map O, hol, ⟨some a', cap, by rw [hol], by omega, hm, ?_⟩, fun o ho => ?_⟩
    · by_cases h0 : len = 0
      · subst h0; exact .inl rfl
      · obtain ⟨b, off, spot⟩ := a'
        have hc := (hO 0 (by omega)).2.2.2 0 (by omega)
        have hspot : spot = none := by simpa [Addr.add] using World.cell?_spot hc
        subst hspot
        refine .inr ⟨b, off, rfl, fun i hi => ?_⟩
        rw [hol] at hi
        have hr := reachBytes_lt
        have h47 : (2 : Nat) ^ 47 = 140737488355328 := by decide
        rw [h47] at hr
        have hq := hO i hi
        have c := hq.2.2.2
        simp only [addr_add] at c
        simp only [List.getElem_map, List.getElem_range]
        refine ⟨?_, ?_, ?_, ?_, ?_, ?_, by omega, by omega⟩
        · exact c 0 (by omega)
        · exact c 1 (by omega)
        · exact c 2 (by omega)
        · exact c 3 (by omega)
        · exact c 4 (by omega)
        · exact c 5 (by omega)
    · obtain ⟨i, hi, rfl⟩ := List.mem_map.1 ho
      exact (hO i (List.mem_range.1 hi)).1

end
end Go.Proofs.YtblgipjipeaemaaGreatDoor

/- What joined of the statements answers: the bytes of both, one behind the other, in a row of its own. -/
namespace Go.Proofs.YtblgipjipeaemaaGreatDoor
open Go.RowKit
set_option maxRecDepth 8000

end Go.Proofs.YtblgipjipeaemaaGreatDoor

/- The walk of PackTells: for every list of calls it answers true. -/
namespace Go.Proofs.YtblgipjipeaemaaGreatDoor
open Go.ChangeShapes Go.WideShapes Go.ChangeAt Go.RowKit
set_option maxRecDepth 8000
namespace packTells

theorem SeesOp.below {B : Nat} {w w' : World} {b off : Nat} {o : OpD} (h : SeesOp w b off o) (hb : Below B w w') (hB : w.heap.size ≤ B) : SeesOp w' b off o :=
  ⟨cell_later h.c0 hb hB, cell_later h.c1 hb hB, cell_later h.c2 hb hB, cell_later h.c3 hb hB, cell_later h.c4 hb hB, cell_later h.c5 hb hB, h.sb, h.yb⟩

theorem SeesOps.below {B : Nat} {w w' : World} {v : Value} {os : List OpD} (h : SeesOps w v os) (hb : Below B w w') (hB : w.heap.size ≤ B) : SeesOps w' v os := by
  obtain ⟨ao, cap, rfl, h1, h2, h3⟩ := h
  refine ⟨ao, cap, rfl, h1, h2, ?_⟩
  rcases h3 with h3 | ⟨b, off, rfl, h3⟩
  · exact .inl h3
  · exact .inr ⟨b, off, rfl, fun i hi => SeesOp.below (h3 i hi) hb hB⟩

theorem and1 (n : Int) : ∃ b : Bool, bits .and .i64 n 1 = (ix b : Int) := by
  have h : bits .and .i64 n 1 = 0 ∨ bits .and .i64 n 1 = 1 := by
    unfold bits
    have e : (BitVec.ofInt 64 n &&& BitVec.ofInt 64 1).toNat = (BitVec.ofInt 64 n).toNat % 2 := by
      rw [BitVec.toNat_and]
      show (BitVec.ofInt 64 n).toNat &&& 1 = _
      exact Nat.and_one_is_mod _
    show IntKind.i64.wrap ((BitVec.ofInt 64 n &&& BitVec.ofInt 64 1).toNat : Int) = 0 ∨ _
    rw [e]
    have h2 : (BitVec.ofInt 64 n).toNat % 2 = 0 ∨ (BitVec.ofInt 64 n).toNat % 2 = 1 := by omega
    rcases h2 with h2 | h2
    · left; rw [h2]; rfl
    · right
      show IntKind.i64.wrap ((BitVec.ofInt 64 n &&& BitVec.ofInt 64 1).toNat : Int) = 1
      rw [e, h2]; rfl
  rcases h with h | h
  · exact ⟨false, h⟩
  · exact ⟨true, h⟩

/-- The two Writers' blocks. -/
def wsAt (N : Nat) : Bool → Nat := fun b => if b then N + 3 else N + 2

theorem opLen' (sd : List OpD) : sd.length ≤ opSum sd := by
  induction sd with
  | nil => simp [opSum]
  | cons o r ih => simp only [List.length_cons, opSum, OpD.size]; omega

end packTells
end Go.Proofs.YtblgipjipeaemaaGreatDoor