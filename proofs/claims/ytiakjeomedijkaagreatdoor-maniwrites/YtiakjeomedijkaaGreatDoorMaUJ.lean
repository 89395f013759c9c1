/- A list of calls and a list of numbers that came in, opened: what the statement's reading says of their cells; no Go function is walked here. -/
import Derived.Test.YtiakjeomedijkaaGreatDoorDkRJ
import Derived.Deep.Slices
import Derived.SizedLaws
import Derived.ProofKit
import Derived.OpenShut
import Derived.ShutString
import Derived.ChangeOld
import Derived.Test.YtiakjeomedijkaaGreatDoorMaMJ
namespace Go.Proofs.YtiakjeomedijkaaGreatDoor
open Go.ChangeShapes Go.WideShapes Go.ChangeAt Go.RowKit
set_option maxRecDepth 8000

theorem Tryz.own : ownKnob Tryz.prog.godebug = none := by kernel_rfl
theorem Tryz.laidOut : laidOutB Tryz.prog = true := by kernel_rfl

theorem addK (b off n : Nat) : (⟨b, off, none⟩ : Addr).add n = ⟨b, off + n, none⟩ := by
  by_cases h : n = 0
  · subst h; simp [Addr.add]
  · simp [Addr.add, h]

theorem seesK_nil (w : World) : Sees w (.slice none 0 0) [] := ⟨none, 0, rfl, Nat.le_refl _, by unfold maxLen; omega, fun _ => rfl, .inl rfl⟩
theorem seesN_nil (w : World) : SeesN w (.slice none 0 0) [] := ⟨none, 0, rfl, Nat.le_refl _, by unfold maxLen; omega, .inl rfl⟩

theorem reachK : reachBytes ≤ 140737488355328 := by
  have hr := reachBytes_lt
  have h47 : (2 : Nat) ^ 47 = 140737488355328 := by decide
  omega

section
variable {H : Type} {enc : TypeId × Value → H} {W : World} {base : Nat} {spare : Nat → Bool} {held : Bool}

/-- A list of bytes inside a cell. -/
theorem open_bytesK {fuel : Nat} {v : Value} {x : DataW H × List MemPlace} (h : DataW.trod enc Tryz.prog W base spare held fuel 26 [v] = some x) (hw : (x.1.weights Tryz.prog 26).all (· ≤ reachBytes) = true) :
    ∃ (ao : Option Addr) (cap : Nat) (ys : List Int), v = .slice ao ys.length cap ∧ Sees W (.slice ao ys.length cap) ys ∧ (ys ≠ [] → ∀ k, (Value.slice ao ys.length cap).ownBlock = some k → k < W.heap.size) ∧ ys.length ≤ 140737488355328 := by
  rcases open_ints Tryz.underlying26 Tryz.underlying5 (by kernel_rfl) h with ⟨hcs, _⟩ | ⟨a, l, c, zs, hcs, _, hl, hm, hz, hx, hcell, hwz⟩
  · simp at hcs
    subst hcs
    exact ⟨none, 0, [], rfl, seesK_nil W, fun e => absurd rfl e, Nat.zero_le _⟩
  · simp at hcs
    subst hcs
    have hlz : l ≤ zs.length := by rw [hz]; split <;> omega
    have hlen : (zs.take l).length = l := by simp; omega
    refine ⟨some a, c, zs.take l, by rw [hlen], ?_, ?_, ?_⟩
    · refine ⟨some a, c, rfl, by omega, hm, fun e => by simp at e, ?_⟩
      by_cases h0 : l = 0
      · subst h0; exact .inl (by simp)
      · obtain ⟨b, off, spot⟩ := a
        have hc := hcell 0 (by omega)
        have hspot : spot = none := by simpa [Addr.add] using World.cell?_spot hc
        subst hspot
        refine .inr ⟨b, off, rfl, fun i hi => ?_⟩
        have := hcell i (by omega)
        rw [addK] at this
        rw [this]
        have hi' : i < l := by omega
        simp [List.getD_eq_getElem?_getD, hi']
    · intro hne k hk
      have h0 : l ≠ 0 := fun e => hne (by rw [e]; rfl)
      have hc := World.block_lt_of_cell? W _ (hcell 0 (by omega))
      have e : (a.add 0).block = a.block := by simp [Addr.add]
      have hk' : a.block = k := by simpa [Value.ownBlock] using hk
      rw [e, hk'] at hc
      exact hc
    · have hb1 : Tryz.prog.bytesOf 5 = 1 := by kernel_rfl
      rw [hx] at hw
      simp only [DataW.weights, Tryz.underlying26, hb1, List.all_cons, Bool.and_eq_true, decide_eq_true_eq] at hw
      have h1 := hw.1
      have h2 : (lits (H := H) .u8 (zs.take l)).length = (zs.take l).length := by simp [lits]
      have := reachK
      omega

/-- A list of numbers. -/
theorem open_numsK {fuel : Nat} {v : Value} {x : DataW H × List MemPlace} (h : DataW.trod enc Tryz.prog W base spare held fuel 118 [v] = some x) (hw : (x.1.weights Tryz.prog 118).all (· ≤ reachBytes) = true) :
    ∃ (ao : Option Addr) (cap : Nat) (ks : List Int), v = .slice ao ks.length cap ∧ SeesN W (.slice ao ks.length cap) ks ∧ (ks ≠ [] → ∀ k, (Value.slice ao ks.length cap).ownBlock = some k → k < W.heap.size) ∧ ks.length ≤ 140737488355328 := by
  rcases open_ints Tryz.underlying118 Tryz.underlying3 (by kernel_rfl) h with ⟨hcs, _⟩ | ⟨a, l, c, zs, hcs, _, hl, hm, hz, hx, hcell, hwz⟩
  · simp at hcs
    subst hcs
    exact ⟨none, 0, [], rfl, seesN_nil W, fun e => absurd rfl e, Nat.zero_le _⟩
  · simp at hcs
    subst hcs
    have hlz : l ≤ zs.length := by rw [hz]; split <;> omega
    have hlen : (zs.take l).length = l := by simp; omega
    refine ⟨some a, c, zs.take l, by rw [hlen], ?_, ?_, ?_⟩
    · refine ⟨some a, c, rfl, by omega, hm, ?_⟩
      by_cases h0 : l = 0
      · subst h0; exact .inl (by simp)
      · obtain ⟨b, off, spot⟩ := a
        have hc := hcell 0 (by omega)
        have hspot : spot = none := by simpa [Addr.add] using World.cell?_spot hc
        subst hspot
        refine .inr ⟨b, off, rfl, fun i hi => ?_⟩
        have := hcell i (by omega)
        rw [addK] at this
        rw [this]
        have hi' : i < l := by omega
        simp [List.getD_eq_getElem?_getD, hi']
    · intro hne k hk
      have h0 : l ≠ 0 := fun e => hne (by rw [e]; rfl)
      have hc := World.block_lt_of_cell? W _ (hcell 0 (by omega))
      have e : (a.add 0).block = a.block := by simp [Addr.add]
      have hk' : a.block = k := by simpa [Value.ownBlock] using hk
      rw [e, hk'] at hc
      exact hc
    · have hb1 : Tryz.prog.bytesOf 3 = 8 := by kernel_rfl
      rw [hx] at hw
      simp only [DataW.weights, Tryz.underlying118, hb1, List.all_cons, Bool.and_eq_true, decide_eq_true_eq] at hw
      have h1 := hw.1
      have h2 : (lits (H := H) .i64 (zs.take l)).length = (zs.take l).length := by simp [lits]
      have := reachK
      omega

theorem weightsK_all {P : Program} {e : TypeId} : ∀ {ds : List (DataW H)} {d : DataW H}, d ∈ ds → ∀ n ∈ d.weights P e, n ∈ DataW.weightsAll P e ds
  | d0 :: ds, d, hd, n, hn => by
    simp only [DataW.weightsAll, List.mem_append]
    rcases List.mem_cons.1 hd with rfl | hd
    · exact .inl hn
    · exact .inr (weightsK_all hd n hn)

instance : Inhabited OpK := ⟨⟨0, ⟨#[]⟩, ⟨#[]⟩, none, 0, [], 0, none, 0, []⟩⟩

end
end Go.Proofs.YtiakjeomedijkaaGreatDoor

/- A manifest that came in, opened. -/
namespace Go.Proofs.YtiakjeomedijkaaGreatDoor
open Go.ChangeShapes Go.WideShapes Go.ChangeAt Go.RowKit
set_option maxRecDepth 8000

section
variable {H : Type} {enc : TypeId × Value → H} {W : World} {base : Nat} {spare : Nat → Bool} {held : Bool}

theorem open_man {fuel : Nat} {cs : List Value} {x : DataW H × List MemPlace} (h : DataW.trod enc Tryz.prog W base spare held fuel 24 cs = some x) : ∃ m : MaD, cs = [.int .u32 m.boot, .int .u32 m.acc, .int .u32 m.cur, .int .i64 m.snap, .int .i64 m.log] ∧ m.Fits := by
  have hcells : Tryz.prog.cellsOf 24 = 5 := by kernel_rfl
  obtain ⟨xs, n, _, hx, hl, hxl, hf⟩ := DataW.trod_struct Tryz.underlying24 h
  rw [hcells] at hl
  have q1 : Tryz.prog.cellsOf 22 = 1 := by kernel_rfl
  have q2 : Tryz.prog.cellsOf 2 = 1 := by kernel_rfl
  have g0 : DataW.trod enc Tryz.prog W base spare held n 22 ((cs.drop 0).take (Tryz.prog.cellsOf 22)) = xs[0]? := hf 0 _ rfl
  have g1 : DataW.trod enc Tryz.prog W base spare held n 22 ((cs.drop 1).take (Tryz.prog.cellsOf 22)) = xs[1]? := hf 1 _ rfl
  have g2 : DataW.trod enc Tryz.prog W base spare held n 22 ((cs.drop 2).take (Tryz.prog.cellsOf 22)) = xs[2]? := hf 2 _ rfl
  have g3 : DataW.trod enc Tryz.prog W base spare held n 2 ((cs.drop 3).take (Tryz.prog.cellsOf 2)) = xs[3]? := hf 3 _ rfl
  have g4 : DataW.trod enc Tryz.prog W base spare held n 2 ((cs.drop 4).take (Tryz.prog.cellsOf 2)) = xs[4]? := hf 4 _ rfl
  have hxl5 : xs.length = 5 := hxl
  clear hf hxl
  match xs, hxl5, cs, hl with
  | [y0, y1, y2, y3, y4], _, [v0, v1, v2, v3, v4], _ =>
    rw [q1] at g0 g1 g2
    rw [q2] at g3 g4
    obtain ⟨a0, e0, _, w0⟩ := DataW.trod_int Tryz.underlying22 (show DataW.trod enc Tryz.prog W base spare held n 22 [v0] = some y0 from g0)
    obtain ⟨a1, e1, _, w1⟩ := DataW.trod_int Tryz.underlying22 (show DataW.trod enc Tryz.prog W base spare held n 22 [v1] = some y1 from g1)
    obtain ⟨a2, e2, _, w2⟩ := DataW.trod_int Tryz.underlying22 (show DataW.trod enc Tryz.prog W base spare held n 22 [v2] = some y2 from g2)
    obtain ⟨a3, e3, _, w3⟩ := DataW.trod_int Tryz.underlying2 (show DataW.trod enc Tryz.prog W base spare held n 2 [v3] = some y3 from g3)
    obtain ⟨a4, e4, _, w4⟩ := DataW.trod_int Tryz.underlying2 (show DataW.trod enc Tryz.prog W base spare held n 2 [v4] = some y4 from g4)
    simp at e0 e1 e2 e3 e4
    subst e0 e1 e2 e3 e4
    have b0 := bounds_u32 w0
    have b1 := bounds_u32 w1
    have b2 := bounds_u32 w2
    have b3 := bounds_i64 w3
    have b4 := bounds_i64 w4
    exact ⟨⟨a0, a1, a2, a3, a4⟩, rfl, ⟨by show 0 ≤ a0; omega, by show a0 < 4294967296; omega, by show 0 ≤ a1; omega, by show a1 < 4294967296; omega, by show 0 ≤ a2; omega, by show a2 < 4294967296; omega, b3.1, b3.2, b4.1, b4.2⟩⟩
end
end Go.Proofs.YtiakjeomedijkaaGreatDoor
