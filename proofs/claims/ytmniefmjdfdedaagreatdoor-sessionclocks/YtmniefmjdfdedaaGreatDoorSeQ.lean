/- Scripts of layer 19 and lists of numbers that came in, opened; no Go function is walked here. -/
import Derived.Test.YtmniefmjdfdedaaGreatDoorSeB
import Derived.Deep.Slices
import Derived.SizedLaws
import Derived.ProofKit
import Derived.OpenShut
import Derived.ChangeOld
import Derived.Deep.DeepHandedRow
namespace Go.Proofs.YtmniefmjdfdedaaGreatDoor
open Go.ChangeShapes Go.WideShapes Go.ChangeAt Go.RowKit
set_option maxRecDepth 8000

theorem Tryz.own : ownKnob Tryz.prog.godebug = none := by kernel_rfl
theorem Tryz.laidOut : laidOutB Tryz.prog = true := by kernel_rfl

theorem addK (b off n : Nat) : (⟨b, off, none⟩ : Addr).add n = ⟨b, off + n, none⟩ := by
  by_cases h : n = 0
  · subst h; simp [Addr.add]
  · simp [Addr.add, h]

theorem reachK : reachBytes ≤ 140737488355328 := by
  have hr := reachBytes_lt
  have h47 : (2 : Nat) ^ 47 = 140737488355328 := by decide
  omega
theorem bounds_i32S {t : Int} (h : Lit.wf (.int .i32 t) = true) : -2147483648 ≤ t ∧ t ≤ 2147483647 := by
  simp [Lit.wf, IntKind.min, IntKind.max, IntKind.signed, IntKind.bits] at h
  exact h

section
variable {H : Type} {enc : TypeId × Value → H} {W : World} {base : Nat} {spare : Nat → Bool} {held : Bool}

/-- A list of numbers in memory. -/
def SeesI (w : World) (v : Value) (ks : List Int) : Prop :=
  ∃ (ao : Option Addr) (cap : Nat), v = .slice ao ks.length cap ∧ ks.length ≤ cap ∧ cap ≤ maxLen ∧ (ks = [] ∨ ∃ b off, ao = some ⟨b, off, none⟩ ∧ ∀ (i : Nat) (h : i < ks.length), w.cell? ⟨b, off + i, none⟩ = some (.int .i64 ks[i]))

theorem open_numsS {fuel : Nat} {v : Value} {x : DataW H × List MemPlace} (h : DataW.trod enc Tryz.prog W base spare held fuel 50 [v] = some x) (hw : (x.1.weights Tryz.prog 50).all (· ≤ reachBytes) = true) :
    ∃ ks : List Int, SeesI W v ks ∧ ks.length ≤ 140737488355328 := by
  rcases open_ints Tryz.underlying50 Tryz.underlying3 (by kernel_rfl) h with ⟨hcs, _⟩ | ⟨a, l, c, zs, hcs, _, hl, hm, hz, hx, hcell, hwz⟩
  · simp at hcs
    subst hcs
    exact ⟨[], ⟨none, 0, rfl, Nat.le_refl _, by unfold maxLen; omega, .inl rfl⟩, Nat.zero_le _⟩
  · simp at hcs
    subst hcs
    have hlz : l ≤ zs.length := by rw [hz]; split <;> omega
    have hlen : (zs.take l).length = l := by simp; omega
    refine ⟨zs.take l, ⟨some a, c, by rw [hlen], by omega, hm, ?_⟩, ?_⟩
    · by_cases h0 : l = 0
      · subst h0; exact .inl (by simp)
      · obtain ⟨b, off, spot⟩ := a
        have hc := hcell 0 (by omega)
        have hspot : spot = none := by simpa [Addr.add] using World.cell?_spot hc
        subst hspot
        refine .inr ⟨b, off, rfl, fun i hi => ?_⟩
        have := hcell i (by omega)
        rw [addK] at this
        rw [this]
        have hi' : i < zs.length := by omega
        simp [List.getD_eq_getElem?_getD, hi']
    · have hb1 : Tryz.prog.bytesOf 3 = 8 := by kernel_rfl
      rw [hx] at hw
      simp only [DataW.weights, Tryz.underlying50, hb1, List.all_cons, Bool.and_eq_true, decide_eq_true_eq] at hw
      have h1 := hw.1
      have h2 : (lits (H := H) .i64 (zs.take l)).length = (zs.take l).length := by simp [lits]
      have := reachK
      omega

/-- A call of a script of layer 19. -/
structure OpS where
  kind : Int
  on : Int
  id : Int
  tm : Int
  n : Int
abbrev OpS.cells (s : OpS) : List Value := [.int .i64 s.kind, .int .i64 s.on, .int .i64 s.id, .int .i32 s.tm, .int .i64 s.n]
def OpS.good (s : OpS) : Prop := (-9223372036854775808 ≤ s.kind ∧ s.kind ≤ 9223372036854775807) ∧ (-9223372036854775808 ≤ s.on ∧ s.on ≤ 9223372036854775807) ∧ (-9223372036854775808 ≤ s.id ∧ s.id ≤ 9223372036854775807) ∧ (-2147483648 ≤ s.tm ∧ s.tm ≤ 2147483647) ∧ -9223372036854775808 ≤ s.n ∧ s.n ≤ 9223372036854775807
/-- A script in memory. -/
def SeesOpS (w : World) (v : Value) (l : List OpS) : Prop := ∃ a c, v = .slice a l.length c ∧ l.length ≤ c ∧ (∀ s ∈ l, s.good) ∧ (l ≠ [] → ∃ b off, a = some ⟨b, off, none⟩ ∧ ∀ i s, l[i]? = some s → ∀ j u, s.cells[j]? = some u → w.cell? ⟨b, off + i * 5 + j, none⟩ = some u)

theorem open_opS {fuel : Nat} {cs : List Value} {x : DataW H × List MemPlace} (h : DataW.trod enc Tryz.prog W base spare held fuel 38 cs = some x) : ∃ s : OpS, cs = s.cells ∧ s.good := by
  have hcells : Tryz.prog.cellsOf 38 = 5 := by kernel_rfl
  obtain ⟨xs, n, _, hx, hl, hxl, hf⟩ := DataW.trod_struct Tryz.underlying38 h
  rw [hcells] at hl
  have q1 : Tryz.prog.cellsOf 3 = 1 := by kernel_rfl
  have q2 : Tryz.prog.cellsOf 2 = 1 := by kernel_rfl
  have q3 : Tryz.prog.cellsOf 21 = 1 := by kernel_rfl
  have g0 : DataW.trod enc Tryz.prog W base spare held n 3 ((cs.drop 0).take (Tryz.prog.cellsOf 3)) = xs[0]? := hf 0 _ rfl
  have g1 : DataW.trod enc Tryz.prog W base spare held n 3 ((cs.drop 1).take (Tryz.prog.cellsOf 3)) = xs[1]? := hf 1 _ rfl
  have g2 : DataW.trod enc Tryz.prog W base spare held n 2 ((cs.drop 2).take (Tryz.prog.cellsOf 2)) = xs[2]? := hf 2 _ rfl
  have g3 : DataW.trod enc Tryz.prog W base spare held n 21 ((cs.drop 3).take (Tryz.prog.cellsOf 21)) = xs[3]? := hf 3 _ rfl
  have g4 : DataW.trod enc Tryz.prog W base spare held n 3 ((cs.drop 4).take (Tryz.prog.cellsOf 3)) = xs[4]? := hf 4 _ rfl
  have hxl3 : xs.length = 5 := hxl
  clear hf hxl
  match xs, hxl3, cs, hl with
  | [y0, y1, y2, y3, y4], _, [v0, v1, v2, v3, v4], _ =>
    rw [q1] at g0 g1 g4
    rw [q2] at g2
    rw [q3] at g3
    obtain ⟨a, e0, _, w0⟩ := DataW.trod_int Tryz.underlying3 (show DataW.trod enc Tryz.prog W base spare held n 3 [v0] = some y0 from g0)
    obtain ⟨b, e1, _, w1⟩ := DataW.trod_int Tryz.underlying3 (show DataW.trod enc Tryz.prog W base spare held n 3 [v1] = some y1 from g1)
    obtain ⟨c, e2, _, w2⟩ := DataW.trod_int Tryz.underlying2 (show DataW.trod enc Tryz.prog W base spare held n 2 [v2] = some y2 from g2)
    obtain ⟨d, e3, _, w3⟩ := DataW.trod_int Tryz.underlying21 (show DataW.trod enc Tryz.prog W base spare held n 21 [v3] = some y3 from g3)
    obtain ⟨e, e4, _, w4⟩ := DataW.trod_int Tryz.underlying3 (show DataW.trod enc Tryz.prog W base spare held n 3 [v4] = some y4 from g4)
    simp at e0 e1 e2 e3 e4
    subst e0 e1 e2 e3 e4
    exact ⟨⟨a, b, c, d, e⟩, rfl, bounds_i64 w0, bounds_i64 w1, bounds_i64 w2, bounds_i32S w3, bounds_i64 w4⟩

theorem open_opsS {fuel : Nat} {v : Value} {x : DataW H × List MemPlace} (h : DataW.trod enc Tryz.prog W base spare held fuel 22 [v] = some x) (hw : (x.1.weights Tryz.prog 22).all (· ≤ reachBytes) = true) :
    ∃ l : List OpS, SeesOpS W v l ∧ l.length ≤ 140737488355328 := by
  have hcells : Tryz.prog.cellsOf 38 = 5 := by kernel_rfl
  rcases Deep.open_slice Tryz.underlying22 h with ⟨hcs, _⟩ | ⟨a', len, cap, m, n, D, Pl, hcs, _, hl, hm, hmm, hx, hel⟩
  · simp at hcs
    subst hcs
    exact ⟨[], ⟨none, 0, rfl, Nat.le_refl _, by simp, fun e => absurd rfl e⟩, Nat.zero_le _⟩
  · simp at hcs
    subst hcs
    have hlm : len ≤ m := by rw [hmm]; split <;> omega
    have hbo : Tryz.prog.bytesOf 38 = 40 := by kernel_rfl
    rw [hx] at hw
    simp only [DataW.weights, Tryz.underlying22, hbo, List.all_cons, List.all_append, Bool.and_eq_true, decide_eq_true_eq] at hw
    have each : ∀ i, i < len → ∃ o : OpS, (∀ j, j < 5 → W.cell? (a'.add (i * 5 + j)) = o.cells[j]?) ∧ o.good := by
      intro i hi
      obtain ⟨cs', h1, h2⟩ := hel i (by omega)
      rw [hcells] at h1
      obtain ⟨_, hlen, hcell⟩ := World.cells?_some h1
      obtain ⟨o, e, hg⟩ := open_opS h2
      refine ⟨o, fun j hj => ?_, hg⟩
      have := hcell j hj
      rw [Deep.add_add] at this
      rw [← e, this]
    have : Inhabited OpS := ⟨⟨0, 0, 0, 0, 0⟩⟩
    obtain ⟨O, hO⟩ := Deep.choose_lt each
    have hol : ((List.range len).map O).length = len := by simp
    refine ⟨(List.range len).map O, ⟨some a', cap, by rw [hol], by omega, ?_, fun hne => ?_⟩, ?_⟩
    · intro s hs
      obtain ⟨i, hi, rfl⟩ := List.mem_map.1 hs
      exact (hO i (by simpa using hi)).2
    · have h0 : len ≠ 0 := fun e => hne (by subst e; rfl)
      obtain ⟨b, off, spot⟩ := a'
      have hc := (hO 0 (by omega)).1 0 (by omega)
      have hc' : W.cell? ((⟨b, off, spot⟩ : Addr).add (0 * 5 + 0)) = some (.int .i64 (O 0).kind) := hc
      have hspot : spot = none := by simpa [Addr.add] using World.cell?_spot hc'
      subst hspot
      refine ⟨b, off, rfl, fun i s hs j u hj => ?_⟩
      have hi : i < len := by rw [← hol]; exact (List.getElem?_eq_some_iff.1 hs).1
      have c := (hO i hi).1
      simp only [Addr.add_lit] at c
      have es : s = O i := by
        have := (List.getElem?_eq_some_iff.1 hs).2
        simpa using this.symm
      subst es
      have hj5 : j < 5 := (List.getElem?_eq_some_iff.1 hj).1
      rw [Nat.add_assoc, c j hj5, hj]
    · rw [hol]
      have h1 := hw.1
      simp at h1
      have hr := reachBytes_lt
      have h47 : (2 : Nat) ^ 47 = 140737488355328 := by decide
      omega

end
end Go.Proofs.YtmniefmjdfdedaaGreatDoor
