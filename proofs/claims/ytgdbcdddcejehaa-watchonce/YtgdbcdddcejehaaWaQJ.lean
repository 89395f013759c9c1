/- Watches, changes, lists of watches and scripts of layer 18 that came in, opened; no Go function is walked here. -/
import Derived.Test.YtgdbcdddcejehaaWaDJ
import Derived.Deep.Slices
import Derived.SizedLaws
import Derived.ProofKit
import Derived.OpenShut
import Derived.ShutString
import Derived.ChangeOld
import Derived.Deep.DeepHandedRow
namespace Go.Proofs.Ytgdbcdddcejehaa
open Go.ChangeShapes Go.WideShapes Go.ChangeAt Go.RowKit
set_option maxRecDepth 8000

theorem Try.own : ownKnob Try.prog.godebug = none := by kernel_rfl
theorem Try.laidOut : laidOutB Try.prog = true := by kernel_rfl

section
variable {H : Type} {enc : TypeId × Value → H} {W : World} {base : Nat} {spare : Nat → Bool} {held : Bool}

theorem open_waC {fuel : Nat} {cs : List Value} {x : DataW H × List MemPlace} (h : DataW.trod enc Try.prog W base spare held fuel 30 cs = some x) :
    ∃ y : WaT, cs = [.int .i64 y.1, .int .i8 y.2.1, .string y.2.2] := by
  have hcells : Try.prog.cellsOf 30 = 3 := by kernel_rfl
  obtain ⟨xs, n, _, hx, hl, hxl, hf⟩ := DataW.trod_struct Try.underlying30 h
  rw [hcells] at hl
  have q1 : Try.prog.cellsOf 2 = 1 := by kernel_rfl
  have q2 : Try.prog.cellsOf 28 = 1 := by kernel_rfl
  have q3 : Try.prog.cellsOf 9 = 1 := by kernel_rfl
  have g0 : DataW.trod enc Try.prog W base spare held n 2 ((cs.drop 0).take (Try.prog.cellsOf 2)) = xs[0]? := hf 0 _ rfl
  have g1 : DataW.trod enc Try.prog W base spare held n 28 ((cs.drop 1).take (Try.prog.cellsOf 28)) = xs[1]? := hf 1 _ rfl
  have g2 : DataW.trod enc Try.prog W base spare held n 9 ((cs.drop 2).take (Try.prog.cellsOf 9)) = xs[2]? := hf 2 _ rfl
  have hxl3 : xs.length = 3 := hxl
  clear hf hxl
  match xs, hxl3, cs, hl with
  | [y0, y1, y2], _, [v0, v1, v2], _ =>
    rw [q1] at g0
    rw [q2] at g1
    rw [q3] at g2
    obtain ⟨a, e0, _, _⟩ := DataW.trod_int Try.underlying2 (show DataW.trod enc Try.prog W base spare held n 2 [v0] = some y0 from g0)
    obtain ⟨b, e1, _, _⟩ := DataW.trod_int Try.underlying28 (show DataW.trod enc Try.prog W base spare held n 28 [v1] = some y1 from g1)
    obtain ⟨c, e2, _⟩ := DataW.trod_string Try.underlying9 (show DataW.trod enc Try.prog W base spare held n 9 [v2] = some y2 from g2)
    simp at e0 e1 e2
    subst e0 e1 e2
    exact ⟨(a, b, c), rfl⟩

theorem open_chC {fuel : Nat} {cs : List Value} {x : DataW H × List MemPlace} (h : DataW.trod enc Try.prog W base spare held fuel 32 cs = some x) :
    ∃ y : ChT, cs = [.int .i8 y.1, .string y.2] := by
  have hcells : Try.prog.cellsOf 32 = 2 := by kernel_rfl
  obtain ⟨xs, n, _, hx, hl, hxl, hf⟩ := DataW.trod_struct Try.underlying32 h
  rw [hcells] at hl
  have q2 : Try.prog.cellsOf 28 = 1 := by kernel_rfl
  have q3 : Try.prog.cellsOf 9 = 1 := by kernel_rfl
  have g1 : DataW.trod enc Try.prog W base spare held n 28 ((cs.drop 0).take (Try.prog.cellsOf 28)) = xs[0]? := hf 0 _ rfl
  have g2 : DataW.trod enc Try.prog W base spare held n 9 ((cs.drop 1).take (Try.prog.cellsOf 9)) = xs[1]? := hf 1 _ rfl
  have hxl3 : xs.length = 2 := hxl
  clear hf hxl
  match xs, hxl3, cs, hl with
  | [y1, y2], _, [v1, v2], _ =>
    rw [q2] at g1
    rw [q3] at g2
    obtain ⟨b, e1, _, _⟩ := DataW.trod_int Try.underlying28 (show DataW.trod enc Try.prog W base spare held n 28 [v1] = some y1 from g1)
    obtain ⟨c, e2, _⟩ := DataW.trod_string Try.underlying9 (show DataW.trod enc Try.prog W base spare held n 9 [v2] = some y2 from g2)
    simp at e1 e2
    subst e1 e2
    exact ⟨(b, c), rfl⟩

/-- A step of a script: which board, what, the watch, the change. -/
structure StT where
  place : Int
  what : Int
  wa : WaT
  ch : ChT
abbrev StT.cells (s : StT) : List Value := [.int .i64 s.place, .int .i64 s.what, .int .i64 s.wa.1, .int .i8 s.wa.2.1, .string s.wa.2.2, .int .i8 s.ch.1, .string s.ch.2]
/-- A script in memory. -/
def SeesSt (w : World) (v : Value) (l : List StT) : Prop := ∃ a c, v = .slice a l.length c ∧ l.length ≤ c ∧ (l ≠ [] → ∃ b off, a = some ⟨b, off, none⟩ ∧ ∀ i s, l[i]? = some s → ∀ j u, s.cells[j]? = some u → w.cell? ⟨b, off + i * 7 + j, none⟩ = some u)

theorem open_stC {fuel : Nat} {cs : List Value} {x : DataW H × List MemPlace} (h : DataW.trod enc Try.prog W base spare held fuel 34 cs = some x) : ∃ s : StT, cs = s.cells := by
  have hcells : Try.prog.cellsOf 34 = 7 := by kernel_rfl
  obtain ⟨xs, n, _, hx, hl, hxl, hf⟩ := DataW.trod_struct Try.underlying34 h
  rw [hcells] at hl
  have q1 : Try.prog.cellsOf 3 = 1 := by kernel_rfl
  have q2 : Try.prog.cellsOf 30 = 3 := by kernel_rfl
  have q3 : Try.prog.cellsOf 32 = 2 := by kernel_rfl
  have g0 : DataW.trod enc Try.prog W base spare held n 3 ((cs.drop 0).take (Try.prog.cellsOf 3)) = xs[0]? := hf 0 _ rfl
  have g1 : DataW.trod enc Try.prog W base spare held n 3 ((cs.drop 1).take (Try.prog.cellsOf 3)) = xs[1]? := hf 1 _ rfl
  have g2 : DataW.trod enc Try.prog W base spare held n 30 ((cs.drop 2).take (Try.prog.cellsOf 30)) = xs[2]? := hf 2 _ rfl
  have g3 : DataW.trod enc Try.prog W base spare held n 32 ((cs.drop 5).take (Try.prog.cellsOf 32)) = xs[3]? := hf 3 _ rfl
  have hxl3 : xs.length = 4 := hxl
  clear hf hxl
  match xs, hxl3, cs, hl with
  | [y0, y1, y2, y3], _, [v0, v1, v2, v3, v4, v5, v6], _ =>
    rw [q1] at g0 g1
    rw [q2] at g2
    rw [q3] at g3
    obtain ⟨a, e0, _, _⟩ := DataW.trod_int Try.underlying3 (show DataW.trod enc Try.prog W base spare held n 3 [v0] = some y0 from g0)
    obtain ⟨b, e1, _, _⟩ := DataW.trod_int Try.underlying3 (show DataW.trod enc Try.prog W base spare held n 3 [v1] = some y1 from g1)
    obtain ⟨wa, e2⟩ := open_waC (show DataW.trod enc Try.prog W base spare held n 30 [v2, v3, v4] = some y2 from g2)
    obtain ⟨ch, e3⟩ := open_chC (show DataW.trod enc Try.prog W base spare held n 32 [v5, v6] = some y3 from g3)
    simp only [List.cons.injEq, and_true] at e0 e1 e2 e3
    obtain ⟨rfl, rfl, rfl⟩ := e2
    obtain ⟨rfl, rfl⟩ := e3
    subst e0 e1
    exact ⟨⟨a, b, wa, ch⟩, rfl⟩

theorem open_steps {fuel : Nat} {v : Value} {x : DataW H × List MemPlace} (h : DataW.trod enc Try.prog W base spare held fuel 22 [v] = some x) (hw : (x.1.weights Try.prog 22).all (· ≤ reachBytes) = true) :
    ∃ l : List StT, SeesSt W v l ∧ l.length ≤ 140737488355328 := by
  have hcells : Try.prog.cellsOf 34 = 7 := by kernel_rfl
  rcases Deep.open_slice Try.underlying22 h with ⟨hcs, _⟩ | ⟨a', len, cap, m, n, D, Pl, hcs, _, hl, hm, hmm, hx, hel⟩
  · simp at hcs
    subst hcs
    exact ⟨[], ⟨none, 0, rfl, Nat.le_refl _, fun e => absurd rfl e⟩, Nat.zero_le _⟩
  · simp at hcs
    subst hcs
    have hlm : len ≤ m := by rw [hmm]; split <;> omega
    have hbo : Try.prog.bytesOf 34 = 72 := by kernel_rfl
    rw [hx] at hw
    simp only [DataW.weights, Try.underlying22, hbo, List.all_cons, List.all_append, Bool.and_eq_true, decide_eq_true_eq] at hw
    have each : ∀ i, i < len → ∃ o : StT, ∀ j, j < 7 → W.cell? (a'.add (i * 7 + j)) = o.cells[j]? := by
      intro i hi
      obtain ⟨cs', h1, h2⟩ := hel i (by omega)
      rw [hcells] at h1
      obtain ⟨_, hlen, hcell⟩ := World.cells?_some h1
      obtain ⟨o, e⟩ := open_stC h2
      refine ⟨o, fun j hj => ?_⟩
      have := hcell j hj
      rw [Deep.add_add] at this
      rw [← e, this]
    have : Inhabited StT := ⟨⟨0, 0, (0, 0, ⟨#[]⟩), (0, ⟨#[]⟩)⟩⟩
    obtain ⟨O, hO⟩ := Deep.choose_lt each
    have hol : ((List.range len).map O).length = len := by simp
    refine ⟨(List.range len).map O, ⟨some a', cap, by rw [hol], by omega, fun hne => ?_⟩, ?_⟩
    · have h0 : len ≠ 0 := fun e => hne (by subst e; rfl)
      obtain ⟨b, off, spot⟩ := a'
      have hc := hO 0 (by omega) 0 (by omega)
      have hc' : W.cell? ((⟨b, off, spot⟩ : Addr).add (0 * 7 + 0)) = some (.int .i64 (O 0).place) := hc
      have hspot : spot = none := by simpa [Addr.add] using World.cell?_spot hc'
      subst hspot
      refine ⟨b, off, rfl, fun i s hs j u hj => ?_⟩
      have hi : i < len := by rw [← hol]; exact (List.getElem?_eq_some_iff.1 hs).1
      have c := hO i hi
      simp only [Addr.add_lit] at c
      have es : s = O i := by
        have := (List.getElem?_eq_some_iff.1 hs).2
        simpa using this.symm
      subst es
      have hj7 : j < 7 := (List.getElem?_eq_some_iff.1 hj).1
      rw [Nat.add_assoc, c j hj7, hj]
    · rw [hol]
      have h1 := hw.1
      simp at h1
      have hr := reachBytes_lt
      have h47 : (2 : Nat) ^ 47 = 140737488355328 := by decide
      omega

end
end Go.Proofs.Ytgdbcdddcejehaa
