/- Lists of numbers, calls of Put, and the structs of layer 20's statements that came in, opened; no Go function is walked here. -/
import Derived.Test.YtlnoighjdmjdeaaQuK
import Derived.Deep.Slices
import Derived.SizedLaws
import Derived.ProofKit
import Derived.OpenShut
import Derived.ChangeOld
import Derived.Deep.DeepHandedRow
namespace Go.Proofs.Ytlnoighjdmjdeaa
open Go.ChangeShapes Go.WideShapes Go.ChangeAt Go.RowKit
set_option maxRecDepth 8000

theorem Try.own : ownKnob Try.prog.godebug = none := by kernel_rfl
theorem Try.laidOut : laidOutB Try.prog = true := by kernel_rfl

theorem addK (b off n : Nat) : (⟨b, off, none⟩ : Addr).add n = ⟨b, off + n, none⟩ := by
  by_cases h : n = 0
  · subst h; simp [Addr.add]
  · simp [Addr.add, h]

theorem reachK : reachBytes ≤ 140737488355328 := by
  have hr := reachBytes_lt
  have h47 : (2 : Nat) ^ 47 = 140737488355328 := by decide
  omega
section
variable {H : Type} {enc : TypeId × Value → H} {W : World} {base : Nat} {spare : Nat → Bool} {held : Bool}

theorem open_numsQ {fuel : Nat} {v : Value} {x : DataW H × List MemPlace} (h : DataW.trod enc Try.prog W base spare held fuel 22 [v] = some x) (hw : (x.1.weights Try.prog 22).all (· ≤ reachBytes) = true) :
    ∃ ks : List Int, SeesQ W v ks ∧ ks.length ≤ 140737488355328 := by
  rcases open_ints Try.underlying22 Try.underlying3 (by kernel_rfl) h with ⟨hcs, _⟩ | ⟨a, l, c, zs, hcs, _, hl, hm, hz, hx, hcell, hwz⟩
  · simp at hcs
    subst hcs
    exact ⟨[], ⟨none, 0, rfl, Nat.le_refl _, by unfold maxLen; omega, .inl rfl⟩, Nat.zero_le _⟩
  · simp at hcs
    subst hcs
    have hlz : l ≤ zs.length := by rw [hz]; split <;> omega
    have hlen : (zs.take l).length = l := by simp; omega
    refine ⟨zs.take l, ⟨some a, c, by rw [hlen], by omega, hm, ?_⟩, ?_⟩
    · by_cases h0 : l = 0
      · subst h0; exact .inl (by simp)
      · obtain ⟨b, off, spot⟩ := a
        have hc := hcell 0 (by omega)
        have hspot : spot = none := by simpa [Addr.add] using World.cell?_spot hc
        subst hspot
        refine .inr ⟨b, off, rfl, fun i hi => ?_⟩
        have := hcell i (by omega)
        rw [addK] at this
        rw [this]
        have hi' : i < zs.length := by omega
        simp [List.getD_eq_getElem?_getD, hi']
    · have hb1 : Try.prog.bytesOf 3 = 8 := by kernel_rfl
      rw [hx] at hw
      simp only [DataW.weights, Try.underlying22, hb1, List.all_cons, Bool.and_eq_true, decide_eq_true_eq] at hw
      have h1 := hw.1
      have h2 : (lits (H := H) .i64 (zs.take l)).length = (zs.take l).length := by simp [lits]
      have := reachK
      omega

/-- A call of Put. -/
structure PuT where
  v : Int
  e : Int
  m : Int
abbrev PuT.cells (s : PuT) : List Value := [.int .i8 s.v, .int .u32 s.e, .int .u32 s.m]
def PuT.good (s : PuT) : Prop := (-128 ≤ s.v ∧ s.v ≤ 127) ∧ (0 ≤ s.e ∧ s.e ≤ 4294967295) ∧ 0 ≤ s.m ∧ s.m ≤ 4294967295
/-- Calls of Put in memory. -/
def SeesPu (w : World) (v : Value) (l : List PuT) : Prop := ∃ a c, v = .slice a l.length c ∧ l.length ≤ c ∧ (∀ s ∈ l, s.good) ∧ (l ≠ [] → ∃ b off, a = some ⟨b, off, none⟩ ∧ ∀ i s, l[i]? = some s → ∀ j u, s.cells[j]? = some u → w.cell? ⟨b, off + i * 3 + j, none⟩ = some u)

theorem parts_allQ {t : TypeId} {ts : List TypeId} {ys : List (DataW H)} (hw : (DataW.weightsEach Try.prog ts ys).all (· ≤ reachBytes) = true) (j : Nat) (d : DataW H) (ht : ts[j]? = some t) (hd : ys[j]? = some d) : (d.weights Try.prog t).all (· ≤ reachBytes) = true := by
  rw [List.all_eq_true] at hw ⊢
  intro m hm
  exact hw m (DataW.weights_mem_each (ts := ts) ht hd m hm)

theorem open_zx2 {fuel : Nat} {c0 c1 : Value} {x : DataW H × List MemPlace} (h : DataW.trod enc Try.prog W base spare held fuel 38 [c0, c1] = some x) :
    ∃ e n : Int, c0 = .int .u32 e ∧ c1 = .int .u32 n ∧ (0 ≤ e ∧ e ≤ 4294967295) ∧ 0 ≤ n ∧ n ≤ 4294967295 := by
  obtain ⟨xs, n, _, hx, hl, hxl, hf⟩ := DataW.trod_struct Try.underlying38 h
  have q : Try.prog.cellsOf 36 = 1 := by kernel_rfl
  have g0 : DataW.trod enc Try.prog W base spare held n 36 (([c0, c1].drop 0).take (Try.prog.cellsOf 36)) = xs[0]? := hf 0 _ rfl
  have g1 : DataW.trod enc Try.prog W base spare held n 36 (([c0, c1].drop 1).take (Try.prog.cellsOf 36)) = xs[1]? := hf 1 _ rfl
  have hxl2 : xs.length = 2 := hxl
  clear hf hxl
  match xs, hxl2 with
  | [y0, y1], _ =>
    rw [q] at g0 g1
    obtain ⟨a, e0, _, b0⟩ := DataW.trod_int Try.underlying36 (show DataW.trod enc Try.prog W base spare held n 36 [c0] = some y0 from g0)
    obtain ⟨b, e1, _, b1⟩ := DataW.trod_int Try.underlying36 (show DataW.trod enc Try.prog W base spare held n 36 [c1] = some y1 from g1)
    simp at e0 e1
    exact ⟨a, b, e0, e1, bounds_u32 b0, bounds_u32 b1⟩

theorem open_zxQ {fuel : Nat} {cs : List Value} {x : DataW H × List MemPlace} (h : DataW.trod enc Try.prog W base spare held fuel 38 cs = some x) :
    ∃ e n : Int, cs = [.int .u32 e, .int .u32 n] ∧ (0 ≤ e ∧ e ≤ 4294967295) ∧ 0 ≤ n ∧ n ≤ 4294967295 := by
  obtain ⟨xs, n, _, hx, hl, hxl, _⟩ := DataW.trod_struct Try.underlying38 h
  have hc : Try.prog.cellsOf 38 = 2 := by kernel_rfl
  rw [hc] at hl
  match cs, hl, h with
  | [c0, c1], _, h =>
    obtain ⟨e, n, rfl, rfl, b⟩ := open_zx2 h
    exact ⟨e, n, rfl, b⟩

theorem open_putQ {fuel : Nat} {cs : List Value} {x : DataW H × List MemPlace} (h : DataW.trod enc Try.prog W base spare held fuel 50 cs = some x) : ∃ s : PuT, cs = s.cells ∧ s.good := by
  have hcells : Try.prog.cellsOf 50 = 3 := by kernel_rfl
  obtain ⟨xs, n, _, hx, hl, hxl, hf⟩ := DataW.trod_struct Try.underlying50 h
  rw [hcells] at hl
  have q1 : Try.prog.cellsOf 48 = 1 := by kernel_rfl
  have q2 : Try.prog.cellsOf 38 = 2 := by kernel_rfl
  have g0 : DataW.trod enc Try.prog W base spare held n 48 ((cs.drop 0).take (Try.prog.cellsOf 48)) = xs[0]? := hf 0 _ rfl
  have g1 : DataW.trod enc Try.prog W base spare held n 38 ((cs.drop 1).take (Try.prog.cellsOf 38)) = xs[1]? := hf 1 _ rfl
  have hxl3 : xs.length = 2 := hxl
  clear hf hxl
  match xs, hxl3, cs, hl with
  | [y0, y1], _, [v0, v1, v2], _ =>
    rw [q1] at g0
    rw [q2] at g1
    obtain ⟨a, e0, _, w0⟩ := DataW.trod_int Try.underlying48 (show DataW.trod enc Try.prog W base spare held n 48 [v0] = some y0 from g0)
    obtain ⟨e, m, rfl, rfl, b⟩ := open_zx2 (show DataW.trod enc Try.prog W base spare held n 38 [v1, v2] = some y1 from g1)
    simp at e0
    subst e0
    exact ⟨⟨a, e, m⟩, rfl, bounds_i8 w0, b⟩

theorem open_putsQ {fuel : Nat} {v : Value} {x : DataW H × List MemPlace} (h : DataW.trod enc Try.prog W base spare held fuel 23 [v] = some x) (hw : (x.1.weights Try.prog 23).all (· ≤ reachBytes) = true) :
    ∃ l : List PuT, SeesPu W v l ∧ l.length ≤ 140737488355328 := by
  have hcells : Try.prog.cellsOf 50 = 3 := by kernel_rfl
  rcases Deep.open_slice Try.underlying23 h with ⟨hcs, _⟩ | ⟨a', len, cap, m, n, D, Pl, hcs, _, hl, hm, hmm, hx, hel⟩
  · simp at hcs
    subst hcs
    exact ⟨[], ⟨none, 0, rfl, Nat.le_refl _, by simp, fun e => absurd rfl e⟩, Nat.zero_le _⟩
  · simp at hcs
    subst hcs
    have hlm : len ≤ m := by rw [hmm]; split <;> omega
    have hbo : Try.prog.bytesOf 50 = 12 := by kernel_rfl
    rw [hx] at hw
    simp only [DataW.weights, Try.underlying23, hbo, List.all_cons, List.all_append, Bool.and_eq_true, decide_eq_true_eq] at hw
    have each : ∀ i, i < len → ∃ o : PuT, (∀ j, j < 3 → W.cell? (a'.add (i * 3 + j)) = o.cells[j]?) ∧ o.good := by
      intro i hi
      obtain ⟨cs', h1, h2⟩ := hel i (by omega)
      rw [hcells] at h1
      obtain ⟨_, hlen, hcell⟩ := World.cells?_some h1
      obtain ⟨o, e, hg⟩ := open_putQ h2
      refine ⟨o, fun j hj => ?_, hg⟩
      have := hcell j hj
      rw [Deep.add_add] at this
      rw [← e, this]
    have : Inhabited PuT := ⟨⟨0, 0, 0⟩⟩
    obtain ⟨O, hO⟩ := Deep.choose_lt each
    have hol : ((List.range len).map O).length = len := by simp
    refine ⟨(List.range len).map O, ⟨some a', cap, by rw [hol], by omega, ?_, fun hne => ?_⟩, ?_⟩
    · intro s hs
      obtain ⟨i, hi, rfl⟩ := List.mem_map.1 hs
      exact (hO i (by simpa using hi)).2
    · have h0 : len ≠ 0 := fun e => hne (by subst e; rfl)
      obtain ⟨b, off, spot⟩ := a'
      have hc := (hO 0 (by omega)).1 0 (by omega)
      have hc' : W.cell? ((⟨b, off, spot⟩ : Addr).add (0 * 3 + 0)) = some (.int .i8 (O 0).v) := hc
      have hspot : spot = none := by simpa [Addr.add] using World.cell?_spot hc'
      subst hspot
      refine ⟨b, off, rfl, fun i s hs j u hj => ?_⟩
      have hi : i < len := by rw [← hol]; exact (List.getElem?_eq_some_iff.1 hs).1
      have c := (hO i hi).1
      simp only [Addr.add_lit] at c
      have es : s = O i := by
        have := (List.getElem?_eq_some_iff.1 hs).2
        simpa using this.symm
      subst es
      have hj5 : j < 3 := (List.getElem?_eq_some_iff.1 hj).1
      rw [Nat.add_assoc, c j hj5, hj]
    · rw [hol]
      have h1 := hw.1
      simp at h1
      have hr := reachBytes_lt
      have h47 : (2 : Nat) ^ 47 = 140737488355328 := by decide
      omega

/-- A Sets that came in. -/
theorem open_setsQ {fuel : Nat} {cs : List Value} {x : DataW H × List MemPlace} (h : DataW.trod enc Try.prog W base spare held fuel 59 cs = some x) (hw : (x.1.weights Try.prog 59).all (· ≤ reachBytes) = true) :
    ∃ (v u : Value) (ws gs : List Int) (a b : Int), cs = [v, u, .int .u8 a, .int .u8 b] ∧ SeesQ W v ws ∧ SeesQ W u gs ∧ (ws.length ≤ 140737488355328 ∧ gs.length ≤ 140737488355328) ∧ (0 ≤ a ∧ a ≤ 255) ∧ 0 ≤ b ∧ b ≤ 255 := by
  have hcells : Try.prog.cellsOf 59 = 4 := by kernel_rfl
  obtain ⟨xs, n, _, hx, hl, hxl, hf⟩ := DataW.trod_struct Try.underlying59 h
  rw [hcells] at hl
  have q1 : Try.prog.cellsOf 22 = 1 := by kernel_rfl
  have q2 : Try.prog.cellsOf 5 = 1 := by kernel_rfl
  have g0 : DataW.trod enc Try.prog W base spare held n 22 ((cs.drop 0).take (Try.prog.cellsOf 22)) = xs[0]? := hf 0 _ rfl
  have g1 : DataW.trod enc Try.prog W base spare held n 22 ((cs.drop 1).take (Try.prog.cellsOf 22)) = xs[1]? := hf 1 _ rfl
  have g2 : DataW.trod enc Try.prog W base spare held n 5 ((cs.drop 2).take (Try.prog.cellsOf 5)) = xs[2]? := hf 2 _ rfl
  have g3 : DataW.trod enc Try.prog W base spare held n 5 ((cs.drop 3).take (Try.prog.cellsOf 5)) = xs[3]? := hf 3 _ rfl
  have hxl2 : xs.length = 4 := hxl
  clear hf hxl
  match xs, hxl2, cs, hl with
  | [y0, y1, y2, y3], _, [v0, v1, v2, v3], _ =>
    rw [q1] at g0 g1
    rw [q2] at g2 g3
    rw [hx] at hw
    simp only [DataW.weights, Try.underlying59] at hw
    have w0 := parts_allQ (t := 22) hw 0 y0.1 rfl rfl
    have w1 := parts_allQ (t := 22) hw 1 y1.1 rfl rfl
    obtain ⟨ws, s0, l0⟩ := open_numsQ (show DataW.trod enc Try.prog W base spare held n 22 [v0] = some y0 from g0) w0
    obtain ⟨gs, s1, l1⟩ := open_numsQ (show DataW.trod enc Try.prog W base spare held n 22 [v1] = some y1 from g1) w1
    obtain ⟨a, e2, _, b2⟩ := DataW.trod_int Try.underlying5 (show DataW.trod enc Try.prog W base spare held n 5 [v2] = some y2 from g2)
    obtain ⟨b, e3, _, b3⟩ := DataW.trod_int Try.underlying5 (show DataW.trod enc Try.prog W base spare held n 5 [v3] = some y3 from g3)
    simp at e2 e3
    subst e2 e3
    exact ⟨v0, v1, ws, gs, a, b, rfl, s0, s1, ⟨l0, l1⟩, bounds_u8 b2, bounds_u8 b3⟩

/-- A Pair that came in. -/
theorem open_pairQ {fuel : Nat} {cs : List Value} {x : DataW H × List MemPlace} (h : DataW.trod enc Try.prog W base spare held fuel 56 cs = some x) (hw : (x.1.weights Try.prog 56).all (· ≤ reachBytes) = true) :
    ∃ (v u o t : Value) (ws gs : List Int) (po pt : List PuT), cs = [v, u, o, t] ∧ SeesQ W v ws ∧ SeesQ W u gs ∧ SeesPu W o po ∧ SeesPu W t pt ∧ (ws.length ≤ 140737488355328 ∧ gs.length ≤ 140737488355328) ∧ po.length ≤ 140737488355328 ∧ pt.length ≤ 140737488355328 := by
  have hcells : Try.prog.cellsOf 56 = 4 := by kernel_rfl
  obtain ⟨xs, n, _, hx, hl, hxl, hf⟩ := DataW.trod_struct Try.underlying56 h
  rw [hcells] at hl
  have q1 : Try.prog.cellsOf 22 = 1 := by kernel_rfl
  have q2 : Try.prog.cellsOf 23 = 1 := by kernel_rfl
  have g0 : DataW.trod enc Try.prog W base spare held n 22 ((cs.drop 0).take (Try.prog.cellsOf 22)) = xs[0]? := hf 0 _ rfl
  have g1 : DataW.trod enc Try.prog W base spare held n 22 ((cs.drop 1).take (Try.prog.cellsOf 22)) = xs[1]? := hf 1 _ rfl
  have g2 : DataW.trod enc Try.prog W base spare held n 23 ((cs.drop 2).take (Try.prog.cellsOf 23)) = xs[2]? := hf 2 _ rfl
  have g3 : DataW.trod enc Try.prog W base spare held n 23 ((cs.drop 3).take (Try.prog.cellsOf 23)) = xs[3]? := hf 3 _ rfl
  have hxl2 : xs.length = 4 := hxl
  clear hf hxl
  match xs, hxl2, cs, hl with
  | [y0, y1, y2, y3], _, [v0, v1, v2, v3], _ =>
    rw [q1] at g0 g1
    rw [q2] at g2 g3
    rw [hx] at hw
    simp only [DataW.weights, Try.underlying56] at hw
    have w0 := parts_allQ (t := 22) hw 0 y0.1 rfl rfl
    have w1 := parts_allQ (t := 22) hw 1 y1.1 rfl rfl
    have w2 := parts_allQ (t := 23) hw 2 y2.1 rfl rfl
    have w3 := parts_allQ (t := 23) hw 3 y3.1 rfl rfl
    obtain ⟨ws, s0, l0⟩ := open_numsQ (show DataW.trod enc Try.prog W base spare held n 22 [v0] = some y0 from g0) w0
    obtain ⟨gs, s1, l1⟩ := open_numsQ (show DataW.trod enc Try.prog W base spare held n 22 [v1] = some y1 from g1) w1
    obtain ⟨po, s2, l2⟩ := open_putsQ (show DataW.trod enc Try.prog W base spare held n 23 [v2] = some y2 from g2) w2
    obtain ⟨pt, s3, l3⟩ := open_putsQ (show DataW.trod enc Try.prog W base spare held n 23 [v3] = some y3 from g3) w3
    exact ⟨v0, v1, v2, v3, ws, gs, po, pt, rfl, s0, s1, s2, s3, ⟨l0, l1⟩, l2, l3⟩

end
end Go.Proofs.Ytlnoighjdmjdeaa
