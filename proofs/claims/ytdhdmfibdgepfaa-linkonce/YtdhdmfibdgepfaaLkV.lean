/- A list of lists of bytes and a list of numbers that came in, opened; no Go function is walked here. -/
import Derived.Test.YtdhdmfibdgepfaaLkO
namespace Go.Proofs.Ytdhdmfibdgepfaa
open Go.ChangeShapes Go.WideShapes Go.ChangeAt Go.RowKit Go.Joins
set_option maxRecDepth 8000

/-- A list of bytes that came in. -/
structure BbT where
  ba : Option Addr
  bc : Nat
  bs : List Int
@[reducible] def BbT.v (o : BbT) : Value := .slice o.ba o.bs.length o.bc
structure GoodBb (w : World) (o : BbT) : Prop where
  se : Sees w o.v o.bs
  by' : Byts o.bs
  len : o.bs.length ≤ 140737488355328
theorem GoodBb.below {w w' : World} {o : BbT} (h : GoodBb w o) (hB : Below w.heap.size w w') : GoodBb w' o := ⟨h.se.below hB (Nat.le_refl _), h.by', h.len⟩
/-- Lists of bytes in memory. -/
def SeesBb (w : World) (v : Value) (l : List BbT) : Prop := ∃ a c, v = .slice a l.length c ∧ l.length ≤ c ∧ (∀ o ∈ l, GoodBb w o) ∧ (l ≠ [] → ∃ b off, a = some ⟨b, off, none⟩ ∧ ∀ i o, l[i]? = some o → w.cell? ⟨b, off + i, none⟩ = some (.slice o.ba o.bs.length o.bc))
/-- Numbers in memory. -/
def SeesNl (w : World) (v : Value) (l : List Int) : Prop := ∃ a c, v = .slice a l.length c ∧ l.length ≤ c ∧ (∀ n ∈ l, -9223372036854775808 ≤ n ∧ n ≤ 9223372036854775807) ∧ (l ≠ [] → ∃ b off, a = some ⟨b, off, none⟩ ∧ ∀ i n, l[i]? = some n → w.cell? ⟨b, off + i, none⟩ = some (.int .i64 n))

section
variable {H : Type} {enc : TypeId × Value → H} {W : World} {base : Nat} {spare : Nat → Bool} {held : Bool}

theorem open_numsL {fuel : Nat} {v : Value} {x : DataW H × List MemPlace} (h : DataW.trod enc Try.prog W base spare held fuel 45 [v] = some x) (hw : (x.1.weights Try.prog 45).all (· ≤ reachBytes) = true) :
    ∃ l : List Int, SeesNl W v l ∧ l.length ≤ 140737488355328 := by
  rcases open_ints Try.underlying45 Try.underlying3 (by kernel_rfl) h with ⟨hcs, _⟩ | ⟨a, l, c, zs, hcs, _, hl, hm, hz, hx, hcell, hwz⟩
  · simp at hcs
    subst hcs
    exact ⟨[], ⟨none, 0, rfl, Nat.le_refl _, by simp, fun e => absurd rfl e⟩, Nat.zero_le _⟩
  · simp at hcs
    subst hcs
    have hlz : l ≤ zs.length := by rw [hz]; split <;> omega
    have hlen : (zs.take l).length = l := by simp; omega
    refine ⟨zs.take l, ⟨some a, c, by rw [hlen], by omega, fun y hy => bounds_i64 (hwz y (List.mem_of_mem_take hy)), fun hne => ?_⟩, ?_⟩
    · have h0 : 0 < l := by
        rcases Nat.eq_zero_or_pos l with h0 | h0
        · subst h0; simp at hne
        · exact h0
      obtain ⟨b, off, spot⟩ := a
      have hc := hcell 0 (by omega)
      have hspot : spot = none := by simpa [Addr.add] using World.cell?_spot hc
      subst hspot
      refine ⟨b, off, rfl, fun i n hi => ?_⟩
      have hi' : i < l := by have := (List.getElem?_eq_some_iff.1 hi).1; omega
      have := hcell i (by omega)
      rw [addP8] at this
      rw [this]
      rw [List.getElem?_take, if_pos hi'] at hi
      rw [List.getD_eq_getElem?_getD, hi]
      rfl
    · have hb1 : Try.prog.bytesOf 3 = 8 := by kernel_rfl
      rw [hx] at hw
      simp only [DataW.weights, Try.underlying45, hb1, List.all_cons, Bool.and_eq_true, decide_eq_true_eq] at hw
      have h1 := hw.1
      have h2 : (lits (H := H) .i64 (zs.take l)).length = (zs.take l).length := by simp [lits]
      have := reachL
      omega

theorem open_bbT {fuel : Nat} {v : Value} {x : DataW H × List MemPlace} (h : DataW.trod enc Try.prog W base spare held fuel 44 [v] = some x) (hw : (x.1.weights Try.prog 44).all (· ≤ reachBytes) = true) :
    ∃ l : List BbT, SeesBb W v l ∧ l.length ≤ 140737488355328 := by
  have hcells : Try.prog.cellsOf 30 = 1 := by kernel_rfl
  rcases Deep.open_slice Try.underlying44 h with ⟨hcs, _⟩ | ⟨a', len, cap, m, n, D, Pl, hcs, _, hl, hm, hmm, hx, hel⟩
  · simp at hcs
    subst hcs
    exact ⟨[], ⟨none, 0, rfl, Nat.le_refl _, by simp, fun e => absurd rfl e⟩, Nat.zero_le _⟩
  · simp at hcs
    subst hcs
    have hlm : len ≤ m := by rw [hmm]; split <;> omega
    have hbo : Try.prog.bytesOf 30 = 24 := by kernel_rfl
    rw [hx] at hw
    simp only [DataW.weights, Try.underlying44, hbo, List.all_cons, List.all_append, Bool.and_eq_true, decide_eq_true_eq] at hw
    have hwd : ∀ i, i < len → ((D i).weights Try.prog 30).all (· ≤ reachBytes) = true := by
      intro i hi
      have := hw.2.1
      rw [List.all_eq_true] at this ⊢
      intro q hq
      exact this q (weightsL_all (List.mem_map.2 ⟨i, List.mem_range.2 hi, rfl⟩) q hq)
    have each : ∀ i, i < len → ∃ o : BbT, W.cell? (a'.add i) = some o.v ∧ GoodBb W o := by
      intro i hi
      obtain ⟨cs', h1, h2⟩ := hel i (by omega)
      rw [hcells] at h1
      obtain ⟨_, hlen, hcell⟩ := World.cells?_some h1
      match cs', hlen with
      | [u], _ =>
        obtain ⟨ao, c2, ys, e4, hs, hsl, hby⟩ := open_bytesL h2 (hwd i hi)
        subst e4
        refine ⟨⟨ao, c2, ys⟩, ?_, hs, hby, hsl⟩
        have := hcell 0 (by omega)
        rw [Deep.add_add, Nat.mul_one, Nat.add_zero] at this
        exact this
    have : Inhabited BbT := ⟨⟨none, 0, []⟩⟩
    obtain ⟨O, hO⟩ := Deep.choose_lt each
    have hol : ((List.range len).map O).length = len := by simp
    refine ⟨(List.range len).map O, ⟨some a', cap, by rw [hol], by omega, ?_, fun hne => ?_⟩, ?_⟩
    · intro s hs
      obtain ⟨i, hi, rfl⟩ := List.mem_map.1 hs
      exact (hO i (by simpa using hi)).2
    · have h0 : len ≠ 0 := fun e => hne (by subst e; rfl)
      obtain ⟨b, off, spot⟩ := a'
      have hc := (hO 0 (by omega)).1
      have hspot : spot = none := by simpa [Addr.add] using World.cell?_spot hc
      subst hspot
      refine ⟨b, off, rfl, fun i s hs => ?_⟩
      have hi : i < len := by rw [← hol]; exact (List.getElem?_eq_some_iff.1 hs).1
      have c := (hO i hi).1
      rw [Addr.add_lit] at c
      have es : s = O i := by
        have := (List.getElem?_eq_some_iff.1 hs).2
        simpa using this.symm
      subst es
      exact c
    · rw [hol]
      have h1 := hw.1
      simp at h1
      have hr := reachL
      omega
end
end Go.Proofs.Ytdhdmfibdgepfaa
