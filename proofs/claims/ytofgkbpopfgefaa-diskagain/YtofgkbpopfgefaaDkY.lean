/- Two disks, one of them armed: data and memory. -/
import Derived.Test.YtofgkbpopfgefaaDkT
import Derived.Test.YtofgkbpopfgefaaDkX
namespace Go.Proofs.Ytofgkbpopfgefaa
open Go.RowKit Go.Shelf
set_option maxRecDepth 8000

/-- A is D, armed with what is left of n. -/
structure Mate (n : Int) (D A : DkD) : Prop where
  on : D.on = true
  un : D.armed = -1
  is : A = { D with armed := if n < 0 then -1 else n - D.writes }
  le : n < 0 ∨ D.writes ≤ n

/-- What one call does to both. -/
def Stays (n : Int) (D D' A' : DkD) (x y : Int) : Prop := y = x ∧ Mate n D' A' ∧ (D'.writes = D.writes ∨ (D'.writes = D.writes + 1 ∧ (n < 0 ∨ D.writes ≠ n)))
def Falls (n : Int) (D D' A' : DkD) (x y : Int) : Prop := x = 0 ∧ y = 23 ∧ D'.writes = D.writes + 1 ∧ 0 ≤ n ∧ D.writes = n ∧ A'.on = false ∧ A'.writes = n ∧ A'.files = D.files

theorem mate_act {n : Int} {D A : DkD} (h : Mate n D A) (e : Int) (fs : List FiD) : Stays n D (D.act e fs).2 (A.act e fs).2 (D.act e fs).1 (A.act e fs).1 ∨ Falls n D (D.act e fs).2 (A.act e fs).2 (D.act e fs).1 (A.act e fs).1 := by
  by_cases he : e = 0
  · subst he
    have hD : D.act 0 fs = (0, D.done fs) := act_done (by rw [h.un]; decide) fs
    have hDm : ∀ (_ : n < 0 ∨ D.writes + 1 ≤ n), Mate n (D.done fs) { D.done fs with armed := if n < 0 then -1 else n - (D.writes + 1) } := fun hle => ⟨h.on, by show max (D.armed - 1) (-1) = -1; rw [h.un]; omega, rfl, hle⟩
    by_cases hn : n < 0
    · have hA : A.act 0 fs = (0, A.done fs) := act_done (by rw [h.is]; simp [hn]) fs
      have hAd : A.done fs = { D.done fs with armed := if n < 0 then -1 else n - (D.writes + 1) } := by
        rw [h.is]
        unfold DkD.done
        simp only [if_pos hn]
        congr 1
      rw [hD, hA]
      refine .inl ⟨rfl, ?_, .inr ⟨rfl, .inl hn⟩⟩
      show Mate n (D.done fs) (A.done fs)
      rw [hAd]
      exact hDm (.inl hn)
    · have hle : D.writes ≤ n := by rcases h.le with e | e; exact absurd e hn; exact e
      by_cases hw : D.writes = n
      · have hA : A.act 0 fs = (23, A.off) := act_off (by rw [h.is]; simp [hn]; omega) fs
        rw [hD, hA]
        have hoff : A.off = { A with on := false, armed := -1 } := by unfold DkD.off; rw [h.is]; simp [h.on]
        refine .inr ⟨rfl, rfl, rfl, by omega, hw, ?_, ?_, ?_⟩
        · show A.off.on = false
          rw [hoff]
        · show A.off.writes = n
          rw [hoff, h.is]
          exact hw
        · show A.off.files = D.files
          rw [hoff, h.is]
      · have hA : A.act 0 fs = (0, A.done fs) := act_done (by rw [h.is]; simp [hn]; omega) fs
        have hAd : A.done fs = { D.done fs with armed := if n < 0 then -1 else n - (D.writes + 1) } := by
          rw [h.is]
          unfold DkD.done
          simp only [if_neg hn]
          congr 1
          omega
        rw [hD, hA]
        refine .inl ⟨rfl, ?_, .inr ⟨rfl, .inr hw⟩⟩
        show Mate n (D.done fs) (A.done fs)
        rw [hAd]
        exact hDm (.inr (by omega))
  · rw [act_err he, act_err he]
    exact .inl ⟨rfl, h, .inl rfl⟩

theorem mate_actK {n : Int} {D A : DkD} (h : Mate n D A) (o : OpK) : Stays n D (actK D o).2 (actK A o).2 (actK D o).1 (actK A o).1 ∨ Falls n D (actK D o).2 (actK A o).2 (actK D o).1 (actK A o).1 := by
  have hf : A.files = D.files := by rw [h.is]
  have e1 : A.errA o.name o.p.length = D.errA o.name o.p.length := by rw [h.is]; rfl
  have e2 : A.errO o.name = D.errO o.name := by rw [h.is]; rfl
  have e3 : A.errC o.name o.n = D.errC o.name o.n := by rw [h.is]; rfl
  have e4 : A.errR o.name o.dest = D.errR o.name o.dest := by rw [h.is]; rfl
  unfold actK
  rw [e1, e2, e3, e4, hf]
  split
  · exact mate_act h _ _
  · split
    · exact mate_act h _ _
    · split
      · exact mate_act h _ _
      · split
        · exact mate_act h _ _
        · split
          · exact mate_act h _ _
          · exact .inl ⟨rfl, h, .inl rfl⟩

theorem mate_new (room n : Int) : Mate n (newD room) ((newD room).arm n) := by
  refine ⟨rfl, rfl, ?_, ?_⟩
  · unfold DkD.arm
    rw [if_pos rfl]
    congr 1
    show max n (-1) = if n < 0 then -1 else n - 0
    split <;> omega
  · show n < 0 ∨ (0 : Int) ≤ n
    omega

/-- Two disks that were made behind w, some calls later, with nothing in common. -/
structure Two (w : World) (p q : Nat) (wr : World) (fv : Value) (ms : List FiM) (D : DkD) (gv : Value) (ns : List FiM) (A : DkD) (k : Nat) : Prop where
  one : Run w p wr fv ms D k
  two : Run w q wr gv ns A k
  apart : ∀ j ∈ foot p fv ms, j ∉ foot q gv ns

theorem Two.swap {w : World} {p q : Nat} {wr : World} {fv gv : Value} {ms ns : List FiM} {D A : DkD} {k : Nat} (h : Two w p q wr fv ms D gv ns A k) : Two w q p wr gv ns A fv ms D k :=
  ⟨h.two, h.one, fun j hj e => h.apart j e hj⟩

theorem Run.more {w : World} {p : Nat} {wr : World} {fv : Value} {ms : List FiM} {D : DkD} {k k' : Nat} (h : Run w p wr fv ms D k) (hk : k ≤ k') : Run w p wr fv ms D k' :=
  ⟨h.is, h.ok, by have := h.writes; omega, h.bel, h.apart⟩

theorem Two.to {w : World} {p q : Nat} {wr wr' : World} {fv fv' gv : Value} {ms ms' ns : List FiM} {D D' A : DkD} {k k' : Nat} (h : Two w p q wr fv ms D gv ns A k) (ht : DkTo wr p fv ms wr' D' fv' ms') (ok : DkOk D') (hw : D'.writes ≤ k') (hk : k ≤ k') : Two w p q wr' fv' ms' D' gv ns A k' := by
  have h1 : Run w p wr' fv' ms' D' k' := h.one.to ht ok hw
  refine ⟨h1, ⟨h.two.is.kept ht.kept (fun j hj e => h.apart j e hj), h.two.ok, by have := h.two.writes; omega, h1.bel, h.two.apart⟩, fun j hj e => ?_⟩
  rcases ht.foot j hj with e' | e'
  · exact h.apart j e' e
  · have := h.two.is.lt e
    omega

theorem Two.later {w : World} {p q : Nat} {wr wr' : World} {fv gv : Value} {ms ns : List FiM} {D A : DkD} {k : Nat} (h : Two w p q wr fv ms D gv ns A k) (hb : Below wr.heap.size wr wr') : Two w p q wr' fv ms D gv ns A k :=
  ⟨h.one.later hb, h.two.later hb, h.apart⟩
end Go.Proofs.Ytofgkbpopfgefaa
