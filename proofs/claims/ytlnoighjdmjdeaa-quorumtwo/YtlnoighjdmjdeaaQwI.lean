/- Two Acks of one System and one of another one, and the document's three beside them: what each call of Put leaves as it was. -/
import Derived.Test.YtlnoighjdmjdeaaQwG
namespace Go.Proofs.Ytlnoighjdmjdeaa
open Go.RowKit Go.Shelf
set_option maxRecDepth 8000

abbrev syE : SyD := syD [1, 1, 1] [0, 1, 2]
theorem okE : NewOk [1, 1, 1] [0, 1, 2] := ⟨by decide, by decide, rfl, fun i hi => by
  have h3 : i < 3 := hi
  have : i = 0 ∨ i = 1 ∨ i = 2 := by omega
  rcases this with rfl | rfl | rfl <;> decide, ⟨0, by decide, by decide⟩⟩

/-- The document's Acks whose blocks lie from B on and below U. -/
def Rax (w : World) (B U r n : Nat) (A : AcD) : Prop := ∃ bh ch bu cu, Ra w B B r n A bh ch bu cu ∧ B < U ∧ bh < U ∧ bu < U
section
variable {w w' : World} {B U r n : Nat} {A : AcD}
theorem Rax.kept {S : Nat → Prop} (h : Rax w B U r n A) (hk : Kept w w' S) (hS : ∀ k, B ≤ k → k < U → ¬ S k) : Rax w' B U r n A := by
  obtain ⟨bh, ch, bu, cu, h, u1, u2, u3⟩ := h
  refine ⟨bh, ch, bu, cu, ?_, u1, u2, u3⟩
  obtain ⟨f, ⟨c1, h1, h1'⟩, h2⟩ := h.hs
  obtain ⟨g, ⟨c2, h3, h3'⟩, h4⟩ := h.us
  exact ⟨hk.heap h.row (hS B (Nat.le_refl _) u1), ⟨f, ⟨c1, hk.heap h1 (hS bh h.Bh u2), h1'⟩, h2⟩, ⟨g, ⟨c2, hk.heap h3 (hS bu h.Bu u3), h3'⟩, h4⟩, h.nh, h.nu, h.mh, h.mu, h.Bq, h.Bh, h.Bu⟩
theorem Rax.below (h : Rax w B U r n A) (hb : Below w.heap.size w w') : Rax w' B U r n A := by
  obtain ⟨bh, ch, bu, cu, h, u⟩ := h
  exact ⟨bh, ch, bu, cu, h.below hb, u⟩
theorem Rax.lt (h : Rax w B U r n A) : B < w.heap.size ∧ B < U := by
  obtain ⟨bh, ch, bu, cu, h, u⟩ := h
  exact ⟨h.lt.1, u.1⟩
end
theorem newAcks_x {w : World} {r : Nat} {ws gs : List Int} (h : IsDs w r ws gs) (ok : NewOk ws gs) : Calls Try.prog 15 #[.pointer (some ⟨r, 0, none⟩)] w fun e w' => e = .returned (.pointer (some ⟨w.heap.size, 0, none⟩)) ∧ Rax w' w.heap.size w'.heap.size r ws.length ac0 ∧ Below w.heap.size w w' :=
  Calls.mono (refNewAcks h ok) fun _ _ x => by
    obtain ⟨x1, ⟨bh, ch, bu, cu, x2⟩, x3⟩ := x
    exact ⟨x1, ⟨bh, ch, bu, cu, x2, x2.lt.1, x2.lt.2.1, x2.lt.2.2⟩, x3⟩
theorem put_x {w : World} {B U r : Nat} {ws gs : List Int} {A : AcD} (ok : NewOk ws gs) (hI : IsDs w r ws gs) (hR : Rax w B U r ws.length A) (v e m : Int) (h0 : -128 ≤ v) (h1 : v ≤ 127) : Calls Try.prog 21 #[.pointer (some ⟨B, 0, none⟩), .int .i8 v, zx e m] w fun x w' => x = .returned (.int .i64 (putE (syD ws gs) v)) ∧ Rax w' B U r ws.length (A.putV (syD ws gs) v e m) ∧ Kept w w' (fun k => B ≤ k ∧ k < U) := by
  obtain ⟨bh, ch, bu, cu, h, u1, u2, u3⟩ := hR
  refine Calls.mono (refPut_fine ok hI h v e m h0 h1) fun _ _ x => ⟨x.1, ⟨bh, ch, bu, cu, x.2.1, u1, u2, u3⟩, x.2.2.mono fun k _ e => ?_⟩
  have h1 := h.Bh
  have h2 := h.Bu
  rcases e with rfl | rfl
  · exact ⟨h1, u2⟩
  · exact ⟨h2, u3⟩
theorem com_x {w : World} {B U r : Nat} {ws gs : List Int} {A : AcD} (ok : NewOk ws gs) (hI : IsDs w r ws gs) (hR : Rax w B U r ws.length A) : Calls Try.prog 17 #[.pointer (some ⟨B, 0, none⟩)] w fun x w' => x = .returned (.tuple #[zx (A.com (syD ws gs) (syD ws gs).n).2.1 (A.com (syD ws gs) (syD ws gs).n).2.2, .bool (A.com (syD ws gs) (syD ws gs).n).1]) ∧ Below w.heap.size w w' := by
  obtain ⟨bh, ch, bu, cu, h, u⟩ := hR
  exact refCom_any ok hI h

/-- Where they lie. -/
structure Adr where
  s : Nat
  t : Nat
  pa : Nat
  pb : Nat
  pc : Nat
  r : Nat
  u : Nat
  R : Nat
  Ba : Nat
  Bb : Nat
  Bc : Nat
  Bd : Nat
/-- All of them in memory. -/
structure Wd (w W5 W : World) (d : Adr) (ws gs : List Int) (A A' B B' C C' : AcD) : Prop where
  s1 : IsSy W5 d.s (syD ws gs)
  s2 : IsSy W5 d.t syE
  d1 : IsDo W5 d.r d.R ws gs
  d2 : IsDo W5 d.u d.R [1, 1, 1] [0, 1, 2]
  k5 : Kept W5 W (fun k => k = d.pa ∨ k = d.pb ∨ k = d.pc)
  be : Below w.heap.size w W
  l0 : w.heap.size ≤ d.s
  l1 : d.s < d.pa
  l2 : d.t < d.pa
  l3 : d.pa < d.pb
  l4 : d.pb < d.pc
  l5 : d.pc < d.R
  l6 : d.R ≤ W5.heap.size
  l7 : W5.heap.size ≤ d.Ba
  l8 : d.Ba < d.Bb
  l9 : d.Bb < d.Bc
  pA : IsAc W d.pa d.s A
  pB : IsAc W d.pb d.s B
  pC : IsAc W d.pc d.t C
  rA : Rax W d.Ba d.Bb d.r ws.length A'
  rB : Rax W d.Bb d.Bc d.r ws.length B'
  rC : Rax W d.Bc d.Bd d.u 3 C'
section
variable {w W5 W W' : World} {d : Adr} {ws gs : List Int} {A A' B B' C C' X : AcD}
theorem Wd.sy1 (h : Wd w W5 W d ws gs A A' B B' C C') : IsSy W d.s (syD ws gs) := by
  obtain ⟨s1, s2, d1, d2, k5, be, l0, l1, l2, l3, l4, l5, l6, l7, l8, l9, pA, pB, pC, rA, rB, rC⟩ := h
  exact s1.kept k5 (fun e => by rcases e with e | e | e <;> omega)
theorem Wd.sy2 (h : Wd w W5 W d ws gs A A' B B' C C') : IsSy W d.t syE := by
  obtain ⟨s1, s2, d1, d2, k5, be, l0, l1, l2, l3, l4, l5, l6, l7, l8, l9, pA, pB, pC, rA, rB, rC⟩ := h
  exact s2.kept k5 (fun e => by rcases e with e | e | e <;> omega)
theorem Wd.ds1 (h : Wd w W5 W d ws gs A A' B B' C C') : IsDs W d.r ws gs := by
  obtain ⟨s1, s2, d1, d2, k5, be, l0, l1, l2, l3, l4, l5, l6, l7, l8, l9, pA, pB, pC, rA, rB, rC⟩ := h
  exact (d1.kept k5 (fun k h e => by rcases e with e | e | e <;> omega)).ds
theorem Wd.ds2 (h : Wd w W5 W d ws gs A A' B B' C C') : IsDs W d.u [1, 1, 1] [0, 1, 2] := by
  obtain ⟨s1, s2, d1, d2, k5, be, l0, l1, l2, l3, l4, l5, l6, l7, l8, l9, pA, pB, pC, rA, rB, rC⟩ := h
  exact (d2.kept k5 (fun k h e => by rcases e with e | e | e <;> omega)).ds
theorem Wd.later (h : Wd w W5 W d ws gs A A' B B' C C') (hb : Below W.heap.size W W') : Wd w W5 W' d ws gs A A' B B' C C' := by
  obtain ⟨s1, s2, d1, d2, k5, be, l0, l1, l2, l3, l4, l5, l6, l7, l8, l9, pA, pB, pC, rA, rB, rC⟩ := h
  exact ⟨s1, s2, d1, d2, k5.trans (kept_of_below (S := fun _ => False) hb) (fun k _ e => e.elim), be.trans (hb.mono be.size), l0, l1, l2, l3, l4, l5, l6, l7, l8, l9, pA.below hb pA.lt, pB.below hb pB.lt, pC.below hb pC.lt, rA.below hb, rB.below hb, rC.below hb⟩
theorem Wd.drew (h : Wd w W5 W d ws gs A A' B B' C C') : Wd w W5 W.drew d ws gs A A' B B' C C' := h.later (Below.refl _ W).drew
theorem Wd.putA (h : Wd w W5 W d ws gs A A' B B' C C') (ha : IsAc W' d.pa d.s X) (hk : Kept W W' (fun k => k = d.pa)) : Wd w W5 W' d ws gs X A' B B' C C' := by
  obtain ⟨s1, s2, d1, d2, k5, be, l0, l1, l2, l3, l4, l5, l6, l7, l8, l9, pA, pB, pC, rA, rB, rC⟩ := h
  have hS : ∀ k, (fun k => k = d.pa) k → k = d.pa := fun _ e => e
  exact ⟨s1, s2, d1, d2, k5.trans hk (fun k _ e => .inl e), be.trans (hk.below be.size (fun k e => by have := hS k e; omega)), l0, l1, l2, l3, l4, l5, l6, l7, l8, l9, ha, pB.kept hk (fun e => by have := hS _ e; omega), pC.kept hk (fun e => by have := hS _ e; omega), rA.kept hk (fun k _ _ e => by have := hS k e; omega), rB.kept hk (fun k _ _ e => by have := hS k e; omega), rC.kept hk (fun k _ _ e => by have := hS k e; omega)⟩
theorem Wd.putB (h : Wd w W5 W d ws gs A A' B B' C C') (ha : IsAc W' d.pb d.s X) (hk : Kept W W' (fun k => k = d.pb)) : Wd w W5 W' d ws gs A A' X B' C C' := by
  obtain ⟨s1, s2, d1, d2, k5, be, l0, l1, l2, l3, l4, l5, l6, l7, l8, l9, pA, pB, pC, rA, rB, rC⟩ := h
  have hS : ∀ k, (fun k => k = d.pb) k → k = d.pb := fun _ e => e
  exact ⟨s1, s2, d1, d2, k5.trans hk (fun k _ e => .inr (.inl e)), be.trans (hk.below be.size (fun k e => by have := hS k e; omega)), l0, l1, l2, l3, l4, l5, l6, l7, l8, l9, pA.kept hk (fun e => by have := hS _ e; omega), ha, pC.kept hk (fun e => by have := hS _ e; omega), rA.kept hk (fun k _ _ e => by have := hS k e; omega), rB.kept hk (fun k _ _ e => by have := hS k e; omega), rC.kept hk (fun k _ _ e => by have := hS k e; omega)⟩
theorem Wd.putC (h : Wd w W5 W d ws gs A A' B B' C C') (ha : IsAc W' d.pc d.t X) (hk : Kept W W' (fun k => k = d.pc)) : Wd w W5 W' d ws gs A A' B B' X C' := by
  obtain ⟨s1, s2, d1, d2, k5, be, l0, l1, l2, l3, l4, l5, l6, l7, l8, l9, pA, pB, pC, rA, rB, rC⟩ := h
  have hS : ∀ k, (fun k => k = d.pc) k → k = d.pc := fun _ e => e
  exact ⟨s1, s2, d1, d2, k5.trans hk (fun k _ e => .inr (.inr e)), be.trans (hk.below be.size (fun k e => by have := hS k e; omega)), l0, l1, l2, l3, l4, l5, l6, l7, l8, l9, pA.kept hk (fun e => by have := hS _ e; omega), pB.kept hk (fun e => by have := hS _ e; omega), ha, rA.kept hk (fun k _ _ e => by have := hS k e; omega), rB.kept hk (fun k _ _ e => by have := hS k e; omega), rC.kept hk (fun k _ _ e => by have := hS k e; omega)⟩
theorem Wd.refA (h : Wd w W5 W d ws gs A A' B B' C C') (ha : Rax W' d.Ba d.Bb d.r ws.length X) (hk : Kept W W' (fun k => d.Ba ≤ k ∧ k < d.Bb)) : Wd w W5 W' d ws gs A X B B' C C' := by
  obtain ⟨s1, s2, d1, d2, k5, be, l0, l1, l2, l3, l4, l5, l6, l7, l8, l9, pA, pB, pC, rA, rB, rC⟩ := h
  have hS : ∀ k, (fun k => d.Ba ≤ k ∧ k < d.Bb) k → d.Ba ≤ k ∧ k < d.Bb := fun _ e => e
  exact ⟨s1, s2, d1, d2, k5.trans hk (fun k _ e => by have := hS k e; omega), be.trans (hk.below be.size (fun k e => by have := hS k e; omega)), l0, l1, l2, l3, l4, l5, l6, l7, l8, l9, pA.kept hk (fun e => by have := hS _ e; omega), pB.kept hk (fun e => by have := hS _ e; omega), pC.kept hk (fun e => by have := hS _ e; omega), ha, rB.kept hk (fun k _ _ e => by have := hS k e; omega), rC.kept hk (fun k _ _ e => by have := hS k e; omega)⟩
theorem Wd.refB (h : Wd w W5 W d ws gs A A' B B' C C') (ha : Rax W' d.Bb d.Bc d.r ws.length X) (hk : Kept W W' (fun k => d.Bb ≤ k ∧ k < d.Bc)) : Wd w W5 W' d ws gs A A' B X C C' := by
  obtain ⟨s1, s2, d1, d2, k5, be, l0, l1, l2, l3, l4, l5, l6, l7, l8, l9, pA, pB, pC, rA, rB, rC⟩ := h
  have hS : ∀ k, (fun k => d.Bb ≤ k ∧ k < d.Bc) k → d.Bb ≤ k ∧ k < d.Bc := fun _ e => e
  exact ⟨s1, s2, d1, d2, k5.trans hk (fun k _ e => by have := hS k e; omega), be.trans (hk.below be.size (fun k e => by have := hS k e; omega)), l0, l1, l2, l3, l4, l5, l6, l7, l8, l9, pA.kept hk (fun e => by have := hS _ e; omega), pB.kept hk (fun e => by have := hS _ e; omega), pC.kept hk (fun e => by have := hS _ e; omega), rA.kept hk (fun k _ _ e => by have := hS k e; omega), ha, rC.kept hk (fun k _ _ e => by have := hS k e; omega)⟩
theorem Wd.refC (h : Wd w W5 W d ws gs A A' B B' C C') (ha : Rax W' d.Bc d.Bd d.u 3 X) (hk : Kept W W' (fun k => d.Bc ≤ k ∧ k < d.Bd)) : Wd w W5 W' d ws gs A A' B B' C X := by
  obtain ⟨s1, s2, d1, d2, k5, be, l0, l1, l2, l3, l4, l5, l6, l7, l8, l9, pA, pB, pC, rA, rB, rC⟩ := h
  have hS : ∀ k, (fun k => d.Bc ≤ k ∧ k < d.Bd) k → d.Bc ≤ k ∧ k < d.Bd := fun _ e => e
  exact ⟨s1, s2, d1, d2, k5.trans hk (fun k _ e => by have := hS k e; omega), be.trans (hk.below be.size (fun k e => by have := hS k e; omega)), l0, l1, l2, l3, l4, l5, l6, l7, l8, l9, pA.kept hk (fun e => by have := hS _ e; omega), pB.kept hk (fun e => by have := hS _ e; omega), pC.kept hk (fun e => by have := hS _ e; omega), rA.kept hk (fun k _ _ e => by have := hS k e; omega), rB.kept hk (fun k _ _ e => by have := hS k e; omega), ha⟩
end

end Go.Proofs.Ytlnoighjdmjdeaa
