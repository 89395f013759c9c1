/- The document's net: Spoil. -/
import Derived.Test.YtghngopclhhoeaaDoorLpEJ
import Derived.Test.YtghngopclhhoeaaDoorRgIJ
namespace Go.Proofs.YtghngopclhhoeaaDoor
open Go.RowKit
set_option maxRecDepth 8000
set_option linter.unusedSimpArgs false
set_option linter.unusedVariables false

theorem gFlat_set (y : MsG) : ∀ (l : List MsG) (p : Nat), p < l.length → ((((gFlat l).set (p * 4) (.int .i8 y.f)).set (p * 4 + 1) (.int .i8 y.t)).set (p * 4 + 2) y.v).set (p * 4 + 3) (.bool y.sp) = gFlat (l.set p y)
  | x :: r, 0, _ => by simp [gFlat]
  | x :: r, p + 1, h => by
    have := gFlat_set y r p (by simpa using h)
    rw [show (p + 1) * 4 = p * 4 + 1 + 1 + 1 + 1 by omega, show p * 4 + 1 + 1 + 1 + 1 + 1 = p * 4 + 1 + 1 + 1 + 1 + 1 by rfl]
    simp only [gFlat, List.set_cons_succ, List.set_cons_zero]
    rw [← this]
  | [], _, h => by simp at h

/-- What the document's Spoil answers where there is a message. -/
def gE (m : MsG) (k x : Int) : Int := if k < 0 ∨ (m.bs.length : Int) ≤ k ∨ x = 0 then 1 else if m.sp then 220 else 0

theorem rSpoil_none {w : World} {d : Nat} {n : Int} {base : Nat} {v : Value} {l : List MsG} (h : Dn w d n base v l) (p k x : Int) (hp : p < 0 ∨ (l.length : Int) ≤ p) :
    Calls Tryd.prog 25 #[.pointer (some ⟨d, 0, none⟩), .int .i64 p, .int .i64 k, .int .u8 x] w fun e w' => e = .returned (.int .i64 220) ∧ w' = w := by
  obtain ⟨va, vc, rfl⟩ := rowSl h.ow.row
  have c1 := h.c1
  have hz := lt_of_block h.hb
  clear h
  by_cases q : p < 0
  · have d1 : decide (p < 0) = true := decide_eq_true q
    go_enter Tryd.func25, Tryd.ntmps25
    go_wp2_with fail
    all_goals (go_ret; exact ⟨rfl, rfl⟩)
  · have d1 : decide (p < 0) = false := decide_eq_false q
    have d2 : decide ((l.length : Int) ≤ p) = true := decide_eq_true (by omega)
    go_enter Tryd.func25, Tryd.ntmps25
    go_wp2_with fail
    all_goals (go_ret; exact ⟨rfl, rfl⟩)

set_option maxHeartbeats 4000000 in
theorem rSpoil_no {w : World} {d p : Nat} {n : Int} {base : Nat} {v : Value} {l : List MsG} {m : MsG} (h : Dn w d n base v l) (hm : l[p]? = some m) (k x : Int) (hE : gE m k x ≠ 0) :
    Calls Tryd.prog 25 #[.pointer (some ⟨d, 0, none⟩), .int .i64 (p : Nat), .int .i64 k, .int .u8 x] w fun e w' => e = .returned (.int .i64 (gE m k x)) ∧ Below w.heap.size w w' := by
  obtain ⟨g, vc, ma, mc, rfl, hmv, hg, q0, q1, q2, q3⟩ := h.at' hm
  have c1 := h.c1
  have hz := lt_of_block h.hb
  have hpl : p < l.length := (List.getElem?_eq_some_iff.1 hm).1
  have d1 : decide ((p : Int) < 0) = false := decide_eq_false (by omega)
  have d2 : decide (l.length ≤ p) = false := decide_eq_false (by omega)
  have HB : Hid (Below w.heap.size w (w.alloc (.cells #[.int .i8 m.f, .int .i8 m.t, .slice ma m.bs.length mc, .bool m.sp] 72))) := oneL w _
  have hb := heap_alloc_new w (.cells #[.int .i8 m.f, .int .i8 m.t, .slice ma m.bs.length mc, .bool m.sp] 72)
  have t2 : (w.alloc (.cells #[.int .i8 m.f, .int .i8 m.t, .slice ma m.bs.length mc, .bool m.sp] 72)).cell? ⟨w.heap.size, 2, none⟩ = some (.slice ma m.bs.length mc) := by rw [cell_of_row _ _ _ _ _ _ hb]; rfl
  have HV : Hid (gE m k x = if k < 0 ∨ (m.bs.length : Int) ≤ k ∨ x = 0 then 1 else if m.sp then 220 else 0) := rfl
  have HE : Hid (gE m k x ≠ 0) := hE
  clear h hm hb hmv hE
  by_cases a1 : k < 0
  · have e1 : decide (k < 0) = true := decide_eq_true a1
    have e0 : Hid (gE m k x = 1) := by show _ = _; rw [HV.out, if_pos (.inl a1)]
    clear HV HE
    go_enter Tryd.func25, Tryd.ntmps25
    go_wp2_with fail
    all_goals (go_ret; exact ⟨by rw [e0.out]; rfl, HB.out⟩)
  · have e1 : decide (k < 0) = false := decide_eq_false a1
    by_cases a2 : (m.bs.length : Int) ≤ k
    · have e2 : decide ((m.bs.length : Int) ≤ k) = true := decide_eq_true a2
      have e0 : Hid (gE m k x = 1) := by show _ = _; rw [HV.out, if_pos (.inr (.inl a2))]
      clear HV HE
      go_enter Tryd.func25, Tryd.ntmps25
      go_wp2_with fail
      all_goals (go_ret; exact ⟨by rw [e0.out]; rfl, HB.out⟩)
    · have e2 : decide ((m.bs.length : Int) ≤ k) = false := decide_eq_false a2
      by_cases a3 : x = 0
      · subst a3
        have e0 : Hid (gE m k 0 = 1) := by show _ = _; rw [HV.out, if_pos (.inr (.inr rfl))]
        clear HV HE
        go_enter Tryd.func25, Tryd.ntmps25
        go_wp2_with fail
        all_goals (go_ret; exact ⟨by rw [e0.out]; rfl, HB.out⟩)
      · have e3 : (x == 0) = false := by simpa using a3
        have e4 : m.sp = true := by
          cases hh : m.sp with
          | true => rfl
          | false => exact absurd (by rw [HV.out, if_neg (by omega), hh]; rfl) HE.out
        have e0 : Hid (gE m k x = 220) := by show _ = _; rw [HV.out, if_neg (by omega), e4]; rfl
        rw [e4] at q3 HB t2
        clear HV HE
        go_enter Tryd.func25, Tryd.ntmps25
        go_wp2_with fail
        all_goals (go_ret; exact ⟨by rw [e0.out]; rfl, HB.out⟩)

/-- A message, one byte turned, its bytes in a block of their own. -/
theorem dn_spoil {w w9 : World} {d p g c : Nat} {n : Int} {base : Nat} {l : List MsG} {m y : MsG} (h : Dn w d n base (.slice (some ⟨g, 0, none⟩) l.length c) l) (hm : l[p]? = some m) (b9 : Below w.heap.size w w9) (hy : Owns w9 w.heap.size y.v y.bs) (hbase : base ≤ w.heap.size) (hyl : y.bs.length = m.bs.length) :
    Dn ((((w9.setCell ⟨g, p * 4, none⟩ (.int .i8 y.f)).setCell ⟨g, p * 4 + 1, none⟩ (.int .i8 y.t)).setCell ⟨g, p * 4 + 2, none⟩ y.v).setCell ⟨g, p * 4 + 3, none⟩ (.bool y.sp)) d n base (.slice (some ⟨g, 0, none⟩) l.length c) (l.set p y) ∧ Kept w ((((w9.setCell ⟨g, p * 4, none⟩ (.int .i8 y.f)).setCell ⟨g, p * 4 + 1, none⟩ (.int .i8 y.t)).setCell ⟨g, p * 4 + 2, none⟩ y.v).setCell ⟨g, p * 4 + 3, none⟩ (.bool y.sp)) (fun k => k = g) := by
  have h9 := h.below b9
  have hp : p < l.length := (List.getElem?_eq_some_iff.1 hm).1
  obtain ⟨cs, hrow⟩ := rowTl h9.ow.row rfl
  have r1 := (((h9.ow.row.stored (p * 4) (.int .i8 y.f)).1.stored (p * 4 + 1) (.int .i8 y.t)).1.stored (p * 4 + 2) y.v).1.stored (p * 4 + 3) (.bool y.sp)
  rw [gFlat_set y l p hp] at r1
  have k1 := Kept.setCell (S := (· = g)) (Kept.refl w9 (· = g)) ⟨g, p * 4, none⟩ (.int .i8 y.f) (fun _ => rfl)
  have k2 := Kept.setCell (S := (· = g)) k1 ⟨g, p * 4 + 1, none⟩ (.int .i8 y.t) (fun _ => rfl)
  have k3 := Kept.setCell (S := (· = g)) k2 ⟨g, p * 4 + 2, none⟩ y.v (fun _ => rfl)
  have k4 := Kept.setCell (S := (· = g)) k3 ⟨g, p * 4 + 3, none⟩ (.bool y.sp) (fun _ => rfl)
  have hgd : d ≠ g := fun e => by subst e; have := h9.hb; rw [hrow] at this; simp at this
  have hng : ∀ (q : MsG) (B : Nat), Owns w9 B q.v q.bs → ∀ k, q.v.ownBlock = some k → k ≠ g := fun q B ho k e e2 => by
    subst e2
    obtain ⟨cs', e'⟩ := rowTl ho e
    rw [hrow] at e'; simp at e'
  have hl : (l.set p y).length = l.length := by simp
  have hmem : ∀ q ∈ l.set p y, q ∈ l ∨ q = y := fun q hq => List.mem_or_eq_of_mem_set hq
  have hm' := List.mem_of_getElem? hm
  refine ⟨⟨k4.heap h9.hb hgd, ⟨by rw [hl]; exact r1.1, fun q hq => ?_⟩, fun q hq => ?_, fun q hq => ?_⟩, ((Below.kept b9).mono (S' := fun k => k = g) (fun k h1 h2 => by omega)).trans k4 (fun _ _ e => e)⟩
  · rcases hmem q hq with hq | rfl
    · exact Owns.kept (h9.ow.own q hq) k4 (fun k e => hng q _ (h9.ow.own q hq) k e)
    · exact Owns.kept (row_lowerl hy hbase) k4 (fun k e => hng q _ hy k e)
  · rcases hmem q hq with hq | rfl
    · exact h9.lo q hq
    · rw [hyl]; exact h9.lo m hm'
  · rcases hmem q hq with hq | rfl
    · exact h9.hi q hq
    · rw [hyl]; exact h9.hi m hm'

set_option maxHeartbeats 8000000 in
theorem rSpoil_yes {w : World} {d p k : Nat} {n x : Int} {base : Nat} {v : Value} {l : List MsG} {m : MsG} (h : Dn w d n base v l) (hbase : base ≤ w.heap.size) (hm : l[p]? = some m) (hE : gE m (k : Nat) x = 0) :
    Calls Tryd.prog 25 #[.pointer (some ⟨d, 0, none⟩), .int .i64 (p : Nat), .int .i64 (k : Nat), .int .u8 x] w fun e w' => e = .returned (.int .i64 0) ∧ ∃ u, Dn w' d n base v (l.set p ⟨m.f, m.t, u, m.bs.set k (bits .xor .u8 (m.bs.getD k 0) x), true⟩) ∧ Kept w w' (fun q => v.ownBlock = some q) ∧ (∀ q, u.ownBlock = some q → w.heap.size ≤ q) := by
  have hc : k < m.bs.length ∧ x ≠ 0 ∧ m.sp = false := by
    unfold gE at hE
    split at hE
    · simp at hE
    · rename_i hh
      refine ⟨by omega, fun e => hh (.inr (.inr e)), ?_⟩
      cases hs : m.sp with
      | true => rw [hs] at hE; simp at hE
      | false => rfl
  obtain ⟨hk, hx, hsp⟩ := hc
  obtain ⟨g, vc, ma, mc, rfl, hmv, hg, q0, q1, q2, q3⟩ := h.at' hm
  rw [hsp] at q3
  have c1 := h.c1
  have hz := lt_of_block h.hb
  have hpl : p < l.length := (List.getElem?_eq_some_iff.1 hm).1
  have d1 : decide ((p : Int) < 0) = false := decide_eq_false (by omega)
  have d2 : decide (l.length ≤ p) = false := decide_eq_false (by omega)
  have d3 : decide ((k : Int) < 0) = false := decide_eq_false (by omega)
  have d4 : decide (m.bs.length ≤ k) = false := decide_eq_false (by omega)
  have d5 : (x == 0) = false := by simpa using hx
  have o1 := oneL w (.cells #[.int .i8 m.f, .int .i8 m.t, .slice ma m.bs.length mc, .bool false] 72)
  have hb := heap_alloc_new w (.cells #[.int .i8 m.f, .int .i8 m.t, .slice ma m.bs.length mc, .bool false] 72)
  have t2 : (w.alloc (.cells #[.int .i8 m.f, .int .i8 m.t, .slice ma m.bs.length mc, .bool false] 72)).cell? ⟨w.heap.size, 2, none⟩ = some (.slice ma m.bs.length mc) := by rw [cell_of_row _ _ _ _ _ _ hb]; rfl
  have hmb : m.bs.length ≤ 8192 := h.hi m (List.mem_of_getElem? hm)
  have HD : Hid (Dn w d n base (.slice (some ⟨g, 0, none⟩) l.length vc) l ∧ l[p]? = some m ∧ Sees (w.alloc (.cells #[.int .i8 m.f, .int .i8 m.t, .slice ma m.bs.length mc, .bool false] 72)) (.slice ma m.bs.length mc) m.bs) := by
    refine ⟨h, hm, ?_⟩
    have := (Sees.own (h.ow.own m (List.mem_of_getElem? hm))).below o1 (Nat.le_refl _)
    rw [hmv] at this
    exact this
  clear h hm hmv hE hx hsp
  go_enter Tryd.func25, Tryd.ntmps25
  go_wp2_with fail
  refine Calls.mono (copyBytes_any _ m.bs _ HD.out.2.2 (by omega)) ?_
  rintro _ w4 ⟨v4, rfl, ho4, b4⟩
  obtain ⟨g4, c4, rfl⟩ : ∃ g4 c4, v4 = .slice (some ⟨g4, 0, none⟩) m.bs.length c4 := by
    obtain ⟨_, ⟨e, h0⟩ | ⟨g', cap, cur, e, _⟩⟩ := ho4
    · omega
    · exact ⟨g', cap, e⟩
  have hs1 : (w.alloc (.cells #[.int .i8 m.f, .int .i8 m.t, .slice ma m.bs.length mc, .bool false] 72)).heap.size = w.heap.size + 1 := World.size_alloc _ _
  have b4w : Below w.heap.size w w4 := o1.trans (b4.mono (by omega))
  have hg4 := ho4.lt g4 rfl
  have y4 : w4.cell? ⟨g4, k, none⟩ = some (.int .u8 (m.bs.getD k 0)) := owns_cell ho4 k hk
  have f4 : w4.frozen? ⟨g4, k, none⟩ = false := by obtain ⟨cs, e⟩ := rowTl ho4 rfl; exact frozen_of_row _ _ _ _ _ e
  obtain ⟨y, HY⟩ : ∃ y, Hid (y = m.bs.getD k 0) := ⟨_, rfl⟩
  rw [← HY.out] at y4
  obtain ⟨w5, hw5⟩ : ∃ w5, w5 = w4.setCell ⟨g4, k, none⟩ (.int .u8 (bits .xor .u8 y x)) := ⟨_, rfl⟩
  obtain ⟨ow5, _⟩ := owns_set ho4 k (bits .xor .u8 y x)
  have k5 : Kept w4 w5 (· = g4) := by rw [hw5]; exact Kept.setCell (S := (· = g4)) (Kept.refl w4 _) _ _ (fun _ => rfl)
  rw [← hw5] at ow5
  have b5 : Below w.heap.size w w5 := b4w.trans (k5.below b4w.size (fun q e => by omega))
  have hd5 := HD.out.1.below b5
  obtain ⟨g', vc', za, zc, e1, e2, _, s0, s1, s2, s3⟩ := hd5.at' HD.out.2.1
  simp only [Value.slice.injEq, Option.some.injEq, Addr.mk.injEq, and_true] at e1
  obtain ⟨rfl, _, hvc⟩ := e1
  subst hvc
  have hb5 : w5.heap[w.heap.size]? = some (.cells #[.int .i8 m.f, .int .i8 m.t, .slice ma m.bs.length mc, .bool false] 72 (0, 0)) := k5.heap (boxL hb b4) (by omega)
  obtain ⟨cs5, hr5⟩ := rowTl hd5.ow.row rfl
  have hlen : (m.bs.set k (bits .xor .u8 y x)).length = m.bs.length := by simp
  rw [hlen] at ow5
  have ow6 := row_lowerl (base' := w.heap.size) ow5 (by rw [hs1]; omega)
  have HF := dn_spoil (y := ⟨m.f, m.t, .slice (some ⟨g4, 0, none⟩) m.bs.length c4, m.bs.set k (bits .xor .u8 y x), true⟩) HD.out.1 HD.out.2.1 b5 ow6 hbase hlen
  have hgz : w.heap.size ≠ g := by omega
  have hgd : d ≠ g := fun e => by subst e; have := hd5.hb; rw [hr5] at this; simp at this
  have y0 : w5.drew.cell? ⟨d, 1, none⟩ = some (.slice (some ⟨g, 0, none⟩) l.length vc) := hd5.c1
  have y1 : w5.drew.cell? ⟨w.heap.size, 0, none⟩ = some (.int .i8 m.f) := by show w5.cell? _ = _; rw [cell_of_row _ _ _ _ _ _ hb5]; rfl
  have y2 : w5.drew.cell? ⟨w.heap.size, 1, none⟩ = some (.int .i8 m.t) := by show w5.cell? _ = _; rw [cell_of_row _ _ _ _ _ _ hb5]; rfl
  have f0 : w5.drew.frozen? ⟨g, p * 4, none⟩ = false := frozen_of_row w5 g _ _ _ hr5
  have f1 : w5.drew.frozen? ⟨g, p * 4 + 1, none⟩ = false := frozen_of_row w5 g _ _ _ hr5
  have f2 : w5.drew.frozen? ⟨g, p * 4 + 2, none⟩ = false := frozen_of_row w5 g _ _ _ hr5
  have f3 : w5.drew.frozen? ⟨g, p * 4 + 3, none⟩ = false := frozen_of_row w5 g _ _ _ hr5
  have r0 : w5.drew.cell? ⟨g, p * 4, none⟩ = some (.int .i8 m.f) := s0
  have r1 : w5.drew.cell? ⟨g, p * 4 + 1, none⟩ = some (.int .i8 m.t) := s1
  have r2 : w5.drew.cell? ⟨g, p * 4 + 2, none⟩ = some (.slice za m.bs.length zc) := s2
  have r3 : w5.drew.cell? ⟨g, p * 4 + 3, none⟩ = some (.bool m.sp) := s3
  have g1 : w5.frozen? ⟨g, p * 4 + 1, none⟩ = false := f1
  have g2 : w5.frozen? ⟨g, p * 4 + 2, none⟩ = false := f2
  have g3 : w5.frozen? ⟨g, p * 4 + 3, none⟩ = false := f3
  have kk : Kept w5.drew ((((w5.setCell ⟨g, p * 4, none⟩ (.int .i8 m.f)).setCell ⟨g, p * 4 + 1, none⟩ (.int .i8 m.t)).setCell ⟨g, p * 4 + 2, none⟩ (.slice (some ⟨g4, 0, none⟩) m.bs.length c4)).setCell ⟨g, p * 4 + 3, none⟩ (.bool true)).drew (fun k => k = g) :=
    Kept.setCell (S := (· = g)) (Kept.setCell (S := (· = g)) (Kept.setCell (S := (· = g)) (Kept.setCell (S := (· = g)) (Kept.refl w5.drew (· = g)) _ _ (fun _ => rfl)) _ _ (fun _ => rfl)) _ _ (fun _ => rfl)) _ _ (fun _ => rfl)
  have S12 := And.intro (kk.cell y0 hgd) (And.intro (kk.cell y1 hgz) (kk.cell y2 hgz))
  have HE : Hid (∃ u, Dn ((((w5.setCell ⟨g, p * 4, none⟩ (.int .i8 m.f)).setCell ⟨g, p * 4 + 1, none⟩ (.int .i8 m.t)).setCell ⟨g, p * 4 + 2, none⟩ (.slice (some ⟨g4, 0, none⟩) m.bs.length c4)).setCell ⟨g, p * 4 + 3, none⟩ (.bool true)).drew d n base (.slice (some ⟨g, 0, none⟩) l.length vc) (l.set p ⟨m.f, m.t, u, m.bs.set k (bits .xor .u8 (m.bs.getD k 0) x), true⟩) ∧ Kept w ((((w5.setCell ⟨g, p * 4, none⟩ (.int .i8 m.f)).setCell ⟨g, p * 4 + 1, none⟩ (.int .i8 m.t)).setCell ⟨g, p * 4 + 2, none⟩ (.slice (some ⟨g4, 0, none⟩) m.bs.length c4)).setCell ⟨g, p * 4 + 3, none⟩ (.bool true)).drew (fun q => (Value.slice (some ⟨g, 0, none⟩) l.length vc).ownBlock = some q) ∧ (∀ q, u.ownBlock = some q → w.heap.size ≤ q)) := by
    rw [← HY.out]
    refine ⟨.slice (some ⟨g4, 0, none⟩) m.bs.length c4, HF.1.kept ((Kept.refl _ (fun _ => False)).drewN 1) (fun _ _ e => e), (HF.2.mono (fun k _ e => by rw [e]; rfl)).drewN 1, fun q e => ?_⟩
    have : g4 = q := Option.some.inj e
    omega
  clear HF
  go_wp2_with fail
  rw [← hw5]
  clear hw5
  refine wp_region_held_drew (S := (fun W => W.cell? ⟨d, 1, none⟩ = some (.slice (some ⟨g, 0, none⟩) l.length vc) ∧ W.cell? ⟨w.heap.size, 0, none⟩ = some (.int .i8 m.f) ∧ W.cell? ⟨w.heap.size, 1, none⟩ = some (.int .i8 m.t))) (by kernel_rfl) ?_ (fun hHeld => ?_)
  · exact ⟨y0, y1, y2⟩
  refine wpAnyH_take (i := 0) (oi := { dst := some 56, op := Op.move (Operand.tmp 0), type := 32, pos := "ref.go:72", after := #[], guard := none }) (v := ?_) rfl (by kernel_rfl) (by kernel_rfl) (by kernel_rfl) (fun _ _ _ h => h) (Or.inl ⟨by rfl, ?_⟩) (by assumption) ?_
  rotate_left
  · (intro w hSw; (try dsimp only at hSw); obtain ⟨u1, u2, u3⟩ := hSw; go_simp) <;> with_reducible rfl
  try simp only [Act.put, List.setIfInBounds_toArray, List.set_cons_zero, List.set_cons_succ]
  refine wpAnyH_take (i := 1) (oi := { dst := some 57, op := Op.nilCheck (Operand.tmp 56), type := 0, pos := "ref.go:72", after := #[{ on := 0, ground := Ground.data }], guard := none }) (v := ?_) rfl (by kernel_rfl) (by kernel_rfl) (by kernel_rfl) (fun _ _ _ h => h) (Or.inl ⟨by rfl, ?_⟩) (by assumption) ?_
  rotate_left
  · (intro w hSw; (try dsimp only at hSw); obtain ⟨u1, u2, u3⟩ := hSw; go_simp) <;> with_reducible rfl
  try simp only [Act.put, List.setIfInBounds_toArray, List.set_cons_zero, List.set_cons_succ]
  refine wpAnyH_take (i := 2) (oi := { dst := some 58, op := Op.fieldAddr 80 (Operand.tmp 57) 1, type := 0, pos := "ref.go:72", after := #[{ on := 1, ground := Ground.data }], guard := none }) (v := ?_) rfl (by kernel_rfl) (by kernel_rfl) (by kernel_rfl) (fun _ _ _ h => h) (Or.inl ⟨by rfl, ?_⟩) (by assumption) ?_
  rotate_left
  · (intro w hSw; (try dsimp only at hSw); obtain ⟨u1, u2, u3⟩ := hSw; go_simp) <;> with_reducible rfl
  try simp only [Act.put, List.setIfInBounds_toArray, List.set_cons_zero, List.set_cons_succ]
  refine wpAnyH_take (i := 3) (oi := { dst := some 59, op := Op.load 35 (Operand.tmp 58), type := 35, pos := "ref.go:72", after := #[{ on := 2, ground := Ground.data }], guard := none }) (v := ?_) rfl (by kernel_rfl) (by kernel_rfl) (by kernel_rfl) (fun _ _ _ h => h) (Or.inl ⟨by rfl, ?_⟩) (by assumption) ?_
  rotate_left
  · (intro w hSw; (try dsimp only at hSw); obtain ⟨u1, u2, u3⟩ := hSw; go_simp) <;> with_reducible rfl
  try simp only [Act.put, List.setIfInBounds_toArray, List.set_cons_zero, List.set_cons_succ]
  refine wpAnyH_take (i := 4) (oi := { dst := some 60, op := Op.move (Operand.tmp 1), type := 3, pos := "ref.go:72", after := #[], guard := none }) (v := ?_) rfl (by kernel_rfl) (by kernel_rfl) (by kernel_rfl) (fun _ _ _ h => h) (Or.inl ⟨by rfl, ?_⟩) (by assumption) ?_
  rotate_left
  · (intro w hSw; (try dsimp only at hSw); obtain ⟨u1, u2, u3⟩ := hSw; go_simp) <;> with_reducible rfl
  try simp only [Act.put, List.setIfInBounds_toArray, List.set_cons_zero, List.set_cons_succ]
  refine wpAnyH_take (i := 5) (oi := { dst := some 61, op := Op.fieldAddr 72 (Operand.tmp 9) 0, type := 0, pos := "ref.go:72", after := #[], guard := none }) (v := ?_) rfl (by kernel_rfl) (by kernel_rfl) (by kernel_rfl) (fun _ _ _ h => h) (Or.inl ⟨by rfl, ?_⟩) (by assumption) ?_
  rotate_left
  · (intro w hSw; (try dsimp only at hSw); obtain ⟨u1, u2, u3⟩ := hSw; go_simp) <;> with_reducible rfl
  try simp only [Act.put, List.setIfInBounds_toArray, List.set_cons_zero, List.set_cons_succ]
  refine wpAnyH_take (i := 6) (oi := { dst := some 62, op := Op.load 38 (Operand.tmp 61), type := 38, pos := "ref.go:72", after := #[{ on := 5, ground := Ground.data }], guard := none }) (v := ?_) rfl (by kernel_rfl) (by kernel_rfl) (by kernel_rfl) (fun _ _ _ h => h) (Or.inl ⟨by rfl, ?_⟩) (by assumption) ?_
  rotate_left
  · (intro w hSw; (try dsimp only at hSw); obtain ⟨u1, u2, u3⟩ := hSw; go_simp) <;> with_reducible rfl
  try simp only [Act.put, List.setIfInBounds_toArray, List.set_cons_zero, List.set_cons_succ]
  refine wpAnyH_take (i := 7) (oi := { dst := some 63, op := Op.fieldAddr 72 (Operand.tmp 9) 1, type := 0, pos := "ref.go:72", after := #[], guard := none }) (v := ?_) rfl (by kernel_rfl) (by kernel_rfl) (by kernel_rfl) (fun _ _ _ h => h) (Or.inl ⟨by rfl, ?_⟩) (by assumption) ?_
  rotate_left
  · (intro w hSw; (try dsimp only at hSw); obtain ⟨u1, u2, u3⟩ := hSw; go_simp) <;> with_reducible rfl
  try simp only [Act.put, List.setIfInBounds_toArray, List.set_cons_zero, List.set_cons_succ]
  refine wpAnyH_take (i := 8) (oi := { dst := some 64, op := Op.load 38 (Operand.tmp 63), type := 38, pos := "ref.go:72", after := #[{ on := 7, ground := Ground.data }], guard := none }) (v := ?_) rfl (by kernel_rfl) (by kernel_rfl) (by kernel_rfl) (fun _ _ _ h => h) (Or.inl ⟨by rfl, ?_⟩) (by assumption) ?_
  rotate_left
  · (intro w hSw; (try dsimp only at hSw); obtain ⟨u1, u2, u3⟩ := hSw; go_simp) <;> with_reducible rfl
  try simp only [Act.put, List.setIfInBounds_toArray, List.set_cons_zero, List.set_cons_succ]
  refine wpAnyH_take (i := 9) (oi := { dst := some 65, op := Op.move (Operand.tmp 10), type := 39, pos := "ref.go:72", after := #[], guard := none }) (v := ?_) rfl (by kernel_rfl) (by kernel_rfl) (by kernel_rfl) (fun _ _ _ h => h) (Or.inl ⟨by rfl, ?_⟩) (by assumption) ?_
  rotate_left
  · (intro w hSw; (try dsimp only at hSw); obtain ⟨u1, u2, u3⟩ := hSw; go_simp) <;> with_reducible rfl
  try simp only [Act.put, List.setIfInBounds_toArray, List.set_cons_zero, List.set_cons_succ]
  refine wpAnyH_take (i := 10) (oi := { dst := some 66, op := Op.build 72 #[(0, Operand.tmp 62), (1, Operand.tmp 64), (2, Operand.tmp 65), (3, Operand.const (Value.bool true))], type := 72, pos := "ref.go:72", after := #[{ on := 6, ground := Ground.data }, { on := 8, ground := Ground.data }, { on := 9, ground := Ground.data }], guard := none }) (v := ?_) rfl (by kernel_rfl) (by kernel_rfl) (by kernel_rfl) (fun _ _ _ h => h) (Or.inl ⟨by rfl, ?_⟩) (by assumption) ?_
  rotate_left
  · (intro w hSw; (try dsimp only at hSw); obtain ⟨u1, u2, u3⟩ := hSw; go_simp) <;> with_reducible rfl
  try simp only [Act.put, List.setIfInBounds_toArray, List.set_cons_zero, List.set_cons_succ]
  refine wpAnyH_take (i := 11) (oi := { dst := some 67, op := Op.indexAddr 35 (Operand.tmp 59) (Operand.tmp 60), type := 0, pos := "ref.go:72", after := #[{ on := 3, ground := Ground.data }, { on := 4, ground := Ground.data }, { on := 0, ground := Ground.phase }, { on := 1, ground := Ground.phase }, { on := 2, ground := Ground.phase }, { on := 3, ground := Ground.phase }, { on := 4, ground := Ground.phase }, { on := 5, ground := Ground.phase }, { on := 6, ground := Ground.phase }, { on := 7, ground := Ground.phase }, { on := 8, ground := Ground.phase }, { on := 9, ground := Ground.phase }, { on := 10, ground := Ground.phase }], guard := none }) (v := ?_) rfl (by kernel_rfl) (by kernel_rfl) (by kernel_rfl) (fun _ _ _ h => h) (Or.inl ⟨by rfl, ?_⟩) (by assumption) ?_
  rotate_left
  · (intro w hSw; (try dsimp only at hSw); obtain ⟨u1, u2, u3⟩ := hSw; go_simp) <;> with_reducible rfl
  try simp only [Act.put, List.setIfInBounds_toArray, List.set_cons_zero, List.set_cons_succ]
  refine wpAnyH_ready (rs := [12]) (by kernel_rfl) (by simp) ?_
  refine AllReadyH.cons (o := { dst := none, op := Op.store 72 (Operand.tmp 67) (Operand.tmp 66), type := 0, pos := "ref.go:72", after := #[{ on := 11, ground := Ground.data }, { on := 10, ground := Ground.data }, { on := 0, ground := Ground.phase }, { on := 1, ground := Ground.phase }, { on := 2, ground := Ground.phase }, { on := 3, ground := Ground.phase }, { on := 4, ground := Ground.phase }, { on := 5, ground := Ground.phase }, { on := 6, ground := Ground.phase }, { on := 7, ground := Ground.phase }, { on := 8, ground := Ground.phase }, { on := 9, ground := Ground.phase }, { on := 10, ground := Ground.phase }], guard := none }) rfl (fun K hK => ?_) AllReadyH.nil
  go_simp
  refine hK.out _ _ S12 (fun hHeld => ?_)
  clear hK K
  refine wpAnyH_done (by kernel_rfl) ?_ _
  clear hHeld S12 kk y0 y1 y2 f0 f1 f2 f3 g1 g2 g3 r0 r1 r2 r3
  generalize HWW : ((((w5.setCell ⟨g, p * 4, none⟩ (.int .i8 m.f)).setCell ⟨g, p * 4 + 1, none⟩ (.int .i8 m.t)).setCell ⟨g, p * 4 + 2, none⟩ (.slice (some ⟨g4, 0, none⟩) m.bs.length c4)).setCell ⟨g, p * 4 + 3, none⟩ (.bool true)).drew = W at HE ⊢
  clear HWW
  go_wp2_with fail
  all_goals (go_ret; exact ⟨rfl, HE.out⟩)
end Go.Proofs.YtghngopclhhoeaaDoor
