/- An append of bytes, run by itself; the document's disk: Append. -/
import Derived.Test.YtdhnbgeijfgfaaaGreatDoorRdSJ
namespace Go.Proofs.YtdhnbgeijfgfaaaGreatDoor
open Go.RowKit Go.Shelf
set_option maxRecDepth 8000

/-- 'append(s, x...)' of bytes, run: s nil or a row of the call's own; x any bytes that are seen. -/
theorem run_appB {P : Program} (w : World) (t ty : TypeId) (i : TypeInfo) (h1 : P.underlying t = some (.slice 5)) (h2 : P.info? 5 = some i) (h3 : i.zero = some (.int .u8 0)) (h4 : i.size = 1) (h5 : i.bytes = 1)
    (v u : Value) (xs ys : List Int) (hown : Owns w 0 v xs) (hsee : Sees w u ys) (hb : xs.length + ys.length ≤ 140737488355328) :
    ∃ v' w', (Builtin.append_ #[t, t] ty #[v, u]).run P w = .ok v' w' ∧ Owns w' 0 v' (xs ++ ys) ∧ w.grownBy w' v.ownBlock ∧ NewRow w v v' := by
  obtain ⟨ao, cap, rfl, g1, g2, g0, g3⟩ := hsee
  have hlen : xs.length + ys.length = (xs ++ ys).length := by simp
  have h63 : xs.length + ys.length ≤ maxLen := by unfold maxLen; omega
  have hby : (xs.length + ys.length) * 1 ≤ 140737488355328 := by omega
  -- the source's address, or none
  cases ao with
  | none =>
    have hy : ys = [] := by
      have := g0 rfl
      exact List.eq_nil_of_length_eq_zero (by omega)
    subst hy
    have hc := g0 rfl
    subst hc
    refine ⟨v, w, run_append_owned_none w 0 t ty 5 i 1 h1 h2 v xs.length _ hown, by simpa using hown, World.grownBy.refl _ _, .inl rfl⟩
  | some ad =>
    have hnews : ∀ j u, (ys.map (Value.int .u8))[j]? = some u → w.cell? (ad.add j) = some u := by
      rcases g3 with rfl | ⟨b, off, e, g3⟩
      · intro j u hj; simp at hj
      · simp at e; subst e; exact news_at g3
    have hone : ∀ u ∈ ys.map (Value.int .u8), u.oneCell' = true := ints_oneCell .u8 ys
    rcases hown.2 with ⟨rfl, h0⟩ | ⟨g, c, cur, rfl, k1, k2, k3, k4, k5, k6⟩
    · have hx0 : xs = [] := List.eq_nil_of_length_eq_zero h0
      subst hx0
      obtain ⟨v', w', hrun, r1, r2, r3⟩ := run_append_own (P := P) w w.heap.size t ty 5 i (.int .u8 0) 1 1 h1 h2 h3 h4 h5 rfl (by decide) (.slice none 0 0) 0 [] (World.ownsRow_nil w _ _ _) ad ys.length cap _ (by simp) hnews hone (by simpa using h63) (by simpa using hby) (Nat.le_refl _)
      refine ⟨v', w', hrun, ?_, r2, newRow_own r1 (.inl rfl)⟩
      exact owns_cast (base := w.heap.size) (n := 0 + ys.length) (xs := []) (by simp) r1
    · by_cases hfit : xs.length + ys.length ≤ c
      · obtain ⟨w', hrun, r1, r2⟩ := run_append_fits (P := P) w 0 t ty 5 i 1 h1 h2 h4 g xs.length c _ hown ad ys.length cap _ (by simp) hnews hone hfit
        exact ⟨_, w', hrun, owns_cast hlen r1, r2, .inl rfl⟩
      · have holds : ∀ j u, (xs.map (Value.int .u8))[j]? = some u → w.cell? ((⟨g, 0, none⟩ : Addr).add j) = some u :=
          news_at (off := 0) fun i hi => by rw [Nat.zero_add]; exact owns_cell hown i hi
        obtain ⟨v', w', hrun, r1, r2⟩ := run_append_arg_grows (P := P) w t ty 5 i (.int .u8 0) 1 1 h1 h2 h3 h4 h5 rfl (by decide) ⟨g, 0, none⟩ xs.length c _ (by simp) holds ad ys.length cap _ (by simp) hnews (by omega) h63 hby
        exact ⟨v', w', hrun, owns_cast hlen r1, ⟨r2.os, r2.tape, r2.output, r2.size, fun k hk _ => r2.block k hk (by simp)⟩, newRow_own r1 (.inr (by omega))⟩

/-- One byte more for a file of the document's disk. -/
theorem IsRd.appOne {wr : World} {p g n c : Nat} {vs : List Value} {R : RD} (h : IsRd wr p (.slice (some ⟨g, 0, none⟩) n c) vs R) (i : Nat) (hi : i < R.files.length) {x : Option Addr} {L y : Nat} (hv : vs[i]? = some (.slice x L y)) (hsm : R.files[i].bytes.length ≤ 1000000000000) (b : Int) :
    ∃ x' y' w', (Builtin.append_ #[36, 36] 36 #[.slice x L y, .slice (some ⟨wr.heap.size, 0, none⟩) 1 1]).run Tryz.prog (wr.drew.alloc (.cells #[.int .u8 b] 5)) = .ok (.slice x' (L + 1) y') w' ∧ RdTo wr p (.slice (some ⟨g, 0, none⟩) n c) vs (w'.setCell ⟨g, i * 3 + 1, none⟩ (.slice x' (L + 1) y')) { R with files := R.files.set i ⟨R.files[i].name, R.files[i].bytes ++ [b], R.files[i].dur⟩ } (.slice (some ⟨g, 0, none⟩) n c) (vs.set i (.slice x' (L + 1) y')) ∧ Kept wr w' (fun k => (Value.slice x L y).ownBlock = some k) ∧ w'.frozen? ⟨g, i * 3 + 1, none⟩ = false ∧ w'.cell? ⟨g, i * 3 + 1, none⟩ = some (.slice x L y) := by
  obtain ⟨i0, hi0, hz0, hz1, hz2⟩ := info_parts Tryz.infoU8
  have ho := h.img.bys i _ _ hv (List.getElem?_eq_getElem hi)
  have hL : L = R.files[i].bytes.length := by
    obtain ⟨a, c', e, _⟩ := own_shape ho
    exact (Value.slice.inj e).2.1
  have hbd : Below wr.heap.size wr wr.drew := below_drewN (Below.refl _ _) 1
  have hkV : Kept wr (wr.drew.alloc (.cells #[.int .u8 b] 5)) (fun _ => False) := ((Kept.refl wr (fun _ => False)).drewN 1).alloc _
  have hoV := ho.kept hkV (fun _ _ e => e)
  have hsee : Sees (wr.drew.alloc (.cells #[.int .u8 b] 5)) (.slice (some ⟨wr.heap.size, 0, none⟩) 1 1) [b] := by
    refine ⟨_, _, rfl, by simp, by simp [maxLen], (fun e => nomatch e), .inr ⟨wr.heap.size, 0, rfl, fun j hj => ?_⟩⟩
    have : j = 0 := by simpa using hj
    subst this
    exact cell_of_row _ _ 0 _ _ _ (heap_alloc_new wr.drew _)
  obtain ⟨v', w', hrun, ho', hg, hnew⟩ := run_appB (P := Tryz.prog) (wr.drew.alloc (.cells #[.int .u8 b] 5)) 36 36 i0 Tryz.underlying36 hi0 hz0 hz1 hz2 (.slice x L y) (.slice (some ⟨wr.heap.size, 0, none⟩) 1 1) _ [b] hoV hsee (by simp; omega)
  have hk : Kept wr w' (fun k => (Value.slice x L y).ownBlock = some k) := (hkV.mono (fun _ _ e => e.elim)).grown hg (fun k _ e => e)
  obtain ⟨x', y', e', _⟩ := own_shape ho'
  rw [List.length_append, ← hL] at e'
  subst e'
  have hvl : i < vs.length := (List.getElem?_eq_some_iff.1 hv).1
  have hve : vs[i] = .slice x L y := by
    rw [List.getElem?_eq_getElem hvl] at hv
    exact Option.some.inj hv
  have hs := h.setB (w1 := w') i hi hvl (.slice x' (L + [b].length) y') (R.files[i].bytes ++ [b]) (by rw [hve]; exact hk) ho' (fun k e => by
    rw [hve]
    rcases hnew with h1 | ⟨q, h1, h2⟩
    · rw [h1] at e
      exact .inr e
    · rw [e] at h1
      obtain rfl : k = q := Option.some.inj h1
      left
      rw [World.size_alloc] at h2
      have h3 : wr.drew.heap.size = wr.heap.size := rfl
      omega)
  obtain ⟨hgp, hne⟩ := rfoot_ne h.nd
  have hng : ¬ (Value.slice x L y).ownBlock = some g := fun e => (hne vs[i] (List.getElem_mem hvl) g (by rw [hve]; exact e)).1 rfl
  obtain ⟨g', c', u', e0, _, _, hu', _, b1, _, _⟩ := h.file i hi
  simp only [Value.slice.injEq, Option.some.injEq, Addr.mk.injEq] at e0
  obtain ⟨⟨rfl, _⟩, _, rfl⟩ := e0
  rw [hv] at hu'
  have hu2 := Option.some.inj hu'
  rw [← hu2] at b1
  obtain ⟨cur, hg2⟩ : ∃ cur, wr.heap[g]? = some (.cells cur 38 (0, 0)) := by
    obtain ⟨_, ⟨e, _⟩ | ⟨g', cap, cur, e, _, h3, _⟩⟩ := h.img.own
    · cases e
    · simp only [Value.slice.injEq, Option.some.injEq, Addr.mk.injEq] at e
      obtain ⟨⟨rfl, _⟩, _⟩ := e
      exact ⟨cur, h3⟩
  exact ⟨x', y', w', hrun, hs, hk, frozen_of_row w' g _ _ _ (hk.heap hg2 hng), hk.cell b1 hng⟩

def RD.errA (R : RD) (n : ByteArray) (k : Nat) : Int := if R.power then (if isNm n then (if hasF R.files n = false ∧ 64 ≤ R.files.length then 22 else (if (k : Int) ≤ R.room - usedD R.files then 0 else 21)) else 22) else 23
end Go.Proofs.YtdhnbgeijfgfaaaGreatDoor

/- The document's disk: Append. -/
namespace Go.Proofs.YtdhnbgeijfgfaaaGreatDoor
open Go.RowKit Go.Shelf
set_option maxRecDepth 8000

/-- The files, k of the bytes laid behind the file at place P. -/
def appK (fs : List FiD) (P : Nat) (hP : P < fs.length) (ys : List Int) (k : Nat) : List FiD := fs.set P ⟨fs[P].name, fs[P].bytes ++ ys.take k, fs[P].dur⟩

theorem appK_len (fs : List FiD) (P : Nat) (hP : P < fs.length) (ys : List Int) (k : Nat) : (appK fs P hP ys k).length = fs.length := by unfold appK; simp
theorem appK_zero (fs : List FiD) (P : Nat) (hP : P < fs.length) (ys : List Int) : appK fs P hP ys 0 = fs := by
  unfold appK
  rw [List.take_zero, List.append_nil]
  exact List.set_getElem_self hP
theorem appK_at (fs : List FiD) (P : Nat) (hP : P < fs.length) (ys : List Int) (k : Nat) : (appK fs P hP ys k)[P]'(by rw [appK_len]; exact hP) = ⟨fs[P].name, fs[P].bytes ++ ys.take k, fs[P].dur⟩ := by unfold appK; simp
theorem appK_next (fs : List FiD) (P : Nat) (hP : P < fs.length) (ys : List Int) (k : Nat) (hk : k < ys.length) : (appK fs P hP ys k).set P ⟨fs[P].name, (fs[P].bytes ++ ys.take k) ++ [ys.getD k 0], fs[P].dur⟩ = appK fs P hP ys (k + 1) := by
  unfold appK
  rw [List.set_set, List.append_assoc, List.take_succ_eq_append_getElem hk, List.getD_eq_getElem?_getD, List.getElem?_eq_getElem hk]
  rfl

/-- The loop of Append: its state. -/
structure ApK (w : World) (p g c : Nat) (fv0 : Value) (vs : List Value) (R : RD) (P : Nat) (hP : P < R.files.length) (ys : List Int) (k : Nat) (wr : World) : Prop where
  turned : ∃ vs', RdTo w p fv0 vs wr { R with files := appK R.files P hP ys k } (.slice (some ⟨g, 0, none⟩) R.files.length c) vs'

theorem ApK.next {w : World} {p g c : Nat} {fv0 : Value} {vs : List Value} {R : RD} {P : Nat} {hP : P < R.files.length} {ys : List Int} {k : Nat} {wr : World} (h : ApK w p g c fv0 vs R P hP ys k wr) (hk : k < ys.length) (hsm : R.files[P].bytes.length + ys.length ≤ 1000000000000) :
    ∃ x L y x' y' w', wr.cell? ⟨p, 1, none⟩ = some (.slice (some ⟨g, 0, none⟩) R.files.length c) ∧ wr.cell? ⟨g, P * 3 + 1, none⟩ = some (.slice x L y) ∧ (Builtin.append_ #[36, 36] 36 #[.slice x L y, .slice (some ⟨wr.heap.size, 0, none⟩) 1 1]).run Tryz.prog (wr.drew.alloc (.cells #[.int .u8 (ys.getD k 0)] 5)) = .ok (.slice x' (L + 1) y') w' ∧ ApK w p g c fv0 vs R P hP ys (k + 1) (w'.setCell ⟨g, P * 3 + 1, none⟩ (.slice x' (L + 1) y')) ∧ w'.frozen? ⟨g, P * 3 + 1, none⟩ = false ∧ w'.cell? ⟨g, P * 3 + 1, none⟩ = some (.slice x L y) ∧ Kept wr w' (fun k => (Value.slice x L y).ownBlock = some k) ∧ (∀ k, (Value.slice x L y).ownBlock = some k → k ≠ p ∧ k ≠ g ∧ (k ∈ rfoot p fv0 vs ∨ w.heap.size ≤ k)) ∧ g ≠ p := by
  obtain ⟨vs', ht⟩ := h.turned
  have hP2 : P < ({ R with files := appK R.files P hP ys k } : RD).files.length := by show P < (appK R.files P hP ys k).length; rw [appK_len]; exact hP
  obtain ⟨g', c', u, e0, _, _, hu, _, b1, _, ho⟩ := ht.is.file P hP2
  simp only [Value.slice.injEq, Option.some.injEq, Addr.mk.injEq] at e0
  obtain ⟨⟨rfl, _⟩, _, rfl⟩ := e0
  obtain ⟨x, L, y, rfl⟩ : ∃ x L y, u = .slice x L y := by
    obtain ⟨x, y, e, _⟩ := own_shape ho
    exact ⟨x, _, y, e⟩
  have hat : ({ R with files := appK R.files P hP ys k } : RD).files[P] = ⟨R.files[P].name, R.files[P].bytes ++ ys.take k, R.files[P].dur⟩ := appK_at R.files P hP ys k
  have hbl : ({ R with files := appK R.files P hP ys k } : RD).files[P].bytes.length ≤ 1000000000000 := by
    rw [hat, List.length_append, List.length_take]
    omega
  obtain ⟨x', y', w', hrun, hs, hkp, fz, hc⟩ := ht.is.appOne P hP2 hu hbl (ys.getD k 0)
  obtain ⟨hgp, hne⟩ := rfoot_ne ht.is.nd
  have hfin := ht.trans hs
  rw [hat] at hfin
  simp only at hfin
  rw [appK_next R.files P hP ys k hk] at hfin
  exact ⟨x, _, y, x', y', w', ht.is.cells.2.1, b1, hrun, ⟨⟨_, hfin⟩⟩, fz, hc, hkp, fun q e => ⟨(hne _ (List.mem_of_getElem? hu) q e).2, (hne _ (List.mem_of_getElem? hu) q e).1, ht.foot q (mem_rfoot_v (List.mem_of_getElem? hu) e)⟩, hgp⟩

/-- A round of Append's loop: what it needs. -/
theorem ApK.round {w : World} {p g c : Nat} {fv0 : Value} {vs : List Value} {R : RD} {P : Nat} {hP : P < R.files.length} {ys : List Int} {k : Nat} {wr : World} (h : ApK w p g c fv0 vs R P hP ys k wr) (hk : k < ys.length) (hsm : R.files[P].bytes.length + ys.length ≤ 1000000000000) {ub off : Nat} {b : Value} (hc : w.cell? ⟨ub, off, none⟩ = some b) (hub : ub ∉ rfoot p fv0 vs) :
    ∃ x L y x' y' w', wr.cell? ⟨p, 1, none⟩ = some (.slice (some ⟨g, 0, none⟩) R.files.length c) ∧ wr.cell? ⟨ub, off, none⟩ = some b ∧ wr.cell? ⟨g, P * 3 + 1, none⟩ = some (.slice x L y) ∧ (Builtin.append_ #[36, 36] 36 #[.slice x L y, .slice (some ⟨wr.heap.size, 0, none⟩) 1 1]).run Tryz.prog (wr.drew.alloc (.cells #[.int .u8 (ys.getD k 0)] 5)) = .ok (.slice x' (L + 1) y') w' ∧ Hid (ApK w p g c fv0 vs R P hP ys (k + 1) (w'.setCell ⟨g, P * 3 + 1, none⟩ (.slice x' (L + 1) y'))) ∧ w'.frozen? ⟨g, P * 3 + 1, none⟩ = false ∧ w'.cell? ⟨g, P * 3 + 1, none⟩ = some (.slice x L y) ∧ (w'.cell? ⟨p, 1, none⟩ = some (.slice (some ⟨g, 0, none⟩) R.files.length c) ∧ w'.cell? ⟨ub, off, none⟩ = some b) ∧ ((w'.setCell ⟨g, P * 3 + 1, none⟩ (.slice x' (L + 1) y')).cell? ⟨p, 1, none⟩ = some (.slice (some ⟨g, 0, none⟩) R.files.length c) ∧ (w'.setCell ⟨g, P * 3 + 1, none⟩ (.slice x' (L + 1) y')).cell? ⟨ub, off, none⟩ = some b) ∧ p < wr.heap.size ∧ g < wr.heap.size ∧ ub < wr.heap.size := by
  obtain ⟨x, L, y, x', y', w', c1, c2, hrun, hA, fz, hc', hkp, hne, hgp⟩ := h.next hk hsm
  obtain ⟨vs', ht⟩ := h.turned
  have hubl : ub < w.heap.size := World.block_lt_of_cell? w _ hc
  have hcr : wr.cell? ⟨ub, off, none⟩ = some b := ht.kept.cell hc hub
  have hgub : g ≠ ub := fun e => by
    rcases ht.foot g (mem_rfoot_fv rfl) with h1 | h1
    · rw [e] at h1; exact hub h1
    · omega
  have h1 : w'.cell? ⟨p, 1, none⟩ = some (.slice (some ⟨g, 0, none⟩) R.files.length c) := hkp.cell c1 (fun e => (hne p e).1 rfl)
  have h2 : w'.cell? ⟨ub, off, none⟩ = some b := hkp.cell hcr (fun e => by
    rcases (hne ub e).2.2 with h3 | h3
    · exact hub h3
    · omega)
  refine ⟨x, L, y, x', y', w', c1, hcr, c2, hrun, hA, fz, hc', ⟨h1, h2⟩, ⟨?_, ?_⟩, World.block_lt_of_cell? wr _ c1, World.block_lt_of_cell? wr _ c2, World.block_lt_of_cell? wr _ hcr⟩
  · rw [World.cell?_setCell_other (a := ⟨g, P * 3 + 1, none⟩) (b := ⟨p, 1, none⟩) (h := fun e => hgp (congrArg Addr.block e))]
    exact h1
  · rw [World.cell?_setCell_other (a := ⟨g, P * 3 + 1, none⟩) (b := ⟨ub, off, none⟩) (h := fun e => hgub (congrArg Addr.block e))]
    exact h2
end Go.Proofs.YtdhnbgeijfgfaaaGreatDoor
