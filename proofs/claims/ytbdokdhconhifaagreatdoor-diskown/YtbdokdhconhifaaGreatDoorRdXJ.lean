/- An append of bytes, run by itself; the document's disk: Append. -/
import Derived.Test.YtbdokdhconhifaaGreatDoorRdSJ
import Derived.Deep.RegionHeld
import Derived.Test.YtbdokdhconhifaaGreatDoorDkSJ
namespace Go.Proofs.YtbdokdhconhifaaGreatDoor
open Go.RowKit Go.Shelf
set_option maxRecDepth 8000

/-- 'append(s, x...)' of bytes, run: s nil or a row of the call's own; x any bytes that are seen. -/
theorem run_appB {P : Program} (w : World) (t ty : TypeId) (i : TypeInfo) (h1 : P.underlying t = some (.slice 5)) (h2 : P.info? 5 = some i) (h3 : i.zero = some (.int .u8 0)) (h4 : i.size = 1) (h5 : i.bytes = 1)
    (v u : Value) (xs ys : List Int) (hown : Owns w 0 v xs) (hsee : Sees w u ys) (hb : xs.length + ys.length ≤ 140737488355328) :
    ∃ v' w', (Builtin.append_ #[t, t] ty #[v, u]).run P w = .ok v' w' ∧ Owns w' 0 v' (xs ++ ys) ∧ w.grownBy w' v.ownBlock ∧ NewRow w v v' := by
  obtain ⟨ao, cap, rfl, g1, g2, g0, g3⟩ := hsee
  have hlen : xs.length + ys.length = (xs ++ ys).length := by simp
  have h63 : xs.length + ys.length ≤ maxLen := by unfold maxLen; omega
  have hby : (xs.length + ys.length) * 1 ≤ 140737488355328 := by omega
  -- the source's address, or none
  cases ao with
  | none =>
    have hy : ys = [] := by
      have := g0 rfl
      exact List.eq_nil_of_length_eq_zero (by omega)
    subst hy
    have hc := g0 rfl
    subst hc
    refine ⟨v, w, run_append_owned_none w 0 t ty 5 i 1 h1 h2 v xs.length _ hown, by simpa using hown, World.grownBy.refl _ _, .inl rfl⟩
  | some ad =>
    have hnews : ∀ j u, (ys.map (Value.int .u8))[j]? = some u → w.cell? (ad.add j) = some u := by
      rcases g3 with rfl | ⟨b, off, e, g3⟩
      · intro j u hj; simp at hj
      · simp at e; subst e; exact news_at g3
    have hone : ∀ u ∈ ys.map (Value.int .u8), u.oneCell' = true := ints_oneCell .u8 ys
    rcases hown.2 with ⟨rfl, h0⟩ | ⟨g, c, cur, rfl, k1, k2, k3, k4, k5, k6⟩
    · have hx0 : xs = [] := List.eq_nil_of_length_eq_zero h0
      subst hx0
      obtain ⟨v', w', hrun, r1, r2, r3⟩ := run_append_own (P := P) w w.heap.size t ty 5 i (.int .u8 0) 1 1 h1 h2 h3 h4 h5 rfl (by decide) (.slice none 0 0) 0 [] (World.ownsRow_nil w _ _ _) ad ys.length cap _ (by simp) hnews hone (by simpa using h63) (by simpa using hby) (Nat.le_refl _)
      refine ⟨v', w', hrun, ?_, r2, newRow_own r1 (.inl rfl)⟩
      exact owns_cast (base := w.heap.size) (n := 0 + ys.length) (xs := []) (by simp) r1
    · by_cases hfit : xs.length + ys.length ≤ c
      · obtain ⟨w', hrun, r1, r2⟩ := run_append_fits (P := P) w 0 t ty 5 i 1 h1 h2 h4 g xs.length c _ hown ad ys.length cap _ (by simp) hnews hone hfit
        exact ⟨_, w', hrun, owns_cast hlen r1, r2, .inl rfl⟩
      · have holds : ∀ j u, (xs.map (Value.int .u8))[j]? = some u → w.cell? ((⟨g, 0, none⟩ : Addr).add j) = some u :=
          news_at (off := 0) fun i hi => by rw [Nat.zero_add]; exact owns_cell hown i hi
        obtain ⟨v', w', hrun, r1, r2⟩ := run_append_arg_grows (P := P) w t ty 5 i (.int .u8 0) 1 1 h1 h2 h3 h4 h5 rfl (by decide) ⟨g, 0, none⟩ xs.length c _ (by simp) holds ad ys.length cap _ (by simp) hnews (by omega) h63 hby
        exact ⟨v', w', hrun, owns_cast hlen r1, ⟨r2.os, r2.tape, r2.output, r2.size, fun k hk _ => r2.block k hk (by simp)⟩, newRow_own r1 (.inr (by omega))⟩

/-- One byte more for a file of the document's disk. -/
theorem IsRd.appOne {wr : World} {p g n c : Nat} {vs : List Value} {R : RD} (h : IsRd wr p (.slice (some ⟨g, 0, none⟩) n c) vs R) (i : Nat) (hi : i < R.files.length) {x : Option Addr} {L y : Nat} (hv : vs[i]? = some (.slice x L y)) (hsm : R.files[i].bytes.length ≤ 1000000000000) (b : Int) :
    ∃ x' y' w', (Builtin.append_ #[58, 58] 58 #[.slice x L y, .slice (some ⟨wr.heap.size, 0, none⟩) 1 1]).run Tryz.prog (wr.drew.alloc (.cells #[.int .u8 b] 5)) = .ok (.slice x' (L + 1) y') w' ∧ RdTo wr p (.slice (some ⟨g, 0, none⟩) n c) vs (w'.setCell ⟨g, i * 3 + 1, none⟩ (.slice x' (L + 1) y')) { R with files := R.files.set i ⟨R.files[i].name, R.files[i].bytes ++ [b], R.files[i].dur⟩ } (.slice (some ⟨g, 0, none⟩) n c) (vs.set i (.slice x' (L + 1) y')) ∧ Kept wr w' (fun k => (Value.slice x L y).ownBlock = some k) ∧ w'.frozen? ⟨g, i * 3 + 1, none⟩ = false ∧ w'.cell? ⟨g, i * 3 + 1, none⟩ = some (.slice x L y) := by
  obtain ⟨i0, hi0, hz0, hz1, hz2⟩ := info_parts Tryz.infoU8
  have ho := h.img.bys i _ _ hv (List.getElem?_eq_getElem hi)
  have hL : L = R.files[i].bytes.length := by
    obtain ⟨a, c', e, _⟩ := own_shape ho
    exact (Value.slice.inj e).2.1
  have hbd : Below wr.heap.size wr wr.drew := below_drewN (Below.refl _ _) 1
  have hkV : Kept wr (wr.drew.alloc (.cells #[.int .u8 b] 5)) (fun _ => False) := ((Kept.refl wr (fun _ => False)).drewN 1).alloc _
  have hoV := ho.kept hkV (fun _ _ e => e)
  have hsee : Sees (wr.drew.alloc (.cells #[.int .u8 b] 5)) (.slice (some ⟨wr.heap.size, 0, none⟩) 1 1) [b] := by
    refine ⟨_, _, rfl, by simp, by simp [maxLen], (fun e => nomatch e), .inr ⟨wr.heap.size, 0, rfl, fun j hj => ?_⟩⟩
    have : j = 0 := by simpa using hj
    subst this
    exact cell_of_row _ _ 0 _ _ _ (heap_alloc_new wr.drew _)
  obtain ⟨v', w', hrun, ho', hg, hnew⟩ := run_appB (P := Tryz.prog) (wr.drew.alloc (.cells #[.int .u8 b] 5)) 58 58 i0 Tryz.underlying58 hi0 hz0 hz1 hz2 (.slice x L y) (.slice (some ⟨wr.heap.size, 0, none⟩) 1 1) _ [b] hoV hsee (by simp; omega)
  have hk : Kept wr w' (fun k => (Value.slice x L y).ownBlock = some k) := (hkV.mono (fun _ _ e => e.elim)).grown hg (fun k _ e => e)
  obtain ⟨x', y', e', _⟩ := own_shape ho'
  rw [List.length_append, ← hL] at e'
  subst e'
  have hvl : i < vs.length := (List.getElem?_eq_some_iff.1 hv).1
  have hve : vs[i] = .slice x L y := by
    rw [List.getElem?_eq_getElem hvl] at hv
    exact Option.some.inj hv
  have hs := h.setB (w1 := w') i hi hvl (.slice x' (L + [b].length) y') (R.files[i].bytes ++ [b]) (by rw [hve]; exact hk) ho' (fun k e => by
    rw [hve]
    rcases hnew with h1 | ⟨q, h1, h2⟩
    · rw [h1] at e
      exact .inr e
    · rw [e] at h1
      obtain rfl : k = q := Option.some.inj h1
      left
      rw [World.size_alloc] at h2
      have h3 : wr.drew.heap.size = wr.heap.size := rfl
      omega)
  obtain ⟨hgp, hne⟩ := rfoot_ne h.nd
  have hng : ¬ (Value.slice x L y).ownBlock = some g := fun e => (hne vs[i] (List.getElem_mem hvl) g (by rw [hve]; exact e)).1 rfl
  obtain ⟨g', c', u', e0, _, _, hu', _, b1, _, _⟩ := h.file i hi
  simp only [Value.slice.injEq, Option.some.injEq, Addr.mk.injEq] at e0
  obtain ⟨⟨rfl, _⟩, _, rfl⟩ := e0
  rw [hv] at hu'
  have hu2 := Option.some.inj hu'
  rw [← hu2] at b1
  obtain ⟨cur, hg2⟩ : ∃ cur, wr.heap[g]? = some (.cells cur 71 (0, 0)) := by
    obtain ⟨_, ⟨e, _⟩ | ⟨g', cap, cur, e, _, h3, _⟩⟩ := h.img.own
    · cases e
    · simp only [Value.slice.injEq, Option.some.injEq, Addr.mk.injEq] at e
      obtain ⟨⟨rfl, _⟩, _⟩ := e
      exact ⟨cur, h3⟩
  exact ⟨x', y', w', hrun, hs, hk, frozen_of_row w' g _ _ _ (hk.heap hg2 hng), hk.cell b1 hng⟩

def RD.errA (R : RD) (n : ByteArray) (k : Nat) : Int := if R.power then (if isNm n then (if hasF R.files n = false ∧ 64 ≤ R.files.length then 22 else (if (k : Int) ≤ R.room - usedD R.files then 0 else 21)) else 22) else 23
end Go.Proofs.YtbdokdhconhifaaGreatDoor

/- The document's disk: Append. -/
namespace Go.Proofs.YtbdokdhconhifaaGreatDoor
open Go.RowKit Go.Shelf
set_option maxRecDepth 8000

/-- The files, k of the bytes laid behind the file at place P. -/
def appK (fs : List FiD) (P : Nat) (hP : P < fs.length) (ys : List Int) (k : Nat) : List FiD := fs.set P ⟨fs[P].name, fs[P].bytes ++ ys.take k, fs[P].dur⟩

theorem appK_len (fs : List FiD) (P : Nat) (hP : P < fs.length) (ys : List Int) (k : Nat) : (appK fs P hP ys k).length = fs.length := by unfold appK; simp
theorem appK_zero (fs : List FiD) (P : Nat) (hP : P < fs.length) (ys : List Int) : appK fs P hP ys 0 = fs := by
  unfold appK
  rw [List.take_zero, List.append_nil]
  exact List.set_getElem_self hP
theorem appK_at (fs : List FiD) (P : Nat) (hP : P < fs.length) (ys : List Int) (k : Nat) : (appK fs P hP ys k)[P]'(by rw [appK_len]; exact hP) = ⟨fs[P].name, fs[P].bytes ++ ys.take k, fs[P].dur⟩ := by unfold appK; simp
theorem appK_next (fs : List FiD) (P : Nat) (hP : P < fs.length) (ys : List Int) (k : Nat) (hk : k < ys.length) : (appK fs P hP ys k).set P ⟨fs[P].name, (fs[P].bytes ++ ys.take k) ++ [ys.getD k 0], fs[P].dur⟩ = appK fs P hP ys (k + 1) := by
  unfold appK
  rw [List.set_set, List.append_assoc, List.take_succ_eq_append_getElem hk, List.getD_eq_getElem?_getD, List.getElem?_eq_getElem hk]
  rfl

/-- The loop of Append: its state. -/
structure ApK (w : World) (p g c : Nat) (fv0 : Value) (vs : List Value) (R : RD) (P : Nat) (hP : P < R.files.length) (ys : List Int) (k : Nat) (wr : World) : Prop where
  turned : ∃ vs', RdTo w p fv0 vs wr { R with files := appK R.files P hP ys k } (.slice (some ⟨g, 0, none⟩) R.files.length c) vs'

theorem ApK.next {w : World} {p g c : Nat} {fv0 : Value} {vs : List Value} {R : RD} {P : Nat} {hP : P < R.files.length} {ys : List Int} {k : Nat} {wr : World} (h : ApK w p g c fv0 vs R P hP ys k wr) (hk : k < ys.length) (hsm : R.files[P].bytes.length + ys.length ≤ 1000000000000) :
    ∃ x L y x' y' w', wr.cell? ⟨p, 1, none⟩ = some (.slice (some ⟨g, 0, none⟩) R.files.length c) ∧ wr.cell? ⟨g, P * 3 + 1, none⟩ = some (.slice x L y) ∧ (Builtin.append_ #[58, 58] 58 #[.slice x L y, .slice (some ⟨wr.heap.size, 0, none⟩) 1 1]).run Tryz.prog (wr.drew.alloc (.cells #[.int .u8 (ys.getD k 0)] 5)) = .ok (.slice x' (L + 1) y') w' ∧ ApK w p g c fv0 vs R P hP ys (k + 1) (w'.setCell ⟨g, P * 3 + 1, none⟩ (.slice x' (L + 1) y')) ∧ w'.frozen? ⟨g, P * 3 + 1, none⟩ = false ∧ w'.cell? ⟨g, P * 3 + 1, none⟩ = some (.slice x L y) ∧ Kept wr w' (fun k => (Value.slice x L y).ownBlock = some k) ∧ (∀ k, (Value.slice x L y).ownBlock = some k → k ≠ p ∧ k ≠ g ∧ (k ∈ rfoot p fv0 vs ∨ w.heap.size ≤ k)) ∧ g ≠ p := by
  obtain ⟨vs', ht⟩ := h.turned
  have hP2 : P < ({ R with files := appK R.files P hP ys k } : RD).files.length := by show P < (appK R.files P hP ys k).length; rw [appK_len]; exact hP
  obtain ⟨g', c', u, e0, _, _, hu, _, b1, _, ho⟩ := ht.is.file P hP2
  simp only [Value.slice.injEq, Option.some.injEq, Addr.mk.injEq] at e0
  obtain ⟨⟨rfl, _⟩, _, rfl⟩ := e0
  obtain ⟨x, L, y, rfl⟩ : ∃ x L y, u = .slice x L y := by
    obtain ⟨x, y, e, _⟩ := own_shape ho
    exact ⟨x, _, y, e⟩
  have hat : ({ R with files := appK R.files P hP ys k } : RD).files[P] = ⟨R.files[P].name, R.files[P].bytes ++ ys.take k, R.files[P].dur⟩ := appK_at R.files P hP ys k
  have hbl : ({ R with files := appK R.files P hP ys k } : RD).files[P].bytes.length ≤ 1000000000000 := by
    rw [hat, List.length_append, List.length_take]
    omega
  obtain ⟨x', y', w', hrun, hs, hkp, fz, hc⟩ := ht.is.appOne P hP2 hu hbl (ys.getD k 0)
  obtain ⟨hgp, hne⟩ := rfoot_ne ht.is.nd
  have hfin := ht.trans hs
  rw [hat] at hfin
  simp only at hfin
  rw [appK_next R.files P hP ys k hk] at hfin
  exact ⟨x, _, y, x', y', w', ht.is.cells.2.1, b1, hrun, ⟨⟨_, hfin⟩⟩, fz, hc, hkp, fun q e => ⟨(hne _ (List.mem_of_getElem? hu) q e).2, (hne _ (List.mem_of_getElem? hu) q e).1, ht.foot q (mem_rfoot_v (List.mem_of_getElem? hu) e)⟩, hgp⟩

/-- A round of Append's loop: what it needs. -/
theorem ApK.round {w : World} {p g c : Nat} {fv0 : Value} {vs : List Value} {R : RD} {P : Nat} {hP : P < R.files.length} {ys : List Int} {k : Nat} {wr : World} (h : ApK w p g c fv0 vs R P hP ys k wr) (hk : k < ys.length) (hsm : R.files[P].bytes.length + ys.length ≤ 1000000000000) {ub off : Nat} {b : Value} (hc : w.cell? ⟨ub, off, none⟩ = some b) (hub : ub ∉ rfoot p fv0 vs) :
    ∃ x L y x' y' w', wr.cell? ⟨p, 1, none⟩ = some (.slice (some ⟨g, 0, none⟩) R.files.length c) ∧ wr.cell? ⟨ub, off, none⟩ = some b ∧ wr.cell? ⟨g, P * 3 + 1, none⟩ = some (.slice x L y) ∧ (Builtin.append_ #[58, 58] 58 #[.slice x L y, .slice (some ⟨wr.heap.size, 0, none⟩) 1 1]).run Tryz.prog (wr.drew.alloc (.cells #[.int .u8 (ys.getD k 0)] 5)) = .ok (.slice x' (L + 1) y') w' ∧ Hid (ApK w p g c fv0 vs R P hP ys (k + 1) (w'.setCell ⟨g, P * 3 + 1, none⟩ (.slice x' (L + 1) y'))) ∧ w'.frozen? ⟨g, P * 3 + 1, none⟩ = false ∧ w'.cell? ⟨g, P * 3 + 1, none⟩ = some (.slice x L y) ∧ (w'.cell? ⟨p, 1, none⟩ = some (.slice (some ⟨g, 0, none⟩) R.files.length c) ∧ w'.cell? ⟨ub, off, none⟩ = some b) ∧ ((w'.setCell ⟨g, P * 3 + 1, none⟩ (.slice x' (L + 1) y')).cell? ⟨p, 1, none⟩ = some (.slice (some ⟨g, 0, none⟩) R.files.length c) ∧ (w'.setCell ⟨g, P * 3 + 1, none⟩ (.slice x' (L + 1) y')).cell? ⟨ub, off, none⟩ = some b) ∧ p < wr.heap.size ∧ g < wr.heap.size ∧ ub < wr.heap.size := by
  obtain ⟨x, L, y, x', y', w', c1, c2, hrun, hA, fz, hc', hkp, hne, hgp⟩ := h.next hk hsm
  obtain ⟨vs', ht⟩ := h.turned
  have hubl : ub < w.heap.size := World.block_lt_of_cell? w _ hc
  have hcr : wr.cell? ⟨ub, off, none⟩ = some b := ht.kept.cell hc hub
  have hgub : g ≠ ub := fun e => by
    rcases ht.foot g (mem_rfoot_fv rfl) with h1 | h1
    · rw [e] at h1; exact hub h1
    · omega
  have h1 : w'.cell? ⟨p, 1, none⟩ = some (.slice (some ⟨g, 0, none⟩) R.files.length c) := hkp.cell c1 (fun e => (hne p e).1 rfl)
  have h2 : w'.cell? ⟨ub, off, none⟩ = some b := hkp.cell hcr (fun e => by
    rcases (hne ub e).2.2 with h3 | h3
    · exact hub h3
    · omega)
  refine ⟨x, L, y, x', y', w', c1, hcr, c2, hrun, hA, fz, hc', ⟨h1, h2⟩, ⟨?_, ?_⟩, World.block_lt_of_cell? wr _ c1, World.block_lt_of_cell? wr _ c2, World.block_lt_of_cell? wr _ hcr⟩
  · rw [World.cell?_setCell_other (a := ⟨g, P * 3 + 1, none⟩) (b := ⟨p, 1, none⟩) (h := fun e => hgp (congrArg Addr.block e))]
    exact h1
  · rw [World.cell?_setCell_other (a := ⟨g, P * 3 + 1, none⟩) (b := ⟨ub, off, none⟩) (h := fun e => hgub (congrArg Addr.block e))]
    exact h2
end Go.Proofs.YtbdokdhconhifaaGreatDoor

/- The document's disk: Append. -/
namespace Go.Proofs.YtbdokdhconhifaaGreatDoor
open Go.RowKit Go.Shelf
set_option maxRecDepth 8000

theorem wp_appB {P : Program} {o : Oper} {a : Act} {w : World} {K : Act → World → Prop} {Q : Exit → Act → World → Prop} (s x : Operand) (t : TypeId) (hop : o.op = Op.call { callee := Callee.builtin Builtin.append, args := #[s, x], argTypes := #[t, t] }) (v u v' : Value) (w' : World) (hs : a.eval s = v) (hx : a.eval x = u) (hrun : (Builtin.append_ #[t, t] o.type #[v, u]).run P w = .ok v' w') (h : K (a.put o.dst v') w') : Oper.wp P o a w K Q := by
  unfold Oper.wp
  simp [execOp, hop, resolve, invoke, builtin, hs, hx, hrun, Result.andThen]
  exact h

theorem RD.write_room (R : RD) : R.write.2.room = R.room := by
  unfold RD.write
  split
  · split <;> rfl
  · rfl

end Go.Proofs.YtbdokdhconhifaaGreatDoor
/- The document's disk: Start, round by round. -/
namespace Go.Proofs.YtbdokdhconhifaaGreatDoor
open Go.RowKit Go.Shelf
set_option maxRecDepth 8000

/-- A copy of a file's first bytes (the file itself is not too long). -/
theorem IsRd.copy2 {w : World} {p g n c : Nat} {vs : List Value} {R : RD} (h : IsRd w p (.slice (some ⟨g, 0, none⟩) n c) vs R) (i : Nat) (hi : i < R.files.length) (hu : R.files[i].bytes.length ≤ 1000000000) {x : Option Addr} {L y : Nat} (hv : vs[i]? = some (.slice x L y)) (K : Nat) (hK : K ≤ R.files[i].bytes.length) (V : World) (hV : Below w.heap.size w V) :
    Calls Tryz.prog 28 #[.slice x K y] V fun e w' => ∃ x' y', e = .returned (.slice x' K y') ∧ Owns w' 0 (.slice x' K y') (R.files[i].bytes.take K) ∧ (∀ k, (Value.slice x' K y').ownBlock = some k → w.heap.size ≤ k) ∧ Below V.heap.size V w' := by
  have ho := h.img.bys i _ _ hv (List.getElem?_eq_getElem hi)
  have ho2 := own_front ho K hK
  have hlt : ∀ k, (Value.slice x K y).ownBlock = some k → k < w.heap.size := fun k e => rows_ltK ho (k := k) (by cases x <;> exact e)
  have hs : Sees V (.slice x K y) (R.files[i].bytes.take K) := Sees.own (ho2.kept (Below.kept hV) (fun k e e' => by have := hlt k e; omega))
  have hl : (R.files[i].bytes.take K).length = K := by rw [List.length_take]; omega
  refine (copyBytes_any _ _ V hs (by rw [hl]; omega)).mono ?_
  rintro e w' ⟨v', rfl, ho3, hb3⟩
  obtain ⟨x', y', e', _⟩ := own_shape (owns_mono ho3 (Nat.zero_le _))
  rw [hl] at e'
  subst e'
  exact ⟨x', y', rfl, owns_mono ho3 (Nat.zero_le _), fun k e => Nat.le_trans hV.size (ho3.lt k e).1, hb3⟩

/-- The loop of Start: its state. -/
structure StK (w : World) (p : Nat) (fv : Value) (vs : List Value) (R : RD) (ks : List Int) (k : Nat) (wr : World) : Prop where
  turned : ∃ vs', RdTo w p fv vs wr { R with power := true, files := lossK R.files ks k } fv vs'

/-- A round of it: what it needs. -/
theorem StK.round {w : World} {p : Nat} {fv : Value} {vs : List Value} {R : RD} {ks : List Int} {k : Nat} {wr : World} (h : StK w p fv vs R ks k wr) (ok : RdOk R) (hd : ∀ f ∈ R.files, 0 ≤ f.dur ∧ f.dur ≤ f.bytes.length) (hk : k < R.files.length) :
    ∃ g c x y, fv = .slice (some ⟨g, 0, none⟩) R.files.length c ∧ R.files[k].bytes.length ≤ y ∧ y ≤ 9223372036854775807 ∧ p < wr.heap.size ∧ g < wr.heap.size ∧ wr.cell? ⟨p, 1, none⟩ = some (.slice (some ⟨g, 0, none⟩) R.files.length c) ∧ wr.cell? ⟨g, k * 3, none⟩ = some (.string R.files[k].name) ∧ wr.cell? ⟨g, k * 3 + 1, none⟩ = some (.slice x R.files[k].bytes.length y) ∧ wr.cell? ⟨g, k * 3 + 2, none⟩ = some (.int .i64 R.files[k].dur) ∧
      ∀ V : World, Below wr.heap.size wr V → V.heap[wr.heap.size]? = some (.cells #[.string R.files[k].name, .slice x R.files[k].bytes.length y, .int .i64 R.files[k].dur] 71 (0, 0)) →
        Calls Tryz.prog 28 #[.slice x (leftN R.files[k] (ks.getD k 0)) y] V fun e w' => ∃ x' y', e = .returned (.slice x' (leftN R.files[k] (ks.getD k 0)) y') ∧
          (w'.cell? ⟨p, 1, none⟩ = some (.slice (some ⟨g, 0, none⟩) R.files.length c) ∧ w'.cell? ⟨wr.heap.size, 1, none⟩ = some (.slice x R.files[k].bytes.length y) ∧ w'.cell? ⟨wr.heap.size, 2, none⟩ = some (.int .i64 R.files[k].dur)) ∧ w'.frozen? ⟨g, k * 3 + 1, none⟩ = false ∧ w'.cell? ⟨g, k * 3 + 1, none⟩ = some (.slice x R.files[k].bytes.length y) ∧
          ((w'.setCell ⟨g, k * 3 + 1, none⟩ (.slice x' (leftN R.files[k] (ks.getD k 0)) y')).cell? ⟨p, 1, none⟩ = some (.slice (some ⟨g, 0, none⟩) R.files.length c) ∧ (w'.setCell ⟨g, k * 3 + 1, none⟩ (.slice x' (leftN R.files[k] (ks.getD k 0)) y')).cell? ⟨wr.heap.size, 1, none⟩ = some (.slice x R.files[k].bytes.length y) ∧ (w'.setCell ⟨g, k * 3 + 1, none⟩ (.slice x' (leftN R.files[k] (ks.getD k 0)) y')).cell? ⟨wr.heap.size, 2, none⟩ = some (.int .i64 R.files[k].dur)) ∧
          (w'.setCell ⟨g, k * 3 + 1, none⟩ (.slice x' (leftN R.files[k] (ks.getD k 0)) y')).cell? ⟨g, k * 3 + 2, none⟩ = some (.int .i64 R.files[k].dur) ∧ (w'.setCell ⟨g, k * 3 + 1, none⟩ (.slice x' (leftN R.files[k] (ks.getD k 0)) y')).frozen? ⟨g, k * 3 + 2, none⟩ = false ∧
          ((((w'.setCell ⟨g, k * 3 + 1, none⟩ (.slice x' (leftN R.files[k] (ks.getD k 0)) y')).drew).setCell ⟨g, k * 3 + 2, none⟩ (.int .i64 (leftN R.files[k] (ks.getD k 0)))).cell? ⟨p, 1, none⟩ = some (.slice (some ⟨g, 0, none⟩) R.files.length c) ∧ (((w'.setCell ⟨g, k * 3 + 1, none⟩ (.slice x' (leftN R.files[k] (ks.getD k 0)) y')).drew).setCell ⟨g, k * 3 + 2, none⟩ (.int .i64 (leftN R.files[k] (ks.getD k 0)))).cell? ⟨wr.heap.size, 2, none⟩ = some (.int .i64 R.files[k].dur)) ∧
          Hid (StK w p fv vs R ks (k + 1) (((w'.setCell ⟨g, k * 3 + 1, none⟩ (.slice x' (leftN R.files[k] (ks.getD k 0)) y')).drew).setCell ⟨g, k * 3 + 2, none⟩ (.int .i64 (leftN R.files[k] (ks.getD k 0))))) := by
  obtain ⟨vs', ht⟩ := h.turned
  have hk2 : k < ({ R with power := true, files := lossK R.files ks k } : RD).files.length := by show k < (lossK R.files ks k).length; rw [lossK_len]; exact hk
  have hat : ({ R with power := true, files := lossK R.files ks k } : RD).files[k] = R.files[k] := by
    have h1 := lossK_at R.files ks k hk
    rw [List.getElem?_eq_getElem (by rw [lossK_len]; exact hk)] at h1
    exact Option.some.inj h1
  obtain ⟨g, c, u, e0, hc1, hc2, hu, a0, a1, a2, ho⟩ := ht.is.file k hk2
  have hlen : ({ R with power := true, files := lossK R.files ks k } : RD).files.length = R.files.length := lossK_len _ _ _
  rw [hlen] at e0
  subst e0
  obtain ⟨x, y, hu2, hx1, hx2⟩ := own_shape ho
  unfold maxLen at hx2
  rw [hat] at a0 a2 hu2 hx1
  subst hu2
  obtain ⟨f, hf⟩ : ∃ f, f = R.files[k] := ⟨_, rfl⟩
  have hdk := hd _ (List.getElem_mem hk)
  have hbl : R.files[k].bytes.length ≤ 1000000000 := Nat.le_trans (len_used (List.getElem_mem hk)) ok.used
  have hln := leftN_le R.files[k] (ks.getD k 0) hdk.1 hdk.2
  refine ⟨g, c, x, y, rfl, hx1, by omega, lt_of_block ht.is.row, ht.is.lt (mem_rfoot_fv rfl), ht.is.cells.2.1, a0, a1, a2, fun V hV hrow => ?_⟩
  have hcp := ht.is.copy2 k hk2 (by rw [hat]; exact hbl) hu (leftN R.files[k] (ks.getD k 0)) (by rw [hat]; exact hln.1) V hV
  rw [hat] at hcp
  have hloss : (lossK R.files ks k).set k ⟨f.name, f.bytes.take (leftN f (ks.getD k 0)), leftN f (ks.getD k 0)⟩ = lossK R.files ks (k + 1) := by
    rw [← lossK_next R.files ks k hk, hf]
    rfl
  rw [← hf] at hrow hcp hln a0 a1 a2 hat ⊢
  generalize leftN f (ks.getD k 0) = K at *
  refine hcp.mono ?_
  rintro e w3 ⟨x', y', rfl, ho3, hnew, hb3⟩
  have hb13 : Below wr.heap.size wr w3 := hV.trans (hb3.mono hV.size)
  obtain ⟨hgp, hne⟩ := rfoot_ne ht.is.nd
  have hgl : g < wr.heap.size := ht.is.lt (mem_rfoot_fv rfl)
  have hpl := lt_of_block ht.is.row
  have hbl3 : w3.heap[wr.heap.size]? = some (.cells #[.string f.name, .slice x f.bytes.length y, .int .i64 f.dur] 71 (0, 0)) := (Below.kept hb3).heap hrow (fun e => by have := lt_of_block hrow; omega)
  have i3 := ht.is.later hb13
  obtain ⟨cur, hg3⟩ : ∃ cur, w3.heap[g]? = some (.cells cur 71 (0, 0)) := by
    obtain ⟨_, ⟨e, _⟩ | ⟨g', cap, cur, e, _, h3, _⟩⟩ := i3.img.own
    · cases e
    · simp only [Value.slice.injEq, Option.some.injEq, Addr.mk.injEq] at e
      obtain ⟨⟨rfl, _⟩, _⟩ := e
      exact ⟨cur, h3⟩
  have q1 : w3.cell? ⟨wr.heap.size, 1, none⟩ = some (.slice x f.bytes.length y) := cell_of_row w3 _ 1 _ _ _ hbl3
  have q2 : w3.cell? ⟨wr.heap.size, 2, none⟩ = some (.int .i64 f.dur) := cell_of_row w3 _ 2 _ _ _ hbl3
  have oth : ∀ (W : World) (o1 o2 b : Nat) (vv : Value), b ≠ g → (W.setCell ⟨g, o1, none⟩ vv).cell? ⟨b, o2, none⟩ = W.cell? ⟨b, o2, none⟩ := fun W o1 o2 b vv hb => World.cell?_setCell_other W ⟨g, o1, none⟩ ⟨b, o2, none⟩ vv (fun e => hb (congrArg Addr.block e).symm)
  have hbg : wr.heap.size ≠ g := by omega
  have p1 := i3.cells.2.1
  have g2 : w3.cell? ⟨g, k * 3 + 2, none⟩ = some (.int .i64 f.dur) := (Below.kept hb13).cell a2 (fun e => by have : wr.heap.size ≤ g := e; omega)
  have g1 : w3.cell? ⟨g, k * 3 + 1, none⟩ = some (.slice x f.bytes.length y) := (Below.kept hb13).cell a1 (fun e => by have : wr.heap.size ≤ g := e; omega)
  refine ⟨x', y', rfl, ⟨p1, q1, q2⟩, frozen_of_row w3 g _ _ _ hg3, g1, ⟨?_, ?_, ?_⟩, ?_, ?_, ⟨?_, ?_⟩, ?_⟩
  · rw [oth _ _ _ _ _ (fun e => hgp e.symm)]; exact p1
  · rw [oth _ _ _ _ _ hbg]; exact q1
  · rw [oth _ _ _ _ _ hbg]; exact q2
  · rw [World.cell?_setCell_other (a := ⟨g, k * 3 + 1, none⟩) (b := ⟨g, k * 3 + 2, none⟩) (h := fun e => by have := congrArg Addr.off e; simp at this)]
    exact g2
  · exact frozen_of_row _ g _ _ _ (heap_setK _ hg3)
  · rw [oth _ _ _ _ _ (fun e => hgp e.symm)]
    show (w3.setCell _ _).cell? _ = _
    rw [oth _ _ _ _ _ (fun e => hgp e.symm)]
    exact p1
  · rw [oth _ _ _ _ _ hbg]
    show (w3.setCell _ _).cell? _ = _
    rw [oth _ _ _ _ _ hbg]
    exact q2
  · have hvl : k < vs'.length := (List.getElem?_eq_some_iff.1 hu).1
    have s1 := ht.is.setB (w1 := w3) k hk2 hvl (.slice x' K y') (f.bytes.take K) ((Below.kept hb13).mono (fun q hq e => absurd hq (Nat.not_lt.2 e))) ho3 (fun q e => .inl (hnew q e))
    have hb4 : Below (w3.setCell ⟨g, k * 3 + 1, none⟩ (.slice x' K y')).heap.size (w3.setCell ⟨g, k * 3 + 1, none⟩ (.slice x' K y')) (w3.setCell ⟨g, k * 3 + 1, none⟩ (.slice x' K y')).drew := below_drewN (Below.refl _ _) 1
    have s2 := s1.then hb4
    have hl1 : k < ((lossK R.files ks k).set k ⟨({ R with power := true, files := lossK R.files ks k } : RD).files[k].name, f.bytes.take K, ({ R with power := true, files := lossK R.files ks k } : RD).files[k].dur⟩).length := by simpa [lossK_len] using hk
    have s3 := s2.is.setD k hl1 (K : Int)
    have s4 := ht.trans (s2.trans s3)
    have e5 : ((lossK R.files ks k).set k ⟨({ R with power := true, files := lossK R.files ks k } : RD).files[k].name, f.bytes.take K, ({ R with power := true, files := lossK R.files ks k } : RD).files[k].dur⟩).set k ⟨(((lossK R.files ks k).set k ⟨({ R with power := true, files := lossK R.files ks k } : RD).files[k].name, f.bytes.take K, ({ R with power := true, files := lossK R.files ks k } : RD).files[k].dur⟩)[k]'hl1).name, (((lossK R.files ks k).set k ⟨({ R with power := true, files := lossK R.files ks k } : RD).files[k].name, f.bytes.take K, ({ R with power := true, files := lossK R.files ks k } : RD).files[k].dur⟩)[k]'hl1).bytes, (K : Int)⟩ = lossK R.files ks (k + 1) := by
      rw [← hloss]
      simp only [List.set_set, List.getElem_set_self]
      rw [hat]
    show StK _ _ _ _ _ _ _ _
    have e6 : ({ R with power := true, files := lossK R.files ks (k + 1) } : RD) = { R with power := true, files := ((lossK R.files ks k).set k ⟨({ R with power := true, files := lossK R.files ks k } : RD).files[k].name, f.bytes.take K, ({ R with power := true, files := lossK R.files ks k } : RD).files[k].dur⟩).set k ⟨(((lossK R.files ks k).set k ⟨({ R with power := true, files := lossK R.files ks k } : RD).files[k].name, f.bytes.take K, ({ R with power := true, files := lossK R.files ks k } : RD).files[k].dur⟩)[k]'hl1).name, (((lossK R.files ks k).set k ⟨({ R with power := true, files := lossK R.files ks k } : RD).files[k].name, f.bytes.take K, ({ R with power := true, files := lossK R.files ks k } : RD).files[k].dur⟩)[k]'hl1).bytes, (K : Int)⟩ } := by rw [e5]
    exact ⟨⟨vs'.set k (.slice x' K y'), e6 ▸ s4⟩⟩
end Go.Proofs.YtbdokdhconhifaaGreatDoor
