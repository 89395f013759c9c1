/- LinkArrives' walk. -/
import Derived.Test.YtdhdmfibdgepfaaLkR
import Derived.Test.YtdhdmfibdgepfaaRgI
namespace Go.Proofs.Ytdhdmfibdgepfaa
open Go.RowKit
set_option maxRecDepth 8000
set_option linter.unusedSimpArgs false
set_option linter.unusedVariables false

theorem wpList_appL {P : Program} (w : World) {ops : Array Oper} {rest : List Oper} {o : Oper} {a : Act} {Q : Exit → Act → World → Prop} (hgd : o.guard = none) (s x : Operand) (t : TypeId)
    (ho : o.op = .call { callee := .builtin .append, args := #[s, x], argTypes := #[t, t] }) (v u : Value) (hs : a.eval s = v) (hx : a.eval x = u) {v' : Value} {w' : World}
    (hr : (Builtin.append_ #[t, t] o.type #[v, u]).run P w = .ok v' w') (h : wpList P ops Q rest (a.put o.dst v') w') : wpList P ops Q (o :: rest) a w :=
  wpList_plain hgd fun _ hK => wp_appR s x t ho v u v' w' hs hx hr (hK _ _ h)

/-- A call in a box of its own. -/
abbrev BoxO (w : World) (b : Nat) (o : OpT) : Prop := w.heap[b]? = some (.cells o.cells.toArray 32 (0, 0))
theorem box_neL {w : World} {bx : Nat} {o : OpT} (h : BoxO w bx o) {b : Nat} {n : Int} {v : Value} {ms : List MsD} (g : Nt w b n v ms) : ∀ k, Fn b v ms k → k ≠ bx := fun k hk e => by
  subst e
  rcases hk with rfl | hk | ⟨m, hm, rfl⟩
  · have := g.hb; rw [h] at this; simp at this
  · obtain ⟨cs', e2⟩ := rowTl g.ho hk; rw [h] at e2; simp at e2
  · obtain ⟨cs', e2⟩ := rowTl (g.hm m hm).ow rfl; rw [h] at e2; simp at e2
structure OpC (w : World) (b : Nat) (o : OpT) : Prop where
  c0 : w.cell? ⟨b, 0, none⟩ = some (.int .i64 o.kd)
  c1 : w.cell? ⟨b, 1, none⟩ = some (.int .i64 o.on)
  c2 : w.cell? ⟨b, 2, none⟩ = some (.int .i8 o.f)
  c3 : w.cell? ⟨b, 3, none⟩ = some (.int .i8 o.t)
  c4 : w.cell? ⟨b, 4, none⟩ = some (.slice o.ba o.bs.length o.bc)
  c5 : w.cell? ⟨b, 5, none⟩ = some (.int .i64 o.pl)
  c6 : w.cell? ⟨b, 6, none⟩ = some (.int .i64 o.k)
  c7 : w.cell? ⟨b, 7, none⟩ = some (.int .u8 o.x)
  lt : b < w.heap.size
theorem BoxO.at' {w : World} {b : Nat} {o : OpT} (h : BoxO w b o) : OpC w b o :=
  ⟨by rw [cell_of_row _ _ _ _ _ _ h]; rfl, by rw [cell_of_row _ _ _ _ _ _ h]; rfl, by rw [cell_of_row _ _ _ _ _ _ h]; rfl, by rw [cell_of_row _ _ _ _ _ _ h]; rfl, by rw [cell_of_row _ _ _ _ _ _ h]; rfl, by rw [cell_of_row _ _ _ _ _ _ h]; rfl, by rw [cell_of_row _ _ _ _ _ _ h]; rfl, by rw [cell_of_row _ _ _ _ _ _ h]; rfl, lt_of_block h⟩

/-- What a call of Send, Double, Spoil or Take makes of it. -/
theorem ArI.send {w0 wr w' : World} {b u R : Nat} {n : Int} {sv v v' : Value} {sl : List OpT} {ms : List MsD} {o : OpT} (h : ArI w0 wr b n sv sl sl u) (g : Nt wr b n v ms) (hu : ms.length = u) (hkn : ∀ m ∈ ms, ∃ o ∈ sl, kn m o = true) (hf : ∀ k, Fn b v ms k → w0.heap.size ≤ k) (hg : GoodT w0 o) (g' : Nt w' b n v' (ms ++ [⟨o.f, o.t, o.bs, false, R, 0, o.bs.length⟩])) (hk : Kept wr w' (fun k => k = b ∨ v.ownBlock = some k)) (hn : NewRow wr v v') (hR : wr.heap.size ≤ R) : ArI w0 w' b n sv sl (sl ++ [o]) (u + 1) := by
  refine h.net' g hf g' (hk.mono (fun k _ e => e.elim .inl (fun e => .inr (.inl e)))) (by simp [hu]) ?_ ?_ ?_
  · intro m hm
    rcases List.mem_append.1 hm with hm | hm
    · obtain ⟨o', ho', e⟩ := hkn m hm
      exact ⟨o', List.mem_append_left _ ho', e⟩
    · simp at hm; subst hm; exact ⟨o, by simp, kn_new o R⟩
  · intro k hk
    have hw := h.bel.size
    rcases hk with rfl | hk | ⟨m, hm, rfl⟩
    · exact hf _ (.inl rfl)
    · rcases hn with e | ⟨k', e, h3⟩
      · rw [e] at hk; exact hf _ (.inr (.inl hk))
      · rw [e] at hk; simp at hk; omega
    · rcases List.mem_append.1 hm with hm | hm
      · exact hf _ (.inr (.inr ⟨m, hm, rfl⟩))
      · simp at hm; subst hm; show w0.heap.size ≤ R; omega
  · intro o' ho'
    rcases List.mem_append.1 ho' with ho' | ho'
    · exact h.good o' ho'
    · simp at ho'; subst ho'; exact hg
theorem ArI.double {w0 wr w' : World} {b u R : Nat} {n : Int} {sv v v' : Value} {sl : List OpT} {ms : List MsD} {m : MsD} (h : ArI w0 wr b n sv sl sl u) (g : Nt wr b n v ms) (hu : ms.length = u) (hkn : ∀ m ∈ ms, ∃ o ∈ sl, kn m o = true) (hf : ∀ k, Fn b v ms k → w0.heap.size ≤ k) (hm : m ∈ ms) (g' : Nt w' b n v' (ms ++ [{ m with g := R, off := 0, c := m.bs.length }])) (hk : Kept wr w' (fun k => k = b ∨ v.ownBlock = some k)) (hn : NewRow wr v v') (hR : wr.heap.size ≤ R) : ArI w0 w' b n sv sl sl (u + 1) := by
  refine h.net' g hf g' (hk.mono (fun k _ e => e.elim .inl (fun e => .inr (.inl e)))) (by simp [hu]) ?_ ?_ h.good
  · intro m' hm'
    rcases List.mem_append.1 hm' with hm' | hm'
    · exact hkn m' hm'
    · simp at hm'; subst hm'; exact hkn m hm
  · intro k hk
    have hw := h.bel.size
    rcases hk with rfl | hk | ⟨m', hm', rfl⟩
    · exact hf _ (.inl rfl)
    · rcases hn with e | ⟨k', e, h3⟩
      · rw [e] at hk; exact hf _ (.inr (.inl hk))
      · rw [e] at hk; simp at hk; omega
    · rcases List.mem_append.1 hm' with hm' | hm'
      · exact hf _ (.inr (.inr ⟨m', hm', rfl⟩))
      · simp at hm'; subst hm'; show w0.heap.size ≤ R; omega
theorem ArI.spoil {w0 wr w' : World} {b u p k : Nat} {n x : Int} {sv v : Value} {sl : List OpT} {ms : List MsD} {m : MsD} (h : ArI w0 wr b n sv sl sl u) (g : Nt wr b n v ms) (hu : ms.length = u) (hkn : ∀ m ∈ ms, ∃ o ∈ sl, kn m o = true) (hf : ∀ k, Fn b v ms k → w0.heap.size ≤ k) (hm : ms[p]? = some m) (x0 : 0 ≤ x) (x1 : x ≤ 255) (hE : spE m (k : Nat) x = 0) (g' : Nt w' b n v (ms.set p (spM m k x))) (hk : Kept wr w' (fun q => v.ownBlock = some q ∨ q = m.g)) : ArI w0 w' b n sv sl sl u := by
  have hmem := List.mem_of_getElem? hm
  have hc : k < m.bs.length ∧ x ≠ 0 ∧ m.sp = false := by
    unfold spE at hE
    split at hE
    · simp at hE
    · rename_i hh
      refine ⟨by omega, fun e => hh (.inr (.inr e)), ?_⟩
      cases hs : m.sp with
      | true => rw [hs] at hE; simp at hE
      | false => rfl
  refine h.net' g hf g' (hk.mono (fun q _ e => e.elim (fun e => .inr (.inl e)) (fun e => .inr (.inr ⟨m, hmem, e.symm⟩)))) (by simp [hu]) ?_ ?_ h.good
  · intro m' hm'
    rcases List.mem_or_eq_of_mem_set hm' with hm' | rfl
    · exact hkn m' hm'
    · obtain ⟨o, ho, e⟩ := hkn m hmem
      exact ⟨o, ho, kn_spoil e hc.2.2 k x hc.1 (g.hm m hmem).by' (by omega) x1⟩
  · intro q hq
    rcases hq with rfl | hq | ⟨m', hm', rfl⟩
    · exact hf _ (.inl rfl)
    · exact hf _ (.inr (.inl hq))
    · rcases List.mem_or_eq_of_mem_set hm' with hm' | rfl
      · exact hf _ (.inr (.inr ⟨m', hm', rfl⟩))
      · exact hf _ (.inr (.inr ⟨m, hmem, rfl⟩))
theorem ArI.take {w0 wr w' : World} {b u : Nat} {n : Int} {sv v v' : Value} {sl : List OpT} {A B : List MsD} {x : MsD} (h : ArI w0 wr b n sv sl sl u) (g : Nt wr b n v (A ++ x :: B)) (hu : (A ++ x :: B).length = u) (hkn : ∀ m ∈ A ++ x :: B, ∃ o ∈ sl, kn m o = true) (hf : ∀ k, Fn b v (A ++ x :: B) k → w0.heap.size ≤ k) (g' : Nt w' b n v' (A ++ B)) (hk : Kept wr w' (fun k => k = b ∨ v.ownBlock = some k)) (hv : v'.ownBlock = v.ownBlock) : ArI w0 w' b n sv sl sl (u - 1) := by
  have hsub : ∀ m ∈ A ++ B, m ∈ A ++ x :: B := fun m hm => by
    rcases List.mem_append.1 hm with hm | hm
    · exact List.mem_append_left _ hm
    · exact List.mem_append_right _ (List.mem_cons_of_mem _ hm)
  refine h.net' g hf g' (hk.mono (fun k _ e => e.elim .inl (fun e => .inr (.inl e)))) (by simp at hu ⊢; omega) (fun m hm => hkn m (hsub m hm)) ?_ h.good
  intro k hk
  rcases hk with rfl | hk | ⟨m', hm', rfl⟩
  · exact hf _ (.inl rfl)
  · rw [hv] at hk; exact hf _ (.inr (.inl hk))
  · exact hf _ (.inr (.inr ⟨m', hsub m' hm', rfl⟩))

theorem split_at {α : Type} {l : List α} {p : Nat} (h : p < l.length) : ∃ A x B, l = A ++ x :: B ∧ A.length = p :=
  ⟨l.take p, l[p], l.drop (p + 1), by rw [List.getElem_cons_drop, List.take_append_drop], by rw [List.length_take]; omega⟩

theorem any_takeL {l : List OpT} {m : MsD} {k : Nat} {o : OpT} (h : l[k]? = some o) : (l.take (k + 1)).any (kn m) = ((l.take k).any (kn m) || kn m o) := by
  rw [take_atL h, List.any_append]; simp

end Go.Proofs.Ytdhdmfibdgepfaa
