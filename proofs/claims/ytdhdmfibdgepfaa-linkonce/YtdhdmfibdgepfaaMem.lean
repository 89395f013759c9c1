/- What stays when a call changes some blocks of memory, an append of bytes onto a row that the call owns, and what a Writer and a Reader of package pack are in memory; no Go function is walked here. -/
import Derived.Test.YtdhdmfibdgepfaaBase
import Derived.ArgAppend
import Derived.OneCell
namespace Go.Proofs.Ytdhdmfibdgepfaa
open Go.RowKit
set_option maxRecDepth 8000

/-- All blocks of w but those of S are in w' as they were. -/
structure Kept (w w' : World) (S : Nat → Prop) : Prop where
  os : w'.os = w.os
  tape : w'.tape = w.tape
  output : w'.output = w.output
  size : w.heap.size ≤ w'.heap.size
  block : ∀ k, k < w.heap.size → ¬ S k → w'.heap[k]? = w.heap[k]?

theorem Kept.refl (w : World) (S : Nat → Prop) : Kept w w S := ⟨rfl, rfl, rfl, Nat.le_refl _, fun _ _ _ => rfl⟩
theorem Kept.mono {w w' : World} {S S' : Nat → Prop} (h : Kept w w' S) (hS : ∀ k, k < w.heap.size → S k → S' k) : Kept w w' S' :=
  ⟨h.os, h.tape, h.output, h.size, fun k hk hn => h.block k hk fun hs => hn (hS k hk hs)⟩
theorem Kept.trans {a b c : World} {S S' : Nat → Prop} (h : Kept a b S) (g : Kept b c S') (hS : ∀ k, k < a.heap.size → S' k → S k) : Kept a c S :=
  ⟨g.os.trans h.os, g.tape.trans h.tape, g.output.trans h.output, Nat.le_trans h.size g.size, fun k hk hn =>
    (g.block k (Nat.lt_of_lt_of_le hk h.size) fun hs => hn (hS k hk hs)).trans (h.block k hk hn)⟩
theorem Kept.alloc {a w : World} {S : Nat → Prop} (h : Kept a w S) (o : Obj) : Kept a (w.alloc o) S :=
  h.trans (S' := fun _ => False) ⟨rfl, rfl, rfl, by simp, fun k hk _ => Below.heap_alloc _ _ _ hk⟩ (fun _ _ h => h.elim)
theorem Kept.drewN {a w : World} {S : Nat → Prop} (h : Kept a w S) (n : Nat) : Kept a (w.drewN n) S := ⟨h.os, h.tape, h.output, h.size, h.block⟩
theorem Kept.grown {a w w' : World} {S : Nat → Prop} {row : Option Nat} (h : Kept a w S) (g : w.grownBy w' row) (hS : ∀ k, k < a.heap.size → row = some k → S k) : Kept a w' S :=
  h.trans (S' := fun k => row = some k) ⟨g.os, g.tape, g.output, g.size, fun k hk hn => g.block k hk fun e => hn e.symm⟩ hS
theorem Kept.setCell {a w : World} {S : Nat → Prop} (h : Kept a w S) (p : Addr) (u : Value) (hS : p.block < a.heap.size → S p.block) : Kept a (w.setCell p u) S :=
  h.trans (S' := fun k => k = p.block) ⟨rfl, rfl, rfl, by simp [World.setCell], fun k _ hn => Below.heap_setCell _ _ _ _ hn⟩ (fun k hk e => by subst e; exact hS hk)
theorem Kept.below {w w' : World} {S : Nat → Prop} {B : Nat} (h : Kept w w' S) (hB : B ≤ w.heap.size) (hS : ∀ k, S k → B ≤ k) : Below B w w' :=
  ⟨h.os, h.tape, h.output, h.size, fun k hk => h.block k (by omega) fun hs => by have := hS k hs; omega⟩
theorem Below.kept {w w' : World} {B : Nat} (h : Below B w w') : Kept w w' (fun k => B ≤ k) := ⟨h.os, h.tape, h.output, h.size, fun k _ hn => h.block k (by omega)⟩
theorem Kept.cell {w w' : World} {S : Nat → Prop} (h : Kept w w' S) {p : Addr} {u : Value} (hc : w.cell? p = some u) (hn : ¬ S p.block) : w'.cell? p = some u :=
  (World.cell?_of_block (h.block p.block (World.block_lt_of_cell? w p hc) hn)).trans hc
theorem Kept.heap {w w' : World} {S : Nat → Prop} (h : Kept w w' S) {k : Nat} {o : Obj} (hc : w.heap[k]? = some o) (hn : ¬ S k) : w'.heap[k]? = some o :=
  (h.block k (lt_of_block hc) hn).trans hc

/-- The block in which a slice value lies, if it has any element. -/
def rowOf (v : Value) : Option Nat := v.ownBlock

theorem Sees.kept {w w' : World} {S : Nat → Prop} {v : Value} {xs : List Int} (h : Sees w v xs) (hk : Kept w w' S) (hn : ∀ k, v.ownBlock = some k → ¬ S k) : Sees w' v xs := by
  obtain ⟨ao, cap, rfl, h1, h2, h0, h3⟩ := h
  refine ⟨ao, cap, rfl, h1, h2, h0, ?_⟩
  rcases h3 with h3 | ⟨b, off, rfl, h3⟩
  · exact .inl h3
  · exact .inr ⟨b, off, rfl, fun i hi => hk.cell (h3 i hi) (hn b rfl)⟩

/-- The block of a slice that has something in it. -/
def liveB : Value → Option Nat
  | .slice _ 0 _ => none
  | v => v.ownBlock
theorem live_own {v : Value} {k : Nat} (h : liveB v = some k) : v.ownBlock = some k := by
  unfold liveB at h
  split at h
  · cases h
  · exact h
theorem live_at {b off n cap : Nat} (h : n ≠ 0) : liveB (.slice (some ⟨b, off, none⟩) n cap) = some b := by
  cases n with
  | zero => exact absurd rfl h
  | succ n => rfl
theorem Sees.keptL {w w' : World} {S : Nat → Prop} {v : Value} {xs : List Int} (h : Sees w v xs) (hk : Kept w w' S) (hn : ∀ k, liveB v = some k → ¬ S k) : Sees w' v xs := by
  obtain ⟨ao, cap, rfl, h1, h2, h0, h3⟩ := h
  refine ⟨ao, cap, rfl, h1, h2, h0, ?_⟩
  rcases h3 with h3 | ⟨b, off, rfl, h3⟩
  · exact .inl h3
  · cases xs with
    | nil => exact .inl rfl
    | cons x xs => exact .inr ⟨b, off, rfl, fun i hi => hk.cell (h3 i hi) (hn b rfl)⟩

theorem Owns.kept {w w' : World} {S : Nat → Prop} {base : Nat} {v : Value} {xs : List Int} (h : Owns w base v xs) (hk : Kept w w' S) (hn : ∀ k, v.ownBlock = some k → ¬ S k) : Owns w' base v xs := by
  refine ⟨h.1, ?_⟩
  rcases h.2 with h | ⟨g, cap, cur, rfl, h1, h2, h3⟩
  · exact .inl h
  · exact .inr ⟨g, cap, cur, rfl, h1, hk.heap h2 (hn g rfl), h3⟩

/-- The row of v' is that of v, or a new one. -/
def NewRow (w : World) (v v' : Value) : Prop := v'.ownBlock = v.ownBlock ∨ ∃ k, v'.ownBlock = some k ∧ w.heap.size ≤ k

theorem news_at {w : World} {b off : Nat} {ys : List Int} (h : ∀ i, i < ys.length → w.cell? ⟨b, off + i, none⟩ = some (.int .u8 (ys.getD i 0))) :
    ∀ j u, (ys.map (Value.int .u8))[j]? = some u → w.cell? ((⟨b, off, none⟩ : Addr).add j) = some u := by
  intro j u hj
  rw [List.getElem?_map] at hj
  by_cases hl : j < ys.length
  · rw [List.getElem?_eq_getElem hl] at hj
    have := h j hl
    rw [List.getD_eq_getElem?_getD, List.getElem?_eq_getElem hl] at this
    simp at hj this
    subst hj
    by_cases h0 : j = 0
    · subst h0; simpa [Addr.add] using this
    · simpa [Addr.add, h0] using this
  · rw [List.getElem?_eq_none (by omega)] at hj; simp at hj

theorem newRow_own {w w' : World} {v v' : Value} {n : Nat} {xs : List Value} (h : w'.ownsRow w.heap.size 5 1 v' n xs) (hv : v.ownBlock = none ∨ 0 < n) : NewRow w v v' := by
  rcases h.2 with ⟨rfl, h0⟩ | ⟨g, cap, cur, rfl, h1, _⟩
  · rcases hv with hv | hv
    · exact .inl (by rw [hv]; rfl)
    · omega
  · exact .inr ⟨g, rfl, h1⟩

theorem owns_cast {w : World} {base : Nat} {v : Value} {n : Nat} {xs ys : List Int} (hn : n = (xs ++ ys).length) (h : w.ownsRow base 5 1 v n (xs.map (Value.int .u8) ++ ys.map (Value.int .u8))) : Owns w 0 v (xs ++ ys) := by
  refine ⟨by simp, ?_⟩
  have h2 := h.2
  subst hn
  rw [← List.map_append] at h2
  rcases h2 with h2 | ⟨g, cap, cur, e, h1, h2⟩
  · exact .inl h2
  · exact .inr ⟨g, cap, cur, e, Nat.zero_le _, h2⟩

/-- 'append(s, x...)' of bytes: s nil or a row of the call's own; x any bytes that are seen. -/
theorem wpList_app {P : Program} (w : World) {ops : Array Oper} {rest : List Oper} {o : Oper} {a : Act} {Q : Exit → Act → World → Prop}
    (hg : o.guard = none) (s x : Operand) (t : TypeId) (hop : o.op = Op.call { callee := Callee.builtin Builtin.append, args := #[s, x], argTypes := #[t, t] })
    (i : TypeInfo) (h1 : P.underlying t = some (.slice 5)) (h2 : P.info? 5 = some i) (h3 : i.zero = some (.int .u8 0)) (h4 : i.size = 1) (h5 : i.bytes = 1)
    (v u : Value) (xs ys : List Int) (hs : a.eval s = v) (hx : a.eval x = u) (hown : Owns w 0 v xs) (hsee : Sees w u ys) (hb : xs.length + ys.length ≤ 140737488355328)
    (hK : ∀ v' w', Owns w' 0 v' (xs ++ ys) → w.grownBy w' v.ownBlock → NewRow w v v' → wpList P ops Q rest (a.put o.dst v') w') :
    wpList P ops Q (o :: rest) a w := by
  suffices H : ∃ v' w', (Builtin.append_ #[t, t] o.type #[v, u]).run P w = .ok v' w' ∧ Owns w' 0 v' (xs ++ ys) ∧ w.grownBy w' v.ownBlock ∧ NewRow w v v' by
    obtain ⟨v', w', hrun, r1, r2, r3⟩ := H
    refine wpList_plain hg fun K hK' => ?_
    unfold Oper.wp
    simp [execOp, hop, resolve, invoke, builtin, hs, hx, hrun, Result.andThen]
    exact hK' _ _ (hK v' w' r1 r2 r3)
  obtain ⟨ao, cap, rfl, g1, g2, g0, g3⟩ := hsee
  have hlen : xs.length + ys.length = (xs ++ ys).length := by simp
  have h63 : xs.length + ys.length ≤ maxLen := by unfold maxLen; omega
  have hby : (xs.length + ys.length) * 1 ≤ 140737488355328 := by omega
  -- the source's address, or none
  cases ao with
  | none =>
    have hy : ys = [] := by
      have := g0 rfl
      exact List.eq_nil_of_length_eq_zero (by omega)
    subst hy
    have hc := g0 rfl
    subst hc
    refine ⟨v, w, run_append_owned_none w 0 t o.type 5 i 1 h1 h2 v xs.length _ hown, by simpa using hown, World.grownBy.refl _ _, .inl rfl⟩
  | some ad =>
    have hnews : ∀ j u, (ys.map (Value.int .u8))[j]? = some u → w.cell? (ad.add j) = some u := by
      rcases g3 with rfl | ⟨b, off, e, g3⟩
      · intro j u hj; simp at hj
      · simp at e; subst e; exact news_at g3
    have hone : ∀ u ∈ ys.map (Value.int .u8), u.oneCell' = true := ints_oneCell .u8 ys
    rcases hown.2 with ⟨rfl, h0⟩ | ⟨g, c, cur, rfl, k1, k2, k3, k4, k5, k6⟩
    · have hx0 : xs = [] := List.eq_nil_of_length_eq_zero h0
      subst hx0
      obtain ⟨v', w', hrun, r1, r2, r3⟩ := run_append_own (P := P) w w.heap.size t o.type 5 i (.int .u8 0) 1 1 h1 h2 h3 h4 h5 rfl (by decide) (.slice none 0 0) 0 [] (World.ownsRow_nil w _ _ _) ad ys.length cap _ (by simp) hnews hone (by simpa using h63) (by simpa using hby) (Nat.le_refl _)
      refine ⟨v', w', hrun, ?_, r2, newRow_own r1 (.inl rfl)⟩
      exact owns_cast (base := w.heap.size) (n := 0 + ys.length) (xs := []) (by simp) r1
    · by_cases hfit : xs.length + ys.length ≤ c
      · obtain ⟨w', hrun, r1, r2⟩ := run_append_fits (P := P) w 0 t o.type 5 i 1 h1 h2 h4 g xs.length c _ hown ad ys.length cap _ (by simp) hnews hone hfit
        exact ⟨_, w', hrun, owns_cast hlen r1, r2, .inl rfl⟩
      · have holds : ∀ j u, (xs.map (Value.int .u8))[j]? = some u → w.cell? ((⟨g, 0, none⟩ : Addr).add j) = some u :=
          news_at (off := 0) fun i hi => by rw [Nat.zero_add]; exact owns_cell hown i hi
        obtain ⟨v', w', hrun, r1, r2⟩ := run_append_arg_grows (P := P) w t o.type 5 i (.int .u8 0) 1 1 h1 h2 h3 h4 h5 rfl (by decide) ⟨g, 0, none⟩ xs.length c _ (by simp) holds ad ys.length cap _ (by simp) hnews (by omega) h63 hby
        exact ⟨v', w', hrun, owns_cast hlen r1, ⟨r2.os, r2.tape, r2.output, r2.size, fun k hk _ => r2.block k hk (by simp)⟩, newRow_own r1 (.inr (by omega))⟩

theorem owns_shape {w : World} {base : Nat} {v : Value} {n : Nat} {xs : List Value} (h : w.ownsRow base 5 1 v n xs) : ∃ ao n c, v = .slice ao n c := by
  rcases h.2 with ⟨rfl, _⟩ | ⟨g, cap, cur, rfl, _⟩
  · exact ⟨_, _, _, rfl⟩
  · exact ⟨_, _, _, rfl⟩

theorem owns_base {w : World} {base : Nat} {v : Value} {xs : List Int} (h : Owns w 0 v xs) (hb : ∀ k, v.ownBlock = some k → base ≤ k) : Owns w base v xs := by
  refine ⟨h.1, ?_⟩
  rcases h.2 with h | ⟨g, cap, cur, rfl, _, h2⟩
  · exact .inl h
  · exact .inr ⟨g, cap, cur, rfl, hb g rfl, h2⟩

theorem sees_prefix {w : World} {base g cap n : Nat} {zs : List Int} (h : Owns w base (.slice (some ⟨g, 0, none⟩) zs.length cap) zs) (hn : n ≤ zs.length) : Sees w (.slice (some ⟨g, 0, none⟩) n cap) (zs.take n) := by
  have hl : (zs.take n).length = n := by simp; omega
  obtain ⟨ao, c, e, g1, g2, g0, g3⟩ := Sees.own h
  simp at e
  obtain ⟨rfl, rfl⟩ := e
  refine ⟨_, cap, by rw [hl], by omega, g2, fun e => by simp at e, ?_⟩
  rcases g3 with g3 | ⟨b, off, e, g3⟩
  · exact .inl (by rw [g3]; simp)
  · refine .inr ⟨b, off, e, fun i hi => ?_⟩
    rw [g3 i (by omega)]
    have hi' : i < n := by omega
    simp [List.getD_eq_getElem?_getD, hi']

end Go.Proofs.Ytdhdmfibdgepfaa
