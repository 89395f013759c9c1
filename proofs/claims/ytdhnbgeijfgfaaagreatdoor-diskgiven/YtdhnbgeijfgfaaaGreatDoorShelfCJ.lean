/- What stays when a call changes some blocks of memory, an append of bytes onto a row that the call owns, and what a Writer and a Reader of package pack are in memory; no Go function is walked here. -/
import Derived.Test.YtdhnbgeijfgfaaaGreatDoorDkPJ
import Derived.ArgAppend
import Derived.OneCell
import Derived.Shelf.Small.Strs
import Derived.Shelf.Strconv.Itoa0
import Derived.Shelf.Strconv.Itoa1
import Derived.Shelf.LaysM
import Derived.Shelf.Strconv.Itoa2
import Derived.Shelf.Strconv.Itoa3
import Derived.Test.YtdhnbgeijfgfaaaGreatDoorProg
namespace Go.Proofs.YtdhnbgeijfgfaaaGreatDoor
open Go.RowKit
set_option maxRecDepth 8000

/-- All blocks of w but those of S are in w' as they were. -/
structure Kept (w w' : World) (S : Nat → Prop) : Prop where
  os : w'.os = w.os
  tape : w'.tape = w.tape
  output : w'.output = w.output
  size : w.heap.size ≤ w'.heap.size
  block : ∀ k, k < w.heap.size → ¬ S k → w'.heap[k]? = w.heap[k]?

theorem Kept.refl (w : World) (S : Nat → Prop) : Kept w w S := ⟨rfl, rfl, rfl, Nat.le_refl _, fun _ _ _ => rfl⟩
theorem Kept.mono {w w' : World} {S S' : Nat → Prop} (h : Kept w w' S) (hS : ∀ k, k < w.heap.size → S k → S' k) : Kept w w' S' :=
  ⟨h.os, h.tape, h.output, h.size, fun k hk hn => h.block k hk fun hs => hn (hS k hk hs)⟩
theorem Kept.trans {a b c : World} {S S' : Nat → Prop} (h : Kept a b S) (g : Kept b c S') (hS : ∀ k, k < a.heap.size → S' k → S k) : Kept a c S :=
  ⟨g.os.trans h.os, g.tape.trans h.tape, g.output.trans h.output, Nat.le_trans h.size g.size, fun k hk hn =>
    (g.block k (Nat.lt_of_lt_of_le hk h.size) fun hs => hn (hS k hk hs)).trans (h.block k hk hn)⟩
theorem Kept.alloc {a w : World} {S : Nat → Prop} (h : Kept a w S) (o : Obj) : Kept a (w.alloc o) S :=
  h.trans (S' := fun _ => False) ⟨rfl, rfl, rfl, by simp, fun k hk _ => Below.heap_alloc _ _ _ hk⟩ (fun _ _ h => h.elim)
theorem Kept.drewN {a w : World} {S : Nat → Prop} (h : Kept a w S) (n : Nat) : Kept a (w.drewN n) S := ⟨h.os, h.tape, h.output, h.size, h.block⟩
theorem Kept.grown {a w w' : World} {S : Nat → Prop} {row : Option Nat} (h : Kept a w S) (g : w.grownBy w' row) (hS : ∀ k, k < a.heap.size → row = some k → S k) : Kept a w' S :=
  h.trans (S' := fun k => row = some k) ⟨g.os, g.tape, g.output, g.size, fun k hk hn => g.block k hk fun e => hn e.symm⟩ hS
theorem Kept.setCell {a w : World} {S : Nat → Prop} (h : Kept a w S) (p : Addr) (u : Value) (hS : p.block < a.heap.size → S p.block) : Kept a (w.setCell p u) S :=
  h.trans (S' := fun k => k = p.block) ⟨rfl, rfl, rfl, by simp [World.setCell], fun k _ hn => Below.heap_setCell _ _ _ _ hn⟩ (fun k hk e => by subst e; exact hS hk)
theorem Kept.below {w w' : World} {S : Nat → Prop} {B : Nat} (h : Kept w w' S) (hB : B ≤ w.heap.size) (hS : ∀ k, S k → B ≤ k) : Below B w w' :=
  ⟨h.os, h.tape, h.output, h.size, fun k hk => h.block k (by omega) fun hs => by have := hS k hs; omega⟩
theorem Below.kept {w w' : World} {B : Nat} (h : Below B w w') : Kept w w' (fun k => B ≤ k) := ⟨h.os, h.tape, h.output, h.size, fun k _ hn => h.block k (by omega)⟩
theorem Kept.cell {w w' : World} {S : Nat → Prop} (h : Kept w w' S) {p : Addr} {u : Value} (hc : w.cell? p = some u) (hn : ¬ S p.block) : w'.cell? p = some u :=
  (World.cell?_of_block (h.block p.block (World.block_lt_of_cell? w p hc) hn)).trans hc
theorem Kept.heap {w w' : World} {S : Nat → Prop} (h : Kept w w' S) {k : Nat} {o : Obj} (hc : w.heap[k]? = some o) (hn : ¬ S k) : w'.heap[k]? = some o :=
  (h.block k (lt_of_block hc) hn).trans hc

/-- The block in which a slice value lies, if it has any element. -/
def rowOf (v : Value) : Option Nat := v.ownBlock

theorem Sees.kept {w w' : World} {S : Nat → Prop} {v : Value} {xs : List Int} (h : Sees w v xs) (hk : Kept w w' S) (hn : ∀ k, v.ownBlock = some k → ¬ S k) : Sees w' v xs := by
  obtain ⟨ao, cap, rfl, h1, h2, h0, h3⟩ := h
  refine ⟨ao, cap, rfl, h1, h2, h0, ?_⟩
  rcases h3 with h3 | ⟨b, off, rfl, h3⟩
  · exact .inl h3
  · exact .inr ⟨b, off, rfl, fun i hi => hk.cell (h3 i hi) (hn b rfl)⟩

/-- The block of a slice that has something in it. -/
def liveB : Value → Option Nat
  | .slice _ 0 _ => none
  | v => v.ownBlock
theorem live_own {v : Value} {k : Nat} (h : liveB v = some k) : v.ownBlock = some k := by
  unfold liveB at h
  split at h
  · cases h
  · exact h
theorem live_at {b off n cap : Nat} (h : n ≠ 0) : liveB (.slice (some ⟨b, off, none⟩) n cap) = some b := by
  cases n with
  | zero => exact absurd rfl h
  | succ n => rfl
theorem Sees.keptL {w w' : World} {S : Nat → Prop} {v : Value} {xs : List Int} (h : Sees w v xs) (hk : Kept w w' S) (hn : ∀ k, liveB v = some k → ¬ S k) : Sees w' v xs := by
  obtain ⟨ao, cap, rfl, h1, h2, h0, h3⟩ := h
  refine ⟨ao, cap, rfl, h1, h2, h0, ?_⟩
  rcases h3 with h3 | ⟨b, off, rfl, h3⟩
  · exact .inl h3
  · cases xs with
    | nil => exact .inl rfl
    | cons x xs => exact .inr ⟨b, off, rfl, fun i hi => hk.cell (h3 i hi) (hn b rfl)⟩

theorem Owns.kept {w w' : World} {S : Nat → Prop} {base : Nat} {v : Value} {xs : List Int} (h : Owns w base v xs) (hk : Kept w w' S) (hn : ∀ k, v.ownBlock = some k → ¬ S k) : Owns w' base v xs := by
  refine ⟨h.1, ?_⟩
  rcases h.2 with h | ⟨g, cap, cur, rfl, h1, h2, h3⟩
  · exact .inl h
  · exact .inr ⟨g, cap, cur, rfl, h1, hk.heap h2 (hn g rfl), h3⟩

/-- The row of v' is that of v, or a new one. -/
def NewRow (w : World) (v v' : Value) : Prop := v'.ownBlock = v.ownBlock ∨ ∃ k, v'.ownBlock = some k ∧ w.heap.size ≤ k

theorem news_at {w : World} {b off : Nat} {ys : List Int} (h : ∀ i, i < ys.length → w.cell? ⟨b, off + i, none⟩ = some (.int .u8 (ys.getD i 0))) :
    ∀ j u, (ys.map (Value.int .u8))[j]? = some u → w.cell? ((⟨b, off, none⟩ : Addr).add j) = some u := by
  intro j u hj
  rw [List.getElem?_map] at hj
  by_cases hl : j < ys.length
  · rw [List.getElem?_eq_getElem hl] at hj
    have := h j hl
    rw [List.getD_eq_getElem?_getD, List.getElem?_eq_getElem hl] at this
    simp at hj this
    subst hj
    by_cases h0 : j = 0
    · subst h0; simpa [Addr.add] using this
    · simpa [Addr.add, h0] using this
  · rw [List.getElem?_eq_none (by omega)] at hj; simp at hj

theorem newRow_own {w w' : World} {v v' : Value} {n : Nat} {xs : List Value} (h : w'.ownsRow w.heap.size 5 1 v' n xs) (hv : v.ownBlock = none ∨ 0 < n) : NewRow w v v' := by
  rcases h.2 with ⟨rfl, h0⟩ | ⟨g, cap, cur, rfl, h1, _⟩
  · rcases hv with hv | hv
    · exact .inl (by rw [hv]; rfl)
    · omega
  · exact .inr ⟨g, rfl, h1⟩

theorem owns_cast {w : World} {base : Nat} {v : Value} {n : Nat} {xs ys : List Int} (hn : n = (xs ++ ys).length) (h : w.ownsRow base 5 1 v n (xs.map (Value.int .u8) ++ ys.map (Value.int .u8))) : Owns w 0 v (xs ++ ys) := by
  refine ⟨by simp, ?_⟩
  have h2 := h.2
  subst hn
  rw [← List.map_append] at h2
  rcases h2 with h2 | ⟨g, cap, cur, e, h1, h2⟩
  · exact .inl h2
  · exact .inr ⟨g, cap, cur, e, Nat.zero_le _, h2⟩

/-- 'append(s, x...)' of bytes: s nil or a row of the call's own; x any bytes that are seen. -/
theorem wpList_app {P : Program} (w : World) {ops : Array Oper} {rest : List Oper} {o : Oper} {a : Act} {Q : Exit → Act → World → Prop}
    (hg : o.guard = none) (s x : Operand) (t : TypeId) (hop : o.op = Op.call { callee := Callee.builtin Builtin.append, args := #[s, x], argTypes := #[t, t] })
    (i : TypeInfo) (h1 : P.underlying t = some (.slice 5)) (h2 : P.info? 5 = some i) (h3 : i.zero = some (.int .u8 0)) (h4 : i.size = 1) (h5 : i.bytes = 1)
    (v u : Value) (xs ys : List Int) (hs : a.eval s = v) (hx : a.eval x = u) (hown : Owns w 0 v xs) (hsee : Sees w u ys) (hb : xs.length + ys.length ≤ 140737488355328)
    (hK : ∀ v' w', Owns w' 0 v' (xs ++ ys) → w.grownBy w' v.ownBlock → NewRow w v v' → wpList P ops Q rest (a.put o.dst v') w') :
    wpList P ops Q (o :: rest) a w := by
  suffices H : ∃ v' w', (Builtin.append_ #[t, t] o.type #[v, u]).run P w = .ok v' w' ∧ Owns w' 0 v' (xs ++ ys) ∧ w.grownBy w' v.ownBlock ∧ NewRow w v v' by
    obtain ⟨v', w', hrun, r1, r2, r3⟩ := H
    refine wpList_plain hg fun K hK' => ?_
    unfold Oper.wp
    simp [execOp, hop, resolve, invoke, builtin, hs, hx, hrun, Result.andThen]
    exact hK' _ _ (hK v' w' r1 r2 r3)
  obtain ⟨ao, cap, rfl, g1, g2, g0, g3⟩ := hsee
  have hlen : xs.length + ys.length = (xs ++ ys).length := by simp
  have h63 : xs.length + ys.length ≤ maxLen := by unfold maxLen; omega
  have hby : (xs.length + ys.length) * 1 ≤ 140737488355328 := by omega
  -- the source's address, or none
  cases ao with
  | none =>
    have hy : ys = [] := by
      have := g0 rfl
      exact List.eq_nil_of_length_eq_zero (by omega)
    subst hy
    have hc := g0 rfl
    subst hc
    refine ⟨v, w, run_append_owned_none w 0 t o.type 5 i 1 h1 h2 v xs.length _ hown, by simpa using hown, World.grownBy.refl _ _, .inl rfl⟩
  | some ad =>
    have hnews : ∀ j u, (ys.map (Value.int .u8))[j]? = some u → w.cell? (ad.add j) = some u := by
      rcases g3 with rfl | ⟨b, off, e, g3⟩
      · intro j u hj; simp at hj
      · simp at e; subst e; exact news_at g3
    have hone : ∀ u ∈ ys.map (Value.int .u8), u.oneCell' = true := ints_oneCell .u8 ys
    rcases hown.2 with ⟨rfl, h0⟩ | ⟨g, c, cur, rfl, k1, k2, k3, k4, k5, k6⟩
    · have hx0 : xs = [] := List.eq_nil_of_length_eq_zero h0
      subst hx0
      obtain ⟨v', w', hrun, r1, r2, r3⟩ := run_append_own (P := P) w w.heap.size t o.type 5 i (.int .u8 0) 1 1 h1 h2 h3 h4 h5 rfl (by decide) (.slice none 0 0) 0 [] (World.ownsRow_nil w _ _ _) ad ys.length cap _ (by simp) hnews hone (by simpa using h63) (by simpa using hby) (Nat.le_refl _)
      refine ⟨v', w', hrun, ?_, r2, newRow_own r1 (.inl rfl)⟩
      exact owns_cast (base := w.heap.size) (n := 0 + ys.length) (xs := []) (by simp) r1
    · by_cases hfit : xs.length + ys.length ≤ c
      · obtain ⟨w', hrun, r1, r2⟩ := run_append_fits (P := P) w 0 t o.type 5 i 1 h1 h2 h4 g xs.length c _ hown ad ys.length cap _ (by simp) hnews hone hfit
        exact ⟨_, w', hrun, owns_cast hlen r1, r2, .inl rfl⟩
      · have holds : ∀ j u, (xs.map (Value.int .u8))[j]? = some u → w.cell? ((⟨g, 0, none⟩ : Addr).add j) = some u :=
          news_at (off := 0) fun i hi => by rw [Nat.zero_add]; exact owns_cell hown i hi
        obtain ⟨v', w', hrun, r1, r2⟩ := run_append_arg_grows (P := P) w t o.type 5 i (.int .u8 0) 1 1 h1 h2 h3 h4 h5 rfl (by decide) ⟨g, 0, none⟩ xs.length c _ (by simp) holds ad ys.length cap _ (by simp) hnews (by omega) h63 hby
        exact ⟨v', w', hrun, owns_cast hlen r1, ⟨r2.os, r2.tape, r2.output, r2.size, fun k hk _ => r2.block k hk (by simp)⟩, newRow_own r1 (.inr (by omega))⟩

theorem owns_shape {w : World} {base : Nat} {v : Value} {n : Nat} {xs : List Value} (h : w.ownsRow base 5 1 v n xs) : ∃ ao n c, v = .slice ao n c := by
  rcases h.2 with ⟨rfl, _⟩ | ⟨g, cap, cur, rfl, _⟩
  · exact ⟨_, _, _, rfl⟩
  · exact ⟨_, _, _, rfl⟩

theorem owns_base {w : World} {base : Nat} {v : Value} {xs : List Int} (h : Owns w 0 v xs) (hb : ∀ k, v.ownBlock = some k → base ≤ k) : Owns w base v xs := by
  refine ⟨h.1, ?_⟩
  rcases h.2 with h | ⟨g, cap, cur, rfl, _, h2⟩
  · exact .inl h
  · exact .inr ⟨g, cap, cur, rfl, hb g rfl, h2⟩

theorem sees_prefix {w : World} {base g cap n : Nat} {zs : List Int} (h : Owns w base (.slice (some ⟨g, 0, none⟩) zs.length cap) zs) (hn : n ≤ zs.length) : Sees w (.slice (some ⟨g, 0, none⟩) n cap) (zs.take n) := by
  have hl : (zs.take n).length = n := by simp; omega
  obtain ⟨ao, c, e, g1, g2, g0, g3⟩ := Sees.own h
  simp at e
  obtain ⟨rfl, rfl⟩ := e
  refine ⟨_, cap, by rw [hl], by omega, g2, fun e => by simp at e, ?_⟩
  rcases g3 with g3 | ⟨b, off, e, g3⟩
  · exact .inl (by rw [g3]; simp)
  · refine .inr ⟨b, off, e, fun i hi => ?_⟩
    rw [g3 i (by omega)]
    have hi' : i < n := by omega
    simp [List.getD_eq_getElem?_getD, hi']

end Go.Proofs.YtdhnbgeijfgfaaaGreatDoor

/- A disk in memory: its block, the row of pointers, each file's block and its bytes; all apart. -/
namespace Go.Proofs.YtdhnbgeijfgfaaaGreatDoor
open Go.RowKit
set_option maxRecDepth 8000

/-- A file's place: its block, its bytes' value. -/
structure FiM where
  q : Nat
  v : Value

abbrev flQ (n : ByteArray) (v : Value) (dur : Int) : Array Value := #[.string n, v, .int .i64 dur]
abbrev dkQ (fv : Value) (room : Int) (on : Bool) (armed writes : Int) : Array Value := #[fv, .bool true, .int .i64 room, .bool on, .int .i64 armed, .int .i64 writes]

structure FileAt (w : World) (m : FiM) (f : FiD) : Prop where
  row : w.heap[m.q]? = some (.cells (flQ f.name m.v f.dur) 86 (0, 0))
  own : Owns w 0 m.v f.bytes

def FiM.blks (m : FiM) : List Nat := m.q :: m.v.ownBlock.toList
def foot (p : Nat) (fv : Value) (ms : List FiM) : List Nat := p :: (fv.ownBlock.toList ++ ms.flatMap FiM.blks)

abbrev ptrs (ms : List FiM) : List Value := ms.map fun m => .pointer (some ⟨m.q, 0, none⟩)

/-- A disk, as data. -/
structure DkD where
  files : List FiD
  room : Int
  on : Bool
  armed : Int
  writes : Int

structure IsDk (w : World) (p : Nat) (fv : Value) (ms : List FiM) (D : DkD) : Prop where
  row : w.heap[p]? = some (.cells (dkQ fv D.room D.on D.armed D.writes) 57 (0, 0))
  len : ms.length = D.files.length
  own : w.ownsRow 0 81 1 fv ms.length (ptrs ms)
  file : ∀ (k : Nat) m f, ms[k]? = some m → D.files[k]? = some f → FileAt w m f
  nd : (foot p fv ms).Nodup

theorem mem_foot_p {p : Nat} {fv : Value} {ms : List FiM} : p ∈ foot p fv ms := List.mem_cons_self ..
theorem mem_foot_fv {p k : Nat} {fv : Value} {ms : List FiM} (h : fv.ownBlock = some k) : k ∈ foot p fv ms :=
  List.mem_cons_of_mem _ (List.mem_append_left _ (by rw [h]; simp))
theorem mem_foot_q {p : Nat} {fv : Value} {ms : List FiM} {m : FiM} (h : m ∈ ms) : m.q ∈ foot p fv ms :=
  List.mem_cons_of_mem _ (List.mem_append_right _ (List.mem_flatMap.2 ⟨m, h, List.mem_cons_self ..⟩))
theorem mem_foot_v {p k : Nat} {fv : Value} {ms : List FiM} {m : FiM} (h : m ∈ ms) (hk : m.v.ownBlock = some k) : k ∈ foot p fv ms :=
  List.mem_cons_of_mem _ (List.mem_append_right _ (List.mem_flatMap.2 ⟨m, h, List.mem_cons_of_mem _ (by rw [hk]; simp)⟩))

theorem mem_foot {p k : Nat} {fv : Value} {ms : List FiM} (h : k ∈ foot p fv ms) : k = p ∨ fv.ownBlock = some k ∨ ∃ m ∈ ms, k = m.q ∨ m.v.ownBlock = some k := by
  unfold foot at h
  rcases List.mem_cons.1 h with rfl | h
  · exact .inl rfl
  rcases List.mem_append.1 h with h | h
  · right; left
    cases hv : fv.ownBlock with
    | none => rw [hv] at h; simp at h
    | some j => rw [hv] at h; simp at h; rw [h]
  · right; right
    obtain ⟨m, hm, hk⟩ := List.mem_flatMap.1 h
    refine ⟨m, hm, ?_⟩
    rcases List.mem_cons.1 hk with rfl | hk
    · exact .inl rfl
    · right
      cases hv : m.v.ownBlock with
      | none => rw [hv] at hk; simp at hk
      | some j => rw [hv] at hk; simp at hk; rw [hk]

theorem row_kept' {w w' : World} {S : Nat → Prop} {base : Nat} {e : TypeId} {z : Nat} {v : Value} {n : Nat} {xs : List Value} (h : w.ownsRow base e z v n xs) (hk : Kept w w' S) (hn : ∀ k, v.ownBlock = some k → ¬ S k) : w'.ownsRow base e z v n xs := by
  obtain ⟨h0, h | ⟨g, cap, cur, rfl, h2, h3, h4, h5, h6, h7⟩⟩ := h
  · exact ⟨h0, .inl h⟩
  · exact ⟨h0, .inr ⟨g, cap, cur, rfl, h2, hk.heap h3 (hn g rfl), h4, h5, h6, h7⟩⟩

theorem FileAt.kept {w w' : World} {S : Nat → Prop} {m : FiM} {f : FiD} (h : FileAt w m f) (hk : Kept w w' S) (hq : ¬ S m.q) (hv : ∀ k, m.v.ownBlock = some k → ¬ S k) : FileAt w' m f :=
  ⟨hk.heap h.row hq, h.own.kept hk hv⟩

/-- Every block of a disk is there. -/
theorem IsDk.lt {w : World} {p : Nat} {fv : Value} {ms : List FiM} {D : DkD} (h : IsDk w p fv ms D) {k : Nat} (hk : k ∈ foot p fv ms) : k < w.heap.size := by
  rcases mem_foot hk with rfl | e | ⟨m, hm, e⟩
  · exact lt_of_block h.row
  · obtain ⟨_, ⟨rfl, _⟩ | ⟨g, cap, cur, rfl, _, h3, _⟩⟩ := h.own
    · cases e
    · cases e; exact lt_of_block h3
  · obtain ⟨i, hi, rfl⟩ := List.getElem_of_mem hm
    have hf := h.file i ms[i] (D.files[i]'(by rw [← h.len]; exact hi)) (List.getElem?_eq_getElem _) (List.getElem?_eq_getElem _)
    rcases e with rfl | e
    · exact lt_of_block hf.row
    · obtain ⟨_, ⟨e2, _⟩ | ⟨g, cap, cur, e2, _, h3, _⟩⟩ := hf.own
      · rw [e2] at e; cases e
      · rw [e2] at e; cases e; exact lt_of_block h3

/-- A disk that nothing touched. -/
theorem IsDk.kept {w w' : World} {S : Nat → Prop} {p : Nat} {fv : Value} {ms : List FiM} {D : DkD} (h : IsDk w p fv ms D) (hk : Kept w w' S) (hS : ∀ k ∈ foot p fv ms, ¬ S k) : IsDk w' p fv ms D :=
  ⟨hk.heap h.row (hS p mem_foot_p), h.len, row_kept' h.own hk (fun k e => hS k (mem_foot_fv e)), fun i m f hm hf => (h.file i m f hm hf).kept hk (hS _ (mem_foot_q (List.mem_of_getElem? hm))) (fun k e => hS k (mem_foot_v (List.mem_of_getElem? hm) e)), h.nd⟩

theorem IsDk.later {w w' : World} {p : Nat} {fv : Value} {ms : List FiM} {D : DkD} (h : IsDk w p fv ms D) (hb : Below w.heap.size w w') : IsDk w' p fv ms D :=
  h.kept (Below.kept hb) (fun k hk e => by have := h.lt hk; omega)

/-- What a call does to a disk: the same block, other data; nothing but its own blocks is touched, and new ones. -/
structure DkTo (w : World) (p : Nat) (fv : Value) (ms : List FiM) (w' : World) (D' : DkD) (fv' : Value) (ms' : List FiM) : Prop where
  is : IsDk w' p fv' ms' D'
  kept : Kept w w' (· ∈ foot p fv ms)
  foot : ∀ k ∈ foot p fv' ms', k ∈ foot p fv ms ∨ w.heap.size ≤ k

theorem DkTo.refl {w : World} {p : Nat} {fv : Value} {ms : List FiM} {D : DkD} (h : IsDk w p fv ms D) : DkTo w p fv ms w D fv ms := ⟨h, Kept.refl _ _, fun _ hk => .inl hk⟩

theorem Kept.trans' {w w1 w2 : World} {S T U : Nat → Prop} (h : Kept w w1 S) (g : Kept w1 w2 T) (hS : ∀ k, k < w.heap.size → S k → U k) (hT : ∀ k, k < w.heap.size → T k → U k) : Kept w w2 U :=
  ⟨g.os.trans h.os, g.tape.trans h.tape, g.output.trans h.output, Nat.le_trans h.size g.size, fun k hk hn => (g.block k (Nat.lt_of_lt_of_le hk h.size) (fun e => hn (hT k hk e))).trans (h.block k hk (fun e => hn (hS k hk e)))⟩

theorem DkTo.trans {w w1 w2 : World} {p : Nat} {fv fv1 fv2 : Value} {ms ms1 ms2 : List FiM} {D1 D2 : DkD} (h : DkTo w p fv ms w1 D1 fv1 ms1) (g : DkTo w1 p fv1 ms1 w2 D2 fv2 ms2) : DkTo w p fv ms w2 D2 fv2 ms2 :=
  ⟨g.is, h.kept.trans' g.kept (fun _ _ e => e) (fun k hk e => by rcases h.foot k e with e | e; exact e; omega), fun k hk => by
    rcases g.foot k hk with e | e
    · exact h.foot k e
    · exact .inr (Nat.le_trans h.kept.size e)⟩

/-- A step that touched nothing of it, ahead of one that did. -/
theorem DkTo.after {w w1 w2 : World} {p : Nat} {fv fv2 : Value} {ms ms2 : List FiM} {D2 : DkD} (hb : Below w.heap.size w w1) (g : DkTo w1 p fv ms w2 D2 fv2 ms2) : DkTo w p fv ms w2 D2 fv2 ms2 :=
  ⟨g.is, (Below.kept hb).trans' g.kept (fun k hk e => by omega) (fun k hk e => e), fun k hk => by
    rcases g.foot k hk with e | e
    · exact .inl e
    · exact .inr (Nat.le_trans hb.size e)⟩

theorem DkTo.then {w w1 w2 : World} {p : Nat} {fv fv1 : Value} {ms ms1 : List FiM} {D1 : DkD} (h : DkTo w p fv ms w1 D1 fv1 ms1) (hb : Below w1.heap.size w1 w2) : DkTo w p fv ms w2 D1 fv1 ms1 :=
  h.trans ⟨h.is.later hb, (Below.kept hb).mono (fun k hk e => by omega), fun k hk => .inl hk⟩

end Go.Proofs.YtdhnbgeijfgfaaaGreatDoor

/-
  DERIVED: THE SHELF's CONTRACTS AT THIS DUMP, IN PLAIN WORDS (tools/lay-plain.mjs out of 'TryzShelf.lean', which tools/lay-shelf.mjs wrote): THE SAME DECLARATIONS UNDER THE SAME NAMES: 'import', 'namespace', 'open', 'def', 'theorem' AND NOTHING ELSE: no command of the shelf's: FOR A HAND-IN. Each laying: the table of numbers ('.._ren') and one theorem, a field a fact of the dump's own or the kernel's comparison; each contract: ONE APPLICATION.
-/
namespace Go.Proofs
open Go.Shelf
def Tryz.lays213_ren : Go.Shelf.Ren := ⟨fun | 213 => 95 | 265 => 103 | n => n, fun | 9 => 9 | 3 => 3 | n => n, fun | n => n⟩
theorem Tryz.lays213 : Go.Proofs.Lays.n213 Tryz.prog Tryz.lays213_ren := {
  mixed := by kernel_rfl
  f213 := Tryz.func95.trans (congrArg some (by kernel_rfl))
  f265 := Tryz.func103.trans (congrArg some (by kernel_rfl))
  t3 := Tryz.underlying3
  a3 := Tryz.isAgg3
  z3 := Tryz.sizeOf3
  v3 := Tryz.zeroValue3
  t9 := Tryz.underlying9
  a9 := Tryz.isAgg9
  z9 := Tryz.sizeOf9
  v9 := Tryz.zeroValue9 }
open Go.RowKit in
/-- internal/bytealg.CompareString (what strings.Compare calls): IT RETURNS 'Lib.compareBytes a b'; the world is as it was. (LAID: no walk: one application.) -/
theorem Tryz.bytealg_CompareString (a b : ByteArray) (w : World) :
    Calls Tryz.prog 95 #[.string a, .string b] w fun e w' => e = .returned (.int .i64 (Lib.compareBytes a.data.toList b.data.toList)) ∧ w' = w := Any.bytealg_CompareString Tryz.lays213 a b w
def Tryz.lays106_ren : Go.Shelf.Ren := ⟨fun | 106 => 88 | 213 => 95 | 265 => 103 | n => n, fun | 9 => 9 | 3 => 3 | n => n, fun | n => n⟩
theorem Tryz.lays106 : Go.Proofs.Lays.n106 Tryz.prog Tryz.lays106_ren := {
  mixed := by kernel_rfl
  f106 := Tryz.func88.trans (congrArg some (by kernel_rfl))
  f213 := Tryz.func95.trans (congrArg some (by kernel_rfl))
  f265 := Tryz.func103.trans (congrArg some (by kernel_rfl))
  t3 := Tryz.underlying3
  a3 := Tryz.isAgg3
  z3 := Tryz.sizeOf3
  v3 := Tryz.zeroValue3
  t9 := Tryz.underlying9
  a9 := Tryz.isAgg9
  z9 := Tryz.sizeOf9
  v9 := Tryz.zeroValue9 }
open Go.RowKit in
/-- strings.Compare: "Compare returns an integer comparing two strings lexicographically. The result will be 0 if a == b, -1 if a < b, and +1 if a > b.": IT RETURNS 'Lib.compareBytes a b'; the world is as it was. (LAID: no walk: one application.) -/
theorem Tryz.strings_Compare (a b : ByteArray) (w : World) :
    Calls Tryz.prog 88 #[.string a, .string b] w fun e w' => e = .returned (.int .i64 (Lib.compareBytes a.data.toList b.data.toList)) ∧ w' = w := Any.strings_Compare Tryz.lays106 a b w
end Go.Proofs
