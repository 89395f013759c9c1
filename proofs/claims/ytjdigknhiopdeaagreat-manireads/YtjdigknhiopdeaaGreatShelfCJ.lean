/- A disk in memory: its block, the row of pointers, each file's block and its bytes; all apart. -/
import Derived.Test.YtjdigknhiopdeaaGreatDkPJ
import Derived.Test.YtjdigknhiopdeaaGreatMemJ
import Derived.Shelf.Small.Strs
import Derived.Test.YtjdigknhiopdeaaGreatProg
namespace Go.Proofs.YtjdigknhiopdeaaGreat
open Go.RowKit
set_option maxRecDepth 8000

/-- A file's place: its block, its bytes' value. -/
structure FiM where
  q : Nat
  v : Value

abbrev flQ (n : ByteArray) (v : Value) (dur : Int) : Array Value := #[.string n, v, .int .i64 dur]
abbrev dkQ (fv : Value) (room : Int) (on : Bool) (armed writes : Int) : Array Value := #[fv, .bool true, .int .i64 room, .bool on, .int .i64 armed, .int .i64 writes]

structure FileAt (w : World) (m : FiM) (f : FiD) : Prop where
  row : w.heap[m.q]? = some (.cells (flQ f.name m.v f.dur) 124 (0, 0))
  own : Owns w 0 m.v f.bytes

def FiM.blks (m : FiM) : List Nat := m.q :: m.v.ownBlock.toList
def foot (p : Nat) (fv : Value) (ms : List FiM) : List Nat := p :: (fv.ownBlock.toList ++ ms.flatMap FiM.blks)

abbrev ptrs (ms : List FiM) : List Value := ms.map fun m => .pointer (some ⟨m.q, 0, none⟩)

/-- A disk, as data. -/
structure DkD where
  files : List FiD
  room : Int
  on : Bool
  armed : Int
  writes : Int

structure IsDk (w : World) (p : Nat) (fv : Value) (ms : List FiM) (D : DkD) : Prop where
  row : w.heap[p]? = some (.cells (dkQ fv D.room D.on D.armed D.writes) 93 (0, 0))
  len : ms.length = D.files.length
  own : w.ownsRow 0 104 1 fv ms.length (ptrs ms)
  file : ∀ (k : Nat) m f, ms[k]? = some m → D.files[k]? = some f → FileAt w m f
  nd : (foot p fv ms).Nodup

theorem mem_foot_p {p : Nat} {fv : Value} {ms : List FiM} : p ∈ foot p fv ms := List.mem_cons_self ..
theorem mem_foot_fv {p k : Nat} {fv : Value} {ms : List FiM} (h : fv.ownBlock = some k) : k ∈ foot p fv ms :=
  List.mem_cons_of_mem _ (List.mem_append_left _ (by rw [h]; simp))
theorem mem_foot_q {p : Nat} {fv : Value} {ms : List FiM} {m : FiM} (h : m ∈ ms) : m.q ∈ foot p fv ms :=
  List.mem_cons_of_mem _ (List.mem_append_right _ (List.mem_flatMap.2 ⟨m, h, List.mem_cons_self ..⟩))
theorem mem_foot_v {p k : Nat} {fv : Value} {ms : List FiM} {m : FiM} (h : m ∈ ms) (hk : m.v.ownBlock = some k) : k ∈ foot p fv ms :=
  List.mem_cons_of_mem _ (List.mem_append_right _ (List.mem_flatMap.2 ⟨m, h, List.mem_cons_of_mem _ (by rw [hk]; simp)⟩))

theorem mem_foot {p k : Nat} {fv : Value} {ms : List FiM} (h : k ∈ foot p fv ms) : k = p ∨ fv.ownBlock = some k ∨ ∃ m ∈ ms, k = m.q ∨ m.v.ownBlock = some k := by
  unfold foot at h
  rcases List.mem_cons.1 h with rfl | h
  · exact .inl rfl
  rcases List.mem_append.1 h with h | h
  · right; left
    cases hv : fv.ownBlock with
    | none => rw [hv] at h; simp at h
    | some j => rw [hv] at h; simp at h; rw [h]
  · right; right
    obtain ⟨m, hm, hk⟩ := List.mem_flatMap.1 h
    refine ⟨m, hm, ?_⟩
    rcases List.mem_cons.1 hk with rfl | hk
    · exact .inl rfl
    · right
      cases hv : m.v.ownBlock with
      | none => rw [hv] at hk; simp at hk
      | some j => rw [hv] at hk; simp at hk; rw [hk]

theorem row_kept' {w w' : World} {S : Nat → Prop} {base : Nat} {e : TypeId} {z : Nat} {v : Value} {n : Nat} {xs : List Value} (h : w.ownsRow base e z v n xs) (hk : Kept w w' S) (hn : ∀ k, v.ownBlock = some k → ¬ S k) : w'.ownsRow base e z v n xs := by
  obtain ⟨h0, h | ⟨g, cap, cur, rfl, h2, h3, h4, h5, h6, h7⟩⟩ := h
  · exact ⟨h0, .inl h⟩
  · exact ⟨h0, .inr ⟨g, cap, cur, rfl, h2, hk.heap h3 (hn g rfl), h4, h5, h6, h7⟩⟩

theorem FileAt.kept {w w' : World} {S : Nat → Prop} {m : FiM} {f : FiD} (h : FileAt w m f) (hk : Kept w w' S) (hq : ¬ S m.q) (hv : ∀ k, m.v.ownBlock = some k → ¬ S k) : FileAt w' m f :=
  ⟨hk.heap h.row hq, h.own.kept hk hv⟩

/-- Every block of a disk is there. -/
theorem IsDk.lt {w : World} {p : Nat} {fv : Value} {ms : List FiM} {D : DkD} (h : IsDk w p fv ms D) {k : Nat} (hk : k ∈ foot p fv ms) : k < w.heap.size := by
  rcases mem_foot hk with rfl | e | ⟨m, hm, e⟩
  · exact lt_of_block h.row
  · obtain ⟨_, ⟨rfl, _⟩ | ⟨g, cap, cur, rfl, _, h3, _⟩⟩ := h.own
    · cases e
    · cases e; exact lt_of_block h3
  · obtain ⟨i, hi, rfl⟩ := List.getElem_of_mem hm
    have hf := h.file i ms[i] (D.files[i]'(by rw [← h.len]; exact hi)) (List.getElem?_eq_getElem _) (List.getElem?_eq_getElem _)
    rcases e with rfl | e
    · exact lt_of_block hf.row
    · obtain ⟨_, ⟨e2, _⟩ | ⟨g, cap, cur, e2, _, h3, _⟩⟩ := hf.own
      · rw [e2] at e; cases e
      · rw [e2] at e; cases e; exact lt_of_block h3

/-- A disk that nothing touched. -/
theorem IsDk.kept {w w' : World} {S : Nat → Prop} {p : Nat} {fv : Value} {ms : List FiM} {D : DkD} (h : IsDk w p fv ms D) (hk : Kept w w' S) (hS : ∀ k ∈ foot p fv ms, ¬ S k) : IsDk w' p fv ms D :=
  ⟨hk.heap h.row (hS p mem_foot_p), h.len, row_kept' h.own hk (fun k e => hS k (mem_foot_fv e)), fun i m f hm hf => (h.file i m f hm hf).kept hk (hS _ (mem_foot_q (List.mem_of_getElem? hm))) (fun k e => hS k (mem_foot_v (List.mem_of_getElem? hm) e)), h.nd⟩

theorem IsDk.later {w w' : World} {p : Nat} {fv : Value} {ms : List FiM} {D : DkD} (h : IsDk w p fv ms D) (hb : Below w.heap.size w w') : IsDk w' p fv ms D :=
  h.kept (Below.kept hb) (fun k hk e => by have := h.lt hk; omega)

/-- What a call does to a disk: the same block, other data; nothing but its own blocks is touched, and new ones. -/
structure DkTo (w : World) (p : Nat) (fv : Value) (ms : List FiM) (w' : World) (D' : DkD) (fv' : Value) (ms' : List FiM) : Prop where
  is : IsDk w' p fv' ms' D'
  kept : Kept w w' (· ∈ foot p fv ms)
  foot : ∀ k ∈ foot p fv' ms', k ∈ foot p fv ms ∨ w.heap.size ≤ k

theorem DkTo.refl {w : World} {p : Nat} {fv : Value} {ms : List FiM} {D : DkD} (h : IsDk w p fv ms D) : DkTo w p fv ms w D fv ms := ⟨h, Kept.refl _ _, fun _ hk => .inl hk⟩

theorem Kept.trans' {w w1 w2 : World} {S T U : Nat → Prop} (h : Kept w w1 S) (g : Kept w1 w2 T) (hS : ∀ k, k < w.heap.size → S k → U k) (hT : ∀ k, k < w.heap.size → T k → U k) : Kept w w2 U :=
  ⟨g.os.trans h.os, g.tape.trans h.tape, g.output.trans h.output, Nat.le_trans h.size g.size, fun k hk hn => (g.block k (Nat.lt_of_lt_of_le hk h.size) (fun e => hn (hT k hk e))).trans (h.block k hk (fun e => hn (hS k hk e)))⟩

theorem DkTo.trans {w w1 w2 : World} {p : Nat} {fv fv1 fv2 : Value} {ms ms1 ms2 : List FiM} {D1 D2 : DkD} (h : DkTo w p fv ms w1 D1 fv1 ms1) (g : DkTo w1 p fv1 ms1 w2 D2 fv2 ms2) : DkTo w p fv ms w2 D2 fv2 ms2 :=
  ⟨g.is, h.kept.trans' g.kept (fun _ _ e => e) (fun k hk e => by rcases h.foot k e with e | e; exact e; omega), fun k hk => by
    rcases g.foot k hk with e | e
    · exact h.foot k e
    · exact .inr (Nat.le_trans h.kept.size e)⟩

/-- A step that touched nothing of it, ahead of one that did. -/
theorem DkTo.after {w w1 w2 : World} {p : Nat} {fv fv2 : Value} {ms ms2 : List FiM} {D2 : DkD} (hb : Below w.heap.size w w1) (g : DkTo w1 p fv ms w2 D2 fv2 ms2) : DkTo w p fv ms w2 D2 fv2 ms2 :=
  ⟨g.is, (Below.kept hb).trans' g.kept (fun k hk e => by omega) (fun k hk e => e), fun k hk => by
    rcases g.foot k hk with e | e
    · exact .inl e
    · exact .inr (Nat.le_trans hb.size e)⟩

theorem DkTo.then {w w1 w2 : World} {p : Nat} {fv fv1 : Value} {ms ms1 : List FiM} {D1 : DkD} (h : DkTo w p fv ms w1 D1 fv1 ms1) (hb : Below w1.heap.size w1 w2) : DkTo w p fv ms w2 D1 fv1 ms1 :=
  h.trans ⟨h.is.later hb, (Below.kept hb).mono (fun k hk e => by omega), fun k hk => .inl hk⟩

end Go.Proofs.YtjdigknhiopdeaaGreat

/-
  DERIVED: THE SHELF's CONTRACTS AT THIS DUMP, IN PLAIN WORDS (tools/lay-plain.mjs out of 'TryzShelf.lean', which tools/lay-shelf.mjs wrote): THE SAME DECLARATIONS UNDER THE SAME NAMES: 'import', 'namespace', 'open', 'def', 'theorem' AND NOTHING ELSE: no command of the shelf's: FOR A HAND-IN. Each laying: the table of numbers ('.._ren') and one theorem, a field a fact of the dump's own or the kernel's comparison; each contract: ONE APPLICATION.
-/
namespace Go.Proofs
open Go.Shelf
def Tryz.lays213_ren : Go.Shelf.Ren := ⟨fun | 213 => 107 | 265 => 110 | n => n, fun | 9 => 9 | 3 => 3 | n => n, fun | n => n⟩
open Go.RowKit in
def Tryz.lays106_ren : Go.Shelf.Ren := ⟨fun | 106 => 103 | 213 => 107 | 265 => 110 | n => n, fun | 9 => 9 | 3 => 3 | n => n, fun | n => n⟩
theorem Tryz.lays106 : Go.Proofs.Lays.n106 Tryz.prog Tryz.lays106_ren := {
  mixed := by kernel_rfl
  f106 := Tryz.func103.trans (congrArg some (by kernel_rfl))
  f213 := Tryz.func107.trans (congrArg some (by kernel_rfl))
  f265 := Tryz.func110.trans (congrArg some (by kernel_rfl))
  t3 := Tryz.underlying3
  a3 := Tryz.isAgg3
  z3 := Tryz.sizeOf3
  v3 := Tryz.zeroValue3
  t9 := Tryz.underlying9
  a9 := Tryz.isAgg9
  z9 := Tryz.sizeOf9
  v9 := Tryz.zeroValue9 }
open Go.RowKit in
/-- strings.Compare: "Compare returns an integer comparing two strings lexicographically. The result will be 0 if a == b, -1 if a < b, and +1 if a > b.": IT RETURNS 'Lib.compareBytes a b'; the world is as it was. (LAID: no walk: one application.) -/
theorem Tryz.strings_Compare (a b : ByteArray) (w : World) :
    Calls Tryz.prog 103 #[.string a, .string b] w fun e w' => e = .returned (.int .i64 (Lib.compareBytes a.data.toList b.data.toList)) ∧ w' = w := Any.strings_Compare Tryz.lays106 a b w
end Go.Proofs
