/- Lists that lie apart, each grown by marks of its own, gathered: what holds of them. -/
import Derived.Test.YtbdokdhconhifaaGreatDoorBgBJ
import Derived.Test.YtbdokdhconhifaaGreatDoorProg
import Derived.Lib.SlFresh
import Derived.Deep.RegionHeld
import Derived.Shelf.Small.Strs
import Derived.Shelf.Strconv.Itoa0
import Derived.Shelf.Strconv.Itoa1
import Derived.Shelf.LaysM
import Derived.Shelf.Strconv.Itoa2
import Derived.Shelf.Strconv.Itoa3
import Derived.Test.YtbdokdhconhifaaGreatDoorMemJ
namespace Go.Proofs.YtbdokdhconhifaaGreatDoor
open Go.RowKit
set_option maxRecDepth 8000

/-- A list: its value and its length. -/
structure Rw where
  v : Value
  n : Nat

/-- No two lists lie in one block. -/
def ApartR (rs : List Rw) : Prop := ∀ i j (hi : i < rs.length) (hj : j < rs.length), i ≠ j → ∀ g, rs[i].v.ownBlock = some g → rs[j].v.ownBlock ≠ some g

/-- All lists stand. -/
def RowsR (w : World) (T : TypeId) (z : Nat) (rs : List Rw) (Xs : Nat → List Value) : Prop := ∀ j (hj : j < rs.length), w.ownsRow 0 T z rs[j].v rs[j].n (Xs j)

/-- The first i lists are grown and gathered. -/
structure Bd (w wr : World) (T T1 : TypeId) (z q : Nat) (rs : List Rw) (Xs : Nat → List Value) (s : Nat → Value) (c i : Nat) (mv : Value) (ms : List Value) : Prop where
  len : ms.length = i
  more : wr.ownsRow w.heap.size T1 1 mv i ms
  rows : RowsR wr T z rs Xs
  news : ∀ j (hj : j < rs.length) (hm : j < ms.length), ∃ ys, wr.ownsRow 0 T z ms[j] (rs[j].n + c) (Xs j ++ ys) ∧ Mk z q c (s j) ys
  far : ∀ j (hj : j < rs.length) (hm : j < ms.length) g, ms[j].ownBlock = some g → rs[j].v.ownBlock = some g ∨ w.heap.size ≤ g
  kept : Kept w wr (fun k => ∃ j, ∃ hj : j < rs.length, rs[j].v.ownBlock = some k)

theorem Bd.start {w : World} {T T1 : TypeId} {z q c : Nat} {rs : List Rw} {Xs : Nat → List Value} {s : Nat → Value} (h : RowsR w T z rs Xs) : Bd w w T T1 z q rs Xs s c 0 (.slice none 0 0) [] :=
  ⟨rfl, World.ownsRow_nil _ _ _ _, h, fun j _ hm => by simp at hm, fun j _ hm => by simp at hm, Kept.refl _ _⟩

theorem row_type {w : World} {base : Nat} {T : TypeId} {z n : Nat} {v : Value} {xs : List Value} (h : w.ownsRow base T z v n xs) {g : Nat} (hg : v.ownBlock = some g) : ∃ cs, w.heap[g]? = some (.cells cs T (0, 0)) := by
  obtain ⟨_, ⟨rfl, _⟩ | ⟨g', cap, cur, rfl, _, a3, _⟩⟩ := h
  · cases hg
  · simp [Value.ownBlock] at hg
    subst hg
    exact ⟨cur, a3⟩

theorem type_ne {w : World} {b b' : Nat} {T T' : TypeId} {z z' n n' : Nat} {v v' : Value} {xs xs' : List Value} (hT : T ≠ T') (h : w.ownsRow b T z v n xs) (h' : w.ownsRow b' T' z' v' n' xs') : ∀ g, v.ownBlock = some g → v'.ownBlock ≠ some g := by
  intro g hg hg'
  obtain ⟨cs, e⟩ := row_type h hg
  obtain ⟨cs', e'⟩ := row_type h' hg'
  rw [e] at e'
  simp at e'
  exact hT e'.2

theorem row_base {w : World} {base : Nat} {T : TypeId} {z n : Nat} {v : Value} {xs : List Value} (h : w.ownsRow base T z v n xs) {g : Nat} (hg : v.ownBlock = some g) : base ≤ g := by
  obtain ⟨_, ⟨rfl, _⟩ | ⟨g', cap, cur, rfl, a2, _⟩⟩ := h
  · cases hg
  · simp [Value.ownBlock] at hg
    subst hg
    exact a2

/-- Nothing but new memory: all stands. -/
theorem Bd.next {w wr w1 : World} {T T1 : TypeId} {z q c i : Nat} {rs : List Rw} {Xs : Nat → List Value} {s : Nat → Value} {mv : Value} {ms : List Value} (h : Bd w wr T T1 z q rs Xs s c i mv ms) (hk : Kept wr w1 (fun _ => False)) : Bd w w1 T T1 z q rs Xs s c i mv ms :=
  ⟨h.len, row_kept h.more hk (fun _ _ h => h), fun j hj => row_kept (h.rows j hj) hk (fun _ _ h => h), fun j hj hm => by
    obtain ⟨ys, h1, h2⟩ := h.news j hj hm
    exact ⟨ys, row_kept h1 hk (fun _ _ h => h), h2⟩, h.far, h.kept.trans hk (fun _ _ h => h.elim)⟩

theorem Bd.step {w wr wx w' : World} {T T1 : TypeId} {z q c i : Nat} {rs : List Rw} {Xs : Nat → List Value} {s : Nat → Value} {mv mv' m : Value} {ms : List Value} (h : Bd w wr T T1 z q rs Xs s c i mv ms) (hT : T ≠ T1) (h0 : RowsR w T z rs Xs) (hap : ApartR rs) (hi : i < rs.length)
    (hg : Gw wr wx T z q rs[i].v rs[i].n (Xs i) (s i) c m) (ho : w'.ownsRow w.heap.size T1 1 mv' (i + 1) (ms ++ [m])) (hgr : wx.grownBy w' mv.ownBlock) : Bd w w' T T1 z q rs Xs s c (i + 1) mv' (ms ++ [m]) := by
  obtain ⟨⟨ys, g1, _, g3⟩, g4, g5, g6⟩ := hg
  have hold : ∀ g, rs[i].v.ownBlock = some g → g < w.heap.size := fun g hg => row_lt (h0 i hi) hg
  have hmvx : wx.ownsRow w.heap.size T1 1 mv i ms := row_kept h.more g5 (fun g hg e => by have := hold g e; have := row_base h.more hg; omega)
  have hrow : ∀ {n : Nat} {v : Value} {xs : List Value}, wx.ownsRow 0 T z v n xs → w'.ownsRow 0 T z v n xs := fun hr => row_other hr hgr (fun g hg e => type_ne hT hr hmvx g hg e)
  have hrows : RowsR wx T z rs Xs := fun j hj => by
    by_cases hji : j = i
    · subst hji; exact g4
    · exact row_kept (h.rows j hj) g5 (fun g hg e => hap j i hj hi hji g hg e)
  have hlt : ms.length = i := h.len
  refine ⟨by simp [hlt], ho, fun j hj => hrow (hrows j hj), fun j hj hm => ?_, fun j hj hm g hb => ?_, ?_⟩
  · by_cases hji : j < ms.length
    · rw [List.getElem_append_left hji]
      obtain ⟨zs, z1, z2⟩ := h.news j hj hji
      refine ⟨zs, hrow (row_kept z1 g5 (fun g hg e => ?_)), z2⟩
      rcases h.far j hj hji g hg with e2 | e2
      · exact hap j i hj hi (by omega) g e2 e
      · have := hold g e; omega
    · obtain rfl : j = i := by simp at hm; omega
      have e : (ms ++ [m])[j] = m := by rw [List.getElem_append_right (by omega)]; simp [hlt]
      rw [e]
      exact ⟨ys, hrow g1, g3⟩
  · by_cases hji : j < ms.length
    · rw [List.getElem_append_left hji] at hb
      exact h.far j hj hji g hb
    · obtain rfl : j = i := by simp at hm; omega
      have e : (ms ++ [m])[j] = m := by rw [List.getElem_append_right (by omega)]; simp [hlt]
      rw [e] at hb
      rcases g6 with ⟨_, e2⟩ | ⟨g2, cap, e2, e3⟩ | ⟨g2, e2, hle⟩
      · left; rw [← e2]; exact hb
      · left
        rw [e3] at hb
        rw [e2]
        exact hb
      · right
        rw [e2] at hb
        cases hb
        exact Nat.le_trans h.kept.size hle
  · refine (h.kept.trans g5 (fun k _ e => ⟨i, hi, e⟩)).trans ⟨hgr.os, hgr.tape, hgr.output, hgr.size, fun k hk hne => hgr.block k hk (fun e => hne e.symm)⟩ (fun k hk e => ?_)
    have := row_base h.more e
    omega

end Go.Proofs.YtbdokdhconhifaaGreatDoor

/- Lists that lie apart, filled with marks element by element: what holds of them. -/
namespace Go.Proofs.YtbdokdhconhifaaGreatDoor
open Go.RowKit
set_option maxRecDepth 8000

/-- The blocks of these lists. -/
def BlkR (rs : List Rw) (k : Nat) : Prop := ∃ j, ∃ hj : j < rs.length, rs[j].v.ownBlock = some k

/-- The first i lists are filled, of the next one the first t. -/
def Fd (w wr : World) (T : TypeId) (z q : Nat) (rs : List Rw) (s : Nat → Value) (i t : Nat) (Xs : Nat → List Value) : Prop :=
  RowsR wr T z rs Xs ∧ (∀ j (hj : j < rs.length), j < i → Mk z q rs[j].n (s j) (Xs j)) ∧ Mk z q t (s i) (Xs i) ∧ Kept w wr (BlkR rs)

theorem Fd.start {w : World} {T : TypeId} {z q : Nat} {rs : List Rw} {s : Nat → Value} {Xs : Nat → List Value} (h : RowsR w T z rs Xs) : Fd w w T z q rs s 0 0 Xs :=
  ⟨h, fun j _ hj => by omega, fun k hk => by omega, Kept.refl _ _⟩

theorem Fd.next {w wr w1 : World} {T : TypeId} {z q i t : Nat} {rs : List Rw} {s : Nat → Value} {Xs : Nat → List Value} (h : Fd w wr T z q rs s i t Xs) (hk : Kept wr w1 (fun _ => False)) : Fd w w1 T z q rs s i t Xs :=
  ⟨fun j hj => row_kept (h.1 j hj) hk (fun _ _ h => h), h.2.1, h.2.2.1, h.2.2.2.trans hk (fun _ _ h => h.elim)⟩

theorem Fd.turn {w wr : World} {T : TypeId} {z q i t : Nat} {rs : List Rw} {s : Nat → Value} {Xs : Nat → List Value} (h : Fd w wr T z q rs s i t Xs) (hi : i < rs.length) (ht : rs[i].n ≤ t) : Fd w wr T z q rs s (i + 1) 0 Xs := by
  refine ⟨h.1, fun j hj hji => ?_, fun k hk => by omega, h.2.2.2⟩
  by_cases hj2 : j < i
  · exact h.2.1 j hj hj2
  · obtain rfl : j = i := by omega
    exact fun k hk => h.2.2.1 k (by omega)

/-- The sets that store one element change no other element's mark. -/
theorem Mk.set {z q n k : Nat} {s u : Value} {xs : List Value} (h : Mk z q n s xs) (hk : ∀ j, j < n → k ≠ j * z + q) : Mk z q n s (xs.set k u) := fun j hj => by
  rw [List.getElem?_set_ne (hk j hj)]
  exact h j hj

theorem Fd.store {w wr w' : World} {T : TypeId} {z q i t g : Nat} {rs : List Rw} {s : Nat → Value} {Xs : Nat → List Value} {xs' : List Value} (h : Fd w wr T z q rs s i t Xs) (hap : ApartR rs) (hi : i < rs.length) (hb : rs[i].v.ownBlock = some g) (ho : w'.ownsRow 0 T z rs[i].v rs[i].n xs') (hg : wr.grownBy w' (some g)) (hm : Mk z q (t + 1) (s i) xs') :
    Fd w w' T z q rs s i (t + 1) (fun j => if j = i then xs' else Xs j) := by
  refine ⟨fun j hj => ?_, fun j hj hji => ?_, ?_, ?_⟩
  · by_cases hji : j = i
    · subst hji
      simp only [if_pos]
      exact ho
    · simp only [if_neg hji]
      exact row_other (h.1 j hj) hg (fun g2 h2 e => by cases e; exact hap j i hj hi hji g h2 hb)
  · simp only [if_neg (show j ≠ i by omega)]
    exact h.2.1 j hj hji
  · simp only [if_pos]
    exact hm
  · exact h.2.2.2.trans ⟨hg.os, hg.tape, hg.output, hg.size, fun k hk hne => hg.block k hk (fun e => hne (by cases e; exact ⟨i, hi, hb⟩))⟩ (fun _ _ h => h)

/-- A list of lists in memory, in a block of its own kind. -/
def SeesL (w : World) (T1 : TypeId) (lv : Value) (rs : List Rw) : Prop := ∃ ao cap, lv = .slice ao rs.length cap ∧ rs.length ≤ cap ∧ (rs ≠ [] → ∃ b off, ao = some ⟨b, off, none⟩ ∧ (∃ cs fr, w.heap[b]? = some (.cells cs T1 fr)) ∧ ∀ j (hj : j < rs.length), w.cell? ⟨b, off + j, none⟩ = some rs[j].v)

theorem SeesL.kept {w w' : World} {T T1 : TypeId} {z : Nat} {lv : Value} {rs : List Rw} {Xs : Nat → List Value} (h : SeesL w T1 lv rs) (hr : RowsR w T z rs Xs) (hT : T ≠ T1) (hk : Kept w w' (BlkR rs)) : SeesL w' T1 lv rs := by
  obtain ⟨ao, cap, h1, h2, h3⟩ := h
  refine ⟨ao, cap, h1, h2, fun hn => ?_⟩
  obtain ⟨b, off, h4, ⟨cs, fr, h5⟩, h6⟩ := h3 hn
  have hnb : ¬ BlkR rs b := by
    rintro ⟨j, hj, e⟩
    obtain ⟨cs', e'⟩ := row_type (hr j hj) e
    rw [h5] at e'
    simp at e'
    exact hT e'.2.1.symm
  have hb : w'.heap[b]? = w.heap[b]? := hk.block b (lt_of_block h5) hnb
  refine ⟨b, off, h4, ⟨cs, fr, by rw [hb]; exact h5⟩, fun j hj => ?_⟩
  have := h6 j hj
  unfold World.cell? at this ⊢
  rw [hb]
  exact this

end Go.Proofs.YtbdokdhconhifaaGreatDoor

/- Rows of memory and their forms: what grownX and apartX of lagoonref00 share. -/
namespace Go.Proofs.YtbdokdhconhifaaGreatDoor
open Go.RowKit Go.Shelf
set_option maxRecDepth 8000

theorem info3B {T : TypeId} {z : Value} {s b : Nat} (h : (Tryz.prog.info? T).map (fun i => (i.zero, i.size, i.bytes)) = some (some z, s, b)) : ∃ i, Tryz.prog.info? T = some i ∧ i.zero = some z ∧ i.size = s ∧ i.bytes = b := by
  cases hh : Tryz.prog.info? T with
  | none => rw [hh] at h; simp at h
  | some i => rw [hh] at h; simp at h; exact ⟨i, rfl, h.1, h.2.1, h.2.2⟩

theorem below_new {w w' : World} (h : Below w.heap.size w w') : Kept w w' (fun _ => False) := ⟨h.os, h.tape, h.output, h.size, fun k hk _ => h.block k hk⟩

theorem row_form {w : World} {base : Nat} {T : TypeId} {z n : Nat} {v : Value} {xs : List Value} (h : w.ownsRow base T z v n xs) : ∃ a n c, v = .slice a n c := by
  obtain ⟨_, ⟨rfl, _⟩ | ⟨g, cap, cur, rfl, _⟩⟩ := h
  · exact ⟨_, _, _, rfl⟩
  · exact ⟨_, _, _, rfl⟩

theorem row_val {w : World} {base : Nat} {T : TypeId} {z n : Nat} {v : Value} {xs : List Value} (h : w.ownsRow base T z v n xs) : ∃ a c, v = .slice a n c := by
  obtain ⟨_, ⟨rfl, rfl⟩ | ⟨g, cap, cur, rfl, _⟩⟩ := h
  · exact ⟨_, _, rfl⟩
  · exact ⟨_, _, rfl⟩

theorem row_first {w : World} {base : Nat} {T : TypeId} {z n n' cap : Nat} {a : Option Addr} {xs : List Value} (h : w.ownsRow base T z (.slice a n' cap) n xs) (hn : 0 < n) : ∃ g, a = some ⟨g, 0, none⟩ ∧ ∀ j, j < n * z → w.cell? ⟨g, j, none⟩ = xs[j]? := by
  obtain ⟨h1, ⟨e, h0⟩ | ⟨g, cap', cur, e, a2⟩⟩ := id h
  · omega
  · simp only [Value.slice.injEq] at e
    obtain ⟨rfl, rfl, rfl⟩ := e
    exact ⟨g, rfl, fun j hj => h.cellAt j hj⟩

/-- One row holds one list. -/
theorem own_same {w : World} {base : Nat} {T : TypeId} {z n : Nat} {v : Value} {xs ys : List Value} (h : w.ownsRow base T z v n xs) (h' : w.ownsRow base T z v n ys) : xs = ys := by
  obtain ⟨l1, ⟨rfl, h0⟩ | ⟨g, cap, cur, rfl, _, a3, _, _, _, a7⟩⟩ := h
  · have l2 := h'.1
    rw [h0, Nat.zero_mul] at l1 l2
    rw [List.length_eq_zero_iff.1 l1, List.length_eq_zero_iff.1 l2]
  · obtain ⟨_, ⟨e, _⟩ | ⟨g', cap', cur', e, _, b3, _, _, _, b7⟩⟩ := h'
    · cases e
    · simp only [Value.slice.injEq, Option.some.injEq, Addr.mk.injEq, and_true, true_and] at e
      obtain ⟨rfl, rfl⟩ := e
      rw [a3] at b3
      simp only [Option.some.injEq, Obj.cells.injEq, and_true] at b3
      rw [← a7, ← b7, b3]
end Go.Proofs.YtbdokdhconhifaaGreatDoor

/-
  DERIVED: THE SHELF's CONTRACTS AT THIS DUMP, IN PLAIN WORDS (tools/lay-plain.mjs out of 'TryzShelf.lean', which tools/lay-shelf.mjs wrote): THE SAME DECLARATIONS UNDER THE SAME NAMES: 'import', 'namespace', 'open', 'def', 'theorem' AND NOTHING ELSE: no command of the shelf's: FOR A HAND-IN. Each laying: the table of numbers ('.._ren') and one theorem, a field a fact of the dump's own or the kernel's comparison; each contract: ONE APPLICATION.
-/
namespace Go.Proofs
open Go.Shelf
def Tryz.laysM171_ren : Go.Shelf.Ren := ⟨fun | 171 => 100 | 243 => 105 | 246 => 109 | 283 => 112 | 284 => 113 | 285 => 114 | 286 => 115 | 129 => 118 | 317 => 117 | 318 => 119 | 319 => 120 | 320 => 121 | 337 => 122 | 338 => 123 | n => n, fun | 3 => 3 | 9 => 9 | 2 => 2 | 4 => 4 | 171 => 217 | 0 => 0 | 53 => 218 | 37 => 58 | 5 => 5 | 173 => 221 | 212 => 226 | 51 => 147 | 20 => 20 | 213 => 227 | 46 => 213 | 232 => 230 | 233 => 231 | n => n, fun | 17 => 1 | 18 => 2 | 19 => 3 | n => n⟩
theorem Tryz.laysM171 : Go.Proofs.LaysM.n171 Tryz.prog Tryz.laysM171_ren := {
  mixed := by kernel_rfl
  f129 := Tryz.func118.trans (congrArg some (by kernel_rfl))
  f171 := Tryz.func100.trans (congrArg some (by kernel_rfl))
  f243 := Tryz.func105.trans (congrArg some (by kernel_rfl))
  f246 := Tryz.func109.trans (congrArg some (by kernel_rfl))
  f283 := Tryz.func112.trans (congrArg some (by kernel_rfl))
  f284 := Tryz.func113.trans (congrArg some (by kernel_rfl))
  f285 := Tryz.func114.trans (congrArg some (by kernel_rfl))
  f286 := Tryz.func115.trans (congrArg some (by kernel_rfl))
  f317 := Tryz.func117.trans (congrArg some (by kernel_rfl))
  f318 := Tryz.func119.trans (congrArg some (by kernel_rfl))
  f319 := Tryz.func120.trans (congrArg some (by kernel_rfl))
  f320 := Tryz.func121.trans (congrArg some (by kernel_rfl))
  f337 := Tryz.func122.trans (congrArg some (by kernel_rfl))
  f338 := Tryz.func123.trans (congrArg some (by kernel_rfl))
  t0 := Tryz.underlying0
  a0 := Tryz.isAgg0
  z0 := Tryz.sizeOf0
  v0 := Tryz.zeroValue0
  t2 := Tryz.underlying2
  a2 := Tryz.isAgg2
  z2 := Tryz.sizeOf2
  v2 := Tryz.zeroValue2
  t3 := Tryz.underlying3
  a3 := Tryz.isAgg3
  z3 := Tryz.sizeOf3
  v3 := Tryz.zeroValue3
  t4 := Tryz.underlying4
  a4 := Tryz.isAgg4
  z4 := Tryz.sizeOf4
  v4 := Tryz.zeroValue4
  t5 := Tryz.underlying5
  a5 := Tryz.isAgg5
  z5 := Tryz.sizeOf5
  v5 := Tryz.zeroValue5
  t9 := Tryz.underlying9
  a9 := Tryz.isAgg9
  z9 := Tryz.sizeOf9
  v9 := Tryz.zeroValue9
  t20 := Tryz.underlying20
  a20 := Tryz.isAgg20
  z20 := Tryz.sizeOf20
  v20 := Tryz.zeroValue20
  t37 := Tryz.underlying58
  a37 := Tryz.isAgg58
  z37 := Tryz.sizeOf58
  v37 := Tryz.zeroValue58
  t46 := Tryz.underlying213
  a46 := Tryz.isAgg213
  z46 := Tryz.sizeOf213
  v46 := Tryz.zeroValue213
  t51 := Tryz.underlying147
  a51 := Tryz.isAgg147
  z51 := Tryz.sizeOf147
  v51 := Tryz.zeroValue147
  t53 := Tryz.underlying218
  a53 := Tryz.isAgg218
  z53 := Tryz.sizeOf218
  v53 := Tryz.zeroValue218
  t171 := Tryz.underlying217
  a171 := Tryz.isAgg217
  z171 := Tryz.sizeOf217
  v171 := Tryz.zeroValue217
  t173 := Tryz.underlying221
  a173 := Tryz.isAgg221
  z173 := Tryz.sizeOf221
  v173 := Tryz.zeroValue221
  t212 := Tryz.underlying226
  a212 := Tryz.isAgg226
  z212 := Tryz.sizeOf226
  v212 := Tryz.zeroValue226
  t213 := Tryz.underlying227
  a213 := Tryz.isAgg227
  z213 := Tryz.sizeOf227
  t232 := Tryz.underlying230
  a232 := Tryz.isAgg230
  z232 := Tryz.sizeOf230
  v232 := Tryz.zeroValue230
  t233 := Tryz.underlying231
  a233 := Tryz.isAgg231
  z233 := Tryz.sizeOf231
  v233 := Tryz.zeroValue231
  g17 := by kernel_rfl
  g18 := by kernel_rfl
  g19 := by kernel_rfl
  i0 := by kernel_rfl
  i2 := by kernel_rfl
  i3 := by kernel_rfl
  i4 := by kernel_rfl
  i5 := by kernel_rfl
  i9 := by kernel_rfl
  i20 := by kernel_rfl
  i37 := by kernel_rfl
  i46 := by kernel_rfl
  i51 := by kernel_rfl
  i53 := by kernel_rfl
  i171 := by kernel_rfl
  i173 := by kernel_rfl
  i212 := by kernel_rfl
  i232 := by kernel_rfl
  i233 := by kernel_rfl
  m17 := by kernel_rfl
  m18 := by kernel_rfl
  m19 := by kernel_rfl }
open Go.RowKit Go.Sort Go.Lib in
/-- strconv.Itoa: "Itoa is equivalent to FormatInt(int64(i), 10).": i's DECIMAL NUMERAL ('Lib.itoa': a '-' where i is negative, then the digits), FOR EVERY int. The world behind the call: the world before it, new blocks behind the heap (the library's 'var a [24]byte'), draws. (LAID: no walk: one application.) -/
theorem Tryz.strconv_Itoa (n : Int) (h0 : -9223372036854775808 ≤ n) (h1 : n ≤ 9223372036854775807) (w : World) (htab : Lib.TabIs Tryz.prog w "internal/strconv.uint64pow10" .u64 Lib.pow10Tab) :
    Calls Tryz.prog 100 #[.int .i64 n] w fun e w' => e = .returned (.string ⟨(Lib.itoa n).toArray⟩) ∧ ∃ k os, w' = grow (w.drewN k) os := Any.strconv_Itoa Tryz.laysM171 n h0 h1 w htab
end Go.Proofs

/- What mark of lagoonref00 answers; nothing that was there before is changed. -/
namespace Go.Proofs.YtbdokdhconhifaaGreatDoor
open Go.RowKit
set_option maxRecDepth 8000

/-- The table that strconv's numerals read. -/
abbrev Tab (w : World) : Prop := Lib.TabIs Tryz.prog w "internal/strconv.uint64pow10" .u64 Lib.pow10Tab

theorem tab_global : Tryz.prog.globalNamed "internal/strconv.uint64pow10" = some 1 := by kernel_rfl

theorem Tab.below {B : Nat} {w w' : World} (h : Tab w) (hb : Below B w w') (hB : 1 < B) : Tab w' := var?_below hb tab_global hB h

theorem decDigits_len (u : Nat) : (Lib.decDigits u).length ≤ u / 10 + 2 := by
  induction u using Nat.strongRecOn with
  | _ u ih =>
    rw [Lib.decDigits]
    by_cases h : u < 10
    · rw [dif_pos h]; simp
    · rw [dif_neg h]
      have := ih (u / 10) (by omega)
      simp
      omega

theorem itoa_len (n : Int) (h0 : -9223372036854775808 ≤ n) (h1 : n ≤ 9223372036854775807) : (⟨(Lib.itoa n).toArray⟩ : ByteArray).size ≤ 9000000000000000000 := by
  show (Lib.itoa n).toArray.size ≤ _
  rw [List.size_toArray]
  unfold Lib.itoa
  by_cases h : n < 0
  · rw [if_pos h]
    have := decDigits_len n.natAbs
    simp
    omega
  · rw [if_neg h]
    have := decDigits_len n.toNat
    omega

/-- The text that mark makes of a number. -/
def markS (n : Int) : ByteArray := (⟨#[33]⟩ : ByteArray) ++ (⟨(Lib.itoa n).toArray⟩ : ByteArray)

set_option maxHeartbeats 400000 in
theorem mark_is (n : Int) (w : World) (h0 : -9223372036854775808 ≤ n) (h1 : n ≤ 9223372036854775807) (ht : Tab w) :
    Calls Tryz.prog 75 #[.int .i64 n] w fun e w' => e = .returned (.string (markS n)) ∧ Below w.heap.size w w' := by
  have HT : Hid (Tab w) := ht
  clear ht
  have hs := fun w => run_string_add_sum (P := Tryz.prog) w (⟨#[33]⟩ : ByteArray) (⟨(Lib.itoa n).toArray⟩ : ByteArray) (by have := itoa_len n h0 h1; show 1 + _ ≤ _; omega)
  go_enter Tryz.func75, Tryz.ntmps75
  go_wp2_with fail
  refine (Tryz.strconv_Itoa n h0 h1 _ HT.out).mono ?_
  rintro e w1 ⟨rfl, k, os, hw1⟩
  have HB : Hid (Below w.heap.size w w1) := by rw [hw1]; exact ⟨rfl, rfl, rfl, by simp [Sort.grow], fun i hi => by show (w.heap ++ os)[i]? = _; rw [Array.getElem?_append_left hi]⟩
  clear hw1
  go_wp2
  go_ret
  exact ⟨rfl, HB.out⟩


theorem markS_len (n : Int) (h0 : -2001000 ≤ n) (h1 : n ≤ 0) : (markS n).size ≤ 210000 := by
  unfold markS
  rw [ByteArray.size_append]
  show 1 + (Lib.itoa n).toArray.size ≤ _
  rw [List.size_toArray]
  unfold Lib.itoa
  by_cases h : n < 0
  · rw [if_pos h]
    have := decDigits_len n.natAbs
    simp
    omega
  · rw [if_neg h]
    have := decDigits_len n.toNat
    omega

end Go.Proofs.YtbdokdhconhifaaGreatDoor

/- The tables of strconv beside rows of memory: what grownX and apartX of lagoonref00 share where the marks are texts. -/
namespace Go.Proofs.YtbdokdhconhifaaGreatDoor
open Go.RowKit Go.Shelf
set_option maxRecDepth 8000

theorem tab_same {w w' : World} (h : Tab w) (he : w'.heap[1]? = w.heap[1]?) : Tab w' := by
  unfold Tab Lib.TabIs World.var? at h ⊢
  rw [tab_global] at h ⊢
  simp only [Option.bind_some] at h ⊢
  rw [he]
  exact h

end Go.Proofs.YtbdokdhconhifaaGreatDoor
