/- What a disk tells of its files: their names, an image of all of them. -/
import Derived.Test.YtiakjeomedijkaaGreatDoorDkLJ
import Derived.Deep.MidRow
namespace Go.Proofs.YtiakjeomedijkaaGreatDoor
open Go.RowKit Go.Shelf
set_option maxRecDepth 8000

theorem Tryz.fileSz : (Tryz.prog.info? 164).map (·.size) = some 3 := by kernel_rfl
theorem Tryz.infoFile : (Tryz.prog.info? 164).map (fun i => (i.zero, i.size, i.bytes)) = some (some (.agg #[.string ⟨#[]⟩, .slice none 0 0, .int .i64 0]), 3, 48) := by kernel_rfl
theorem Tryz.infoStrD : (Tryz.prog.info? 9).map (fun i => (i.zero, i.size, i.bytes)) = some (some (.string ⟨#[]⟩), 1, 16) := by kernel_rfl

abbrev fiC (f : FiD) (u : Value) : List Value := [.string f.name, u, .int .i64 f.dur]
def imgC (fs : List FiD) (vs : List Value) : List Value := (List.zipWith fiC fs vs).flatten

/-- A list of files in memory of its own. -/
structure ImgAt (w : World) (B : Nat) (v : Value) (fs : List FiD) (vs : List Value) : Prop where
  len : vs.length = fs.length
  own : w.ownsRow B 164 3 v fs.length (imgC fs vs)
  bys : ∀ (i : Nat) u f, vs[i]? = some u → fs[i]? = some f → Owns w B u f.bytes

theorem imgC_len (fs : List FiD) (vs : List Value) (h : vs.length = fs.length) : (imgC fs vs).length = fs.length * 3 := by
  unfold imgC
  induction fs generalizing vs with
  | nil => cases vs <;> simp
  | cons f fs ih =>
    cases vs with
    | nil => simp at h
    | cons u vs =>
      simp only [List.zipWith_cons_cons, List.flatten_cons, List.length_append]
      rw [ih vs (by simpa using h)]
      simp
      omega

theorem imgC_snoc (fs : List FiD) (vs : List Value) (h : vs.length = fs.length) (f : FiD) (u : Value) : imgC (fs ++ [f]) (vs ++ [u]) = imgC fs vs ++ fiC f u := by
  unfold imgC
  rw [List.zipWith_append (by omega)]
  simp

theorem set3_take (l : List Value) (o : Nat) (a b c : Value) (h : o + 3 ≤ l.length) : (((l.set o a).set (o + 1) b).set (o + 1 + 1) c).take (o + 3) = l.take o ++ [a, b, c] := by
  apply List.ext_getElem?
  intro j
  rw [List.getElem?_take]
  by_cases h0 : j < o
  · rw [if_pos (by omega), List.getElem?_append_left (by simp; omega), List.getElem?_take, if_pos h0, List.getElem?_set, if_neg (by omega), List.getElem?_set, if_neg (by omega), List.getElem?_set, if_neg (by omega)]
  · rw [List.getElem?_append_right (by simp; omega)]
    have hl : (l.take o).length = o := by simp; omega
    rw [hl]
    by_cases h1 : j = o
    · subst h1
      rw [if_pos (by omega), List.getElem?_set, if_neg (by omega), List.getElem?_set, if_neg (by omega), List.getElem?_set, if_pos rfl, if_pos (by omega), Nat.sub_self]
      rfl
    · by_cases h2 : j = o + 1
      · subst h2
        rw [if_pos (by omega), List.getElem?_set, if_neg (by omega), List.getElem?_set, if_pos rfl, if_pos (by simp; omega), show o + 1 - o = 1 by omega]
        rfl
      · by_cases h3 : j = o + 1 + 1
        · subst h3
          rw [if_pos (by omega), List.getElem?_set, if_pos rfl, if_pos (by simp; omega), show o + 1 + 1 - o = 2 by omega]
          rfl
        · rw [if_neg (by omega), List.getElem?_eq_none (by simp; omega)]

end Go.Proofs.YtiakjeomedijkaaGreatDoor