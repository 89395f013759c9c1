/- What the Reader's calls of package pack do: what is answered, what is left, and the fault. -/
import Derived.Test.YtljghfglabgckaaDoorRawJ
import Derived.Test.YtljghfglabgckaaDoorZxJ
import Derived.Laws.Externs
import Derived.WalkLawsBesides
import Derived.Laws.BytesArg
import Derived.Test.YtljghfglabgckaaDoorChk5J
import Derived.Test.YtljghfglabgckaaDoorRqLJ
import Derived.Test.YtljghfglabgckaaDoorWkChkJ
namespace Go.Proofs.YtljghfglabgckaaDoor
open Go.RowKit
set_option maxRecDepth 8000

section
variable {w : World} {g : Nat} {v : Value} {xs : List Int} {f : Int}
theorem sees_shape (h : Sees w v xs) : ∃ ao n c, v = .slice ao n c := by
  obtain ⟨ao, cap, rfl, _⟩ := h
  exact ⟨_, _, _, rfl⟩

/-- A slice that is seen stays so while a block changes in which it has no byte. -/
theorem Sees.set (h : Sees w v xs) (a : Addr) (u : Value) (hn : xs ≠ [] → v.ownBlock ≠ some a.block) : Sees (w.setCell a u) v xs := by
  obtain ⟨ao, cap, rfl, g1, g2, g0, g3⟩ := h
  refine ⟨ao, cap, rfl, g1, g2, g0, ?_⟩
  by_cases hx : xs = []
  · exact .inl hx
  · rcases g3 with g3 | ⟨b, off, rfl, g3⟩
    · exact .inl g3
    · refine .inr ⟨b, off, rfl, fun i hi => ?_⟩
      have hb : b ≠ a.block := fun e => hn hx (by simp [Value.ownBlock, e])
      rw [World.cell?_of_block (w := w) (w' := w.setCell a u) (Below.heap_setCell w a u b hb)]
      exact g3 i hi

end
theorem sees_take {w : World} {ao : Option Addr} {xs : List Int} {cap n : Nat} (h : Sees w (.slice ao xs.length cap) xs) (hn : n ≤ xs.length) : Sees w (.slice ao n n) (xs.take n) := by
  obtain ⟨ao', cap', e, g1, g2, g0, g3⟩ := h
  simp at e
  obtain ⟨rfl, rfl⟩ := e
  have hl : (xs.take n).length = n := by simp; omega
  refine ⟨ao, n, by rw [hl], by omega, by omega, fun e => by have := g0 e; omega, ?_⟩
  by_cases hx : n = 0
  · subst hx; exact .inl (by simp)
  · rcases g3 with g3 | ⟨b, off, rfl, g3⟩
    · subst g3; exact .inl (by simp)
    · refine .inr ⟨b, off, rfl, fun i hi => ?_⟩
      rw [g3 i (by omega)]
      have : i < n := by omega
      simp [List.getD_eq_getElem?_getD, this]

/-- What is left of a slice behind its first n bytes, as Go cuts it. -/
def cutFrom (v : Value) (n : Nat) : Value := match v with
  | .slice ao l c => if c = n then .slice ao (l - n) 0 else .slice (ao.map (·.add n)) (l - n) (c - n)
  | u => u

theorem addr_add (b off n : Nat) : (⟨b, off, none⟩ : Addr).add n = ⟨b, off + n, none⟩ := by
  by_cases h : n = 0
  · subst h; simp [Addr.add]
  · simp [Addr.add, h]

theorem sees_drop {w : World} {ao : Option Addr} {xs : List Int} {cap n : Nat} (h : Sees w (.slice ao xs.length cap) xs) (hn : n ≤ xs.length) : Sees w (cutFrom (.slice ao xs.length cap) n) (xs.drop n) := by
  obtain ⟨ao', cap', e, g1, g2, g0, g3⟩ := h
  simp at e
  obtain ⟨rfl, rfl⟩ := e
  have hl : (xs.drop n).length = xs.length - n := by simp
  unfold cutFrom
  simp only
  by_cases hc : cap = n
  · rw [if_pos hc]
    have : xs.drop n = [] := List.eq_nil_of_length_eq_zero (by omega)
    exact ⟨ao, 0, by rw [hl], by omega, by unfold maxLen; omega, fun _ => rfl, .inl this⟩
  · rw [if_neg hc]
    refine ⟨_, cap - n, by rw [hl], by omega, by omega, fun e => ?_, ?_⟩
    · cases ao with
      | none => have := g0 rfl; omega
      | some a => simp at e
    · rcases g3 with g3 | ⟨b, off, rfl, g3⟩
      · subst g3; exact .inl (by simp)
      · refine .inr ⟨b, off + n, by simp [addr_add], fun i hi => ?_⟩
        have := g3 (n + i) (by omega)
        rw [Nat.add_assoc, this]
        simp [List.getD_eq_getElem?_getD]

theorem cutFrom_block {ao : Option Addr} {l c n k : Nat} (h : (cutFrom (.slice ao l c) n).ownBlock = some k) : (Value.slice ao l c).ownBlock = some k := by
  unfold cutFrom at h
  simp only at h
  by_cases hc : c = n
  · rw [if_pos hc] at h
    cases ao with
    | none => simp [Value.ownBlock] at h
    | some a => simpa [Value.ownBlock] using h
  · rw [if_neg hc] at h
    cases ao with
    | none => simp [Value.ownBlock] at h
    | some a =>
      obtain ⟨b, off, sp⟩ := a
      simp [Value.ownBlock, Addr.add] at h ⊢
      by_cases hn : n = 0
      · simpa [hn] using h
      · simpa [hn] using h

/-- A Reader's state behind a call. -/
structure Rd where
  out : Int
  rest : List Int
  fault : Int

/-- n bytes as a number: by the document. -/
def rdNum (n : Nat) (xs : List Int) (f : Int) : Rd :=
  if f ≠ 0 then ⟨0, xs, f⟩ else if xs.length < n then ⟨0, xs, 10⟩ else ⟨num (xs.take n), xs.drop n, 0⟩

theorem sees_nil (w : World) : Sees w (.slice none 0 0) [] := ⟨none, 0, rfl, Nat.le_refl _, by unfold maxLen; omega, fun _ => rfl, .inl rfl⟩

/-- A number of 32 bits as an int32. -/
def down32 (n : Int) : Int := wrap32 n
theorem down32_is (n : Int) (h0 : 0 ≤ n) (h1 : n < 4294967296) : down32 n = if n ≤ 2147483647 then n else n - 4294967296 := by
  unfold down32 wrap32; split <;> omega

theorem rdNum_bd (n : Nat) (xs : List Int) (f : Int) (hb : Byts xs) : 0 ≤ (rdNum n xs f).out ∧ (rdNum n xs f).out < 256 ^ n := by
  have h0 : (0 : Int) < 256 ^ n := Int.pow_pos (by decide)
  unfold rdNum
  by_cases hf : f ≠ 0
  · rw [if_pos hf]; exact ⟨Int.le_refl _, h0⟩
  · rw [if_neg hf]
    by_cases hl : xs.length < n
    · rw [if_pos hl]; exact ⟨Int.le_refl _, h0⟩
    · rw [if_neg hl]; exact num_bd xs hb n (by omega)

theorem sees_first {w : World} {ao : Option Addr} {n c : Nat} {xs : List Int} (h : Sees w (.slice ao n c) (xs.take n)) (hn : 0 < n ∧ 0 < xs.length) : ∃ b off, ao = some ⟨b, off, none⟩ ∧ w.cell? ⟨b, off, none⟩ = some (.int .u8 (xs.getD 0 0)) := by
  obtain ⟨ao', cap, e, _, _, _, h3⟩ := h
  simp at e
  obtain ⟨rfl, _, _⟩ := e
  rcases h3 with h3 | ⟨b, off, rfl, h3⟩
  · have : (xs.take n).length = 0 := by rw [h3]; rfl
    rw [List.length_take] at this
    omega
  · refine ⟨b, off, rfl, ?_⟩
    have := h3 0 (by simp; omega)
    rw [Nat.add_zero] at this
    rw [this]
    have hn' : 0 < n := hn.1
    simp [List.getD_eq_getElem?_getD, hn']

end Go.Proofs.YtljghfglabgckaaDoor

/- What the Reader's size does: it looks at a length, or at a count, and stays ahead of it; the fault where it may not be. -/
namespace Go.Proofs.YtljghfglabgckaaDoor
open Go.RowKit
set_option maxRecDepth 8000

/-- The count that stands ahead: the first four bytes as an int32. -/
def ahead (xs : List Int) : Int := wrap32 (num (xs.take 4))

theorem wrap32_bd (n : Int) : -2147483648 ≤ wrap32 n ∧ wrap32 n ≤ 2147483647 := by unfold wrap32; omega

section
variable (g : Nat) (v : Value) (xs : List Int) (most : Int) (w : World)

end
end Go.Proofs.YtljghfglabgckaaDoor

/- What the rest of the Reader's calls do: Bool, Int8, Uint32, Int64, Float, Buffer, Raw, Fail and End. -/
namespace Go.Proofs.YtljghfglabgckaaDoor
open Go.RowKit
set_option maxRecDepth 8000

section
variable (g : Nat) (v : Value) (xs : List Int) (f : Int) (w : World)

/-- A truth: by the document. -/
def rdBool (xs : List Int) (f : Int) : Rd :=
  if f ≠ 0 then ⟨0, xs, f⟩ else if xs.length < 1 then ⟨0, xs, 10⟩ else if 1 < xs.getD 0 0 then ⟨0, xs, 12⟩ else ⟨xs.getD 0 0, xs.drop 1, 0⟩

/-- Raw bytes, a buffer: by the document: what is answered, what is left, the fault. -/
def rdRaw (n : Int) (xs : List Int) (f : Int) : List Int × Rd :=
  if f ≠ 0 then ([], ⟨0, xs, f⟩) else if n < 0 then ([], ⟨0, xs, 11⟩) else if (xs.length : Int) < n then ([], ⟨0, xs, 10⟩) else (xs.take n.toNat, ⟨0, xs.drop n.toNat, 0⟩)

/-- A slice that a Reader answers: it leads to the bytes; it has no spare room; it lies in the Reader's own row, or nowhere. -/
def Cut (w : World) (v u : Value) (ys : List Int) : Prop := Sees w u ys ∧ (∃ ao, u = .slice ao ys.length ys.length) ∧ ∀ k, u.ownBlock = some k → v.ownBlock = some k

theorem cut_nil (w : World) (v : Value) : Cut w v (.slice none 0 0) [] := ⟨sees_nil w, ⟨none, rfl⟩, fun k hk => by simp [Value.ownBlock] at hk⟩

/-- A buffer, a text: by the document. -/
def rdBuf (most : Int) (xs : List Int) (f : Int) : List Int × Rd :=
  if f ≠ 0 then ([], ⟨0, xs, f⟩) else if xs.length < 4 then ([], ⟨0, xs, 10⟩) else if ahead xs < 0 ∨ most < ahead xs then ([], ⟨0, xs, 11⟩)
  else if (xs.length : Int) - 4 < ahead xs then ([], ⟨0, xs, 10⟩) else ((xs.drop 4).take (ahead xs).toNat, ⟨0, (xs.drop 4).drop (ahead xs).toNat, 0⟩)

end
end Go.Proofs.YtljghfglabgckaaDoor
/- What the Reader's Float, Buffer and Text do. -/
namespace Go.Proofs.YtljghfglabgckaaDoor
open Go.RowKit
set_option maxRecDepth 8000

/-- A float: by the document: its word. -/
def rdFloat (xs : List Int) (f : Int) : Rd :=
  if f ≠ 0 then ⟨0, xs, f⟩ else if xs.length < 8 then ⟨0, xs, 10⟩
  else if 9218868437227405312 < (num (xs.take 8)).toNat % 9223372036854775808 ∧ num (xs.take 8) ≠ 9221120237041090560 then ⟨0, xs, 12⟩ else ⟨num (xs.take 8), xs.drop 8, 0⟩

section
variable (g : Nat) (v : Value) (xs : List Int) (f : Int) (w : World)

theorem run_text (w : World) (u : Value) (ys : List Int) (h : Sees w u ys) : (convert 42 9 u).run Tryd.prog w = .ok (.string (strOfNums ys)) w := by
  obtain ⟨ao, cap, rfl, _, _, _, h3⟩ := h
  rcases h3 with rfl | ⟨b, off, rfl, h3⟩
  · cases ao with
    | none => exact run_convert_bytes_nil w 42 5 Tryd.underlying42 Tryd.underlying5 _ _ _ Tryd.underlying9
    | some a =>
      rw [run_convert_bytes_string w 42 9 5 _ _ _ Tryd.underlying42 Tryd.underlying5 Tryd.underlying9]
      have hl : (loadCells a 0).run Tryd.prog w = .ok #[] w := by simp [loadCells, loadCellsFrom]
      simp [Conv.bytesToString, strOfNums, hl]
      rfl
  · exact run_convert_bytes_arg w 42 5 Tryd.underlying42 Tryd.underlying5 b off ys.length cap ys rfl h3 _ Tryd.underlying9

end
end Go.Proofs.YtljghfglabgckaaDoor
/- What get of package txn reads of a Delete without ids. -/
namespace Go.Proofs.YtljghfglabgckaaDoor
open Go.RowKit
set_option maxRecDepth 8000

abbrev rq0 (k : Int) (s : ByteArray) (ver ses : Int) : Array Value := #[.int .i8 k, .string s, .slice none 0 0, .slice none 0 0, .int .i32 ver, .bool false, .bool false, .int .i64 ses, .int .i32 0, .slice none 0 0, .slice none 0 0]

theorem Nam.kept {w w' : World} {S : Nat → Prop} (h : Nam w) (hk : Kept w w' S) (hn : ∀ k, k ≤ 0 → ¬ S k) : Nam w' :=
  h.below (B := 0 + 1) ⟨hk.os, hk.tape, hk.output, hk.size, fun k hk' => hk.block k (by have := h.lt; omega) (hn k (by omega))⟩ (by omega)

/-- The bytes of works' request. -/
def wkB : List Int := [2, 0, 0, 0, 2, 47, 97, 255, 255, 255, 255, 0, 0, 0, 0, 0, 0, 0, 0, 0, 0, 0, 0]
def pathA : ByteArray := ⟨#[47, 97]⟩

theorem wk1 : rdNum 1 wkB 0 = ⟨2, wkB.drop 1, 0⟩ := by simp [rdNum, num, wkB]
theorem wk2 : rdBuf 64 (wkB.drop 1) 0 = ([47, 97], ⟨0, wkB.drop 7, 0⟩) := by simp [rdBuf, ahead, wrap32, num, wkB]
theorem wk3 : rdNum 4 (wkB.drop 7) 0 = ⟨4294967295, wkB.drop 11, 0⟩ := by simp [rdNum, num, wkB]
theorem wk4 : rdNum 8 (wkB.drop 11) 0 = ⟨0, wkB.drop 19, 0⟩ := by simp [rdNum, num, wkB]
theorem wk5 : ahead (wkB.drop 19) = 0 := by simp [ahead, wrap32, num, wkB]
theorem nms_del' : nms 8 0 2 = 329 := by decide
theorem wk0 : IntKind.i8.wrap 2 = 2 := by decide
theorem wk6 : down32 4294967295 = -1 := by rw [down32_is _ (by omega) (by omega)]; simp
theorem wk7 : wrap64 0 = 0 := by unfold wrap64; omega
theorem wkByts (k : Nat) : Byts (wkB.drop k) := Byts.drop (fun x hx => by have : wkB.all (fun x => decide (0 ≤ x ∧ x ≤ 255)) = true := by decide
                                                                          have := List.all_eq_true.1 this x hx
                                                                          simpa using this) k
theorem wkS : strOfNums [47, 97] = pathA := by decide

end Go.Proofs.YtljghfglabgckaaDoor
/- What txn.Read answers of the bytes of the transaction that the statements' own first look makes. -/
namespace Go.Proofs.YtljghfglabgckaaDoor
open Go.RowKit
set_option maxRecDepth 8000

section
variable {w W W' : World} {g : Nat} {v : Value} {xs ys : List Int} {t : Nat} {cs : Array Value}

end
theorem ra1 : rdNum 4 wkAll 0 = ⟨1, wkAll.drop 4, 0⟩ := by simp [rdNum, num, wkAll]
theorem ra2 : rdNum 4 (wkAll.drop 4) 0 = ⟨2, wkAll.drop 8, 0⟩ := by simp [rdNum, num, wkAll]
theorem ra3 : rdNum 1 (wkAll.drop 8) 0 = ⟨3, wkAll.drop 9, 0⟩ := by simp [rdNum, num, wkAll]
theorem ra4 : rdNum 4 (wkAll.drop 9) 0 = ⟨4, wkAll.drop 13, 0⟩ := by simp [rdNum, num, wkAll]
theorem ra5 : rdNum 8 (wkAll.drop 13) 0 = ⟨5, wkAll.drop 21, 0⟩ := by simp [rdNum, num, wkAll]
theorem ra6 : wkAll.drop 21 = wkB := by rfl
theorem ra3' : IntKind.i8.wrap 3 = 3 := by decide
theorem ra5' : wrap64 5 = 5 := by unfold wrap64; omega
theorem raByts (k : Nat) : Byts (wkAll.drop k) := Byts.drop (fun x hx => by
  have : wkAll.all (fun x => decide (0 ≤ x ∧ x ≤ 255)) = true := by decide
  have := List.all_eq_true.1 this x hx
  simpa using this) k
theorem pathAW : pathA = pathW := rfl

end Go.Proofs.YtljghfglabgckaaDoor