/- What path's split, Parent, Base and Join answer. -/
import Derived.Test.YtgdbcdddcejehaaPaT
namespace Go.Proofs.Ytgdbcdddcejehaa
open Go.RowKit Go.Shelf
set_option maxRecDepth 8000

/-- A text, parted at its last slash. -/
def cutL : Bs → Option (Bs × Bs)
  | [] => none
  | x :: r => match cutL r with
    | some (a, b) => some (x :: a, b)
    | none => if x = 47 then some ([], r) else none

theorem cutL_none : ∀ {l : Bs}, cutL l = none → NoSlash l
  | [], _ => by simp [NoSlash]
  | x :: r, h => by
    simp only [cutL] at h
    cases hr : cutL r with
    | some ab => rw [hr] at h; simp at h
    | none =>
      rw [hr] at h
      have := cutL_none hr
      simp only at h
      split at h
      · simp at h
      · rename_i hx
        simp only [NoSlash, List.mem_cons, not_or]
        exact ⟨fun e => hx e.symm, this⟩

theorem cutL_some : ∀ {l a b : Bs}, cutL l = some (a, b) → l = a ++ 47 :: b ∧ NoSlash b
  | [], _, _, h => by simp [cutL] at h
  | x :: r, a, b, h => by
    simp only [cutL] at h
    cases hr : cutL r with
    | some ab =>
      obtain ⟨a', b'⟩ := ab
      rw [hr] at h
      simp only [Option.some.injEq, Prod.mk.injEq] at h
      obtain ⟨rfl, rfl⟩ := h
      have := cutL_some hr
      exact ⟨by rw [List.cons_append, ← this.1], this.2⟩
    | none =>
      rw [hr] at h
      simp only at h
      split at h
      · rename_i hx
        simp only [Option.some.injEq, Prod.mk.injEq] at h
        obtain ⟨rfl, rfl⟩ := h
        exact ⟨by rw [hx]; rfl, cutL_none hr⟩
      · simp at h

theorem cutL_free {l : Bs} (h : NoSlash l) : cutL l = none := by
  cases hc : cutL l with
  | none => rfl
  | some ab =>
    obtain ⟨a, b⟩ := ab
    have := (cutL_some hc).1
    exact absurd (by rw [this]; simp) h

theorem cutL_app (b : Bs) (hb : NoSlash b) : ∀ a : Bs, cutL (a ++ 47 :: b) = some (a, b)
  | [] => by simp [cutL, cutL_free hb]
  | x :: a => by simp only [List.cons_append, cutL, cutL_app b hb a]

/-- The path above one. -/
def parL (l : Bs) : Bs := if l = [47] ∨ isPb l = false then [] else match cutL l with | some (a, _) => (if a = [] then [47] else a) | none => []
/-- A path's last name. -/
def basL (l : Bs) : Bs := if l = [47] ∨ isPb l = false then [] else match cutL l with | some (_, b) => b | none => []

theorem isPb_head {l : Bs} (h : isPb l = true) (hl : l.length ≤ 4294967296) : ∃ r, l = 47 :: r := by
  rcases (isPb_iff hl).1 h with rfl | ⟨r, e, _⟩
  · exact ⟨[], rfl⟩
  · exact ⟨r, e⟩

theorem cut_path {l : Bs} (h : isPb l = true) (hl : l.length ≤ 4294967296) : ∃ a b, cutL l = some (a, b) ∧ l = a ++ 47 :: b ∧ NoSlash b := by
  obtain ⟨r, hr⟩ := isPb_head h hl
  cases hc : cutL l with
  | none => exact absurd (by rw [hr]; simp) (cutL_none hc)
  | some ab => exact ⟨ab.1, ab.2, rfl, cutL_some hc⟩

/-- A path and a name below it. -/
def jn (d n : Bs) : Bs := if d = [47] then 47 :: n else d ++ 47 :: n

def joinV (d n : Bs) : Value := .tuple (if isPb d && nmB n && isPb (jn d n) then #[bytesV (jn d n), .int .i64 0] else #[.string ⟨#[]⟩, .int .i64 50])

theorem bytesV_list (s : ByteArray) (l : Bs) (h : s.data.toList = l) : bytesV l = .string s := by
  subst h; unfold bytesV; rw [bytes_self]

end Go.Proofs.Ytgdbcdddcejehaa
