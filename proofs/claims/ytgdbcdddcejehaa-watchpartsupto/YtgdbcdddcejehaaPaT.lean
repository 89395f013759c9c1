/- What path's isName, ahead, split, Parent, Base and Join answer. -/
import Derived.Test.YtgdbcdddcejehaaPaE
namespace Go.Proofs.Ytgdbcdddcejehaa
open Go.RowKit Go.Shelf
set_option maxRecDepth 8000

theorem app_list (a b : ByteArray) : (a ++ b).data.toList = a.data.toList ++ b.data.toList := by
  rw [ByteArray.data_append, Array.toList_append]

theorem app_size (a b : ByteArray) : (a ++ b).size = a.size + b.size := by
  rw [size_list, app_list, List.length_append, ← size_list, ← size_list]

theorem list_bytes (l : Bs) : (⟨l.toArray⟩ : ByteArray).data.toList = l := rfl

theorem eq_of_list {a b : ByteArray} (h : a.data.toList = b.data.toList) : a = b := by
  cases a; cases b; simp at h; simp [h]

/-- A name. -/
def nmB (l : Bs) : Bool := decide (nf l = none) && decide (rf l = none) && decide ((47 : UInt8) ∉ l)

theorem nmB_iff (l : Bs) : nmB l = true ↔ NameOK l ∧ NoSlash l := by
  unfold nmB NameOK NoSlash
  simp only [Bool.and_eq_true, decide_eq_true_eq]

theorem nf_ok {l : Bs} (h : nf l = none) : l ≠ [] ∧ l.length ≤ 24 ∧ l ≠ [46] ∧ l ≠ [46, 46] := by
  unfold nf at h
  split at h
  · simp at h
  · split at h
    · simp at h
    · rename_i h1 h2
      exact ⟨fun e => h2 (.inl e), by omega, fun e => h2 (.inr (.inl e)), fun e => h2 (.inr (.inr e))⟩

theorem isPb_name {l : Bs} (h0 : l ≠ []) (hn : NoSlash l) (hl : l.length ≤ 4294967295) : isPb (47 :: l) = nmB l := by
  rw [Bool.eq_iff_iff, isPb_iff (by simp; omega), nmB_iff]
  constructor
  · rintro (h | ⟨r, e, _, h⟩)
    · simp at h; exact absurd h h0
    · simp only [List.cons.injEq, true_and] at e
      subst e
      exact ⟨h l (by rw [segs_none hn]; simp), hn⟩
  · rintro ⟨h, _⟩
    have := nf_ok h.1
    refine .inr ⟨l, rfl, by simp; omega, fun s hs => ?_⟩
    rw [segs_none hn] at hs
    simp at hs
    subst hs
    exact h

theorem eq_list' (s : ByteArray) (x : Bs) : (s.toList == x) = decide (s.data.toList = x) := by
  rw [toList_eq, Bool.eq_iff_iff]; simp

theorem ahead_any (s : ByteArray) (p : Nat) (h1 : 1 ≤ p) (h2 : p ≤ s.size) (hl : s.size ≤ 4294967296) (w : World) :
    Calls Try.prog 83 #[.string s, .int .i64 (p : Int)] w fun e w' => e = .returned (bytesV (s.data.toList.take (max (p - 1) 1))) ∧ w' = w := by
  have he : ∀ k, bytesV (s.data.toList.take k) = .string (s.extract 0 k) := fun k => by
    unfold bytesV; rw [Lib.extract_eq]; simp
  rw [he]
  by_cases h : 2 ≤ p
  · have hk : max (p - 1) 1 = p - 1 := by omega
    rw [hk]
    obtain ⟨q, rfl⟩ : ∃ q, p = q + 1 := ⟨p - 1, by omega⟩
    have hq : 1 ≤ q := by omega
    clear hk h he
    simp only [Nat.add_sub_cancel]
    have c1 : (q : Int) ≤ s.size := by omega
    go_enter Try.func83, Try.ntmps83
    go_wp2
    go_ret
    exact ⟨rfl, rfl⟩
  · have hk : max (p - 1) 1 = 1 := by omega
    rw [hk]
    obtain rfl : p = 1 := by omega
    clear hk h he
    go_enter Try.func83, Try.ntmps83
    go_wp2
    go_ret
    exact ⟨rfl, rfl⟩

end Go.Proofs.Ytgdbcdddcejehaa
