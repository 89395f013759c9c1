/- What the rest of the Reader's calls do: Bool, Int8, Uint32, Int64, Float, Buffer, Raw, Fail and End. -/
import Derived.Test.YtabkjcgcnimoaaaDoorSize
import Derived.Test.YtabkjcgcnimoaaaDoorDbl3
import Derived.Laws.Externs
import Derived.WalkLawsBesides
namespace Go.Proofs.YtabkjcgcnimoaaaDoor
open Go.RowKit
set_option maxRecDepth 8000

section
variable (g : Nat) (v : Value) (xs : List Int) (f : Int) (w : World)

set_option maxHeartbeats 400000 in
theorem rUint32_any (h : IsR w g v xs f) (hb : Byts xs) :
    Calls Tryd.prog 49 #[.pointer (some ⟨g, 0, none⟩)] w fun e w' => e = .returned (.int .u32 (rdNum 4 xs f).out) ∧ ReadsTo w g v (rdNum 4 xs f) w' := by
  have hbd := rdNum_bd 4 xs f hb
  have h4 : (256 : Int) ^ 4 = 4294967296 := by decide
  rw [h4] at hbd
  have b1 := hbd.1
  have b2 := hbd.2
  have H : Hid (IsR w g v xs f ∧ Byts xs) := ⟨h, hb⟩
  clear h hb h4 hbd
  go_enter Tryd.func49, Tryd.ntmps49
  go_wp2_with fail
  refine (rNumber_any g v xs f 4 _ H.out.1 H.out.2 (by omega)).mono ?_
  rintro e w1 ⟨rfl, hr⟩
  have HR : Hid (ReadsTo w g v (rdNum 4 xs f) w1) := hr
  clear hr
  go_wp2
  go_ret
  exact ⟨rfl, HR.out⟩

/-- A truth: by the document. -/
def rdBool (xs : List Int) (f : Int) : Rd :=
  if f ≠ 0 then ⟨0, xs, f⟩ else if xs.length < 1 then ⟨0, xs, 10⟩ else if 1 < xs.getD 0 0 then ⟨0, xs, 12⟩ else ⟨xs.getD 0 0, xs.drop 1, 0⟩

/-- Raw bytes, a buffer: by the document: what is answered, what is left, the fault. -/
def rdRaw (n : Int) (xs : List Int) (f : Int) : List Int × Rd :=
  if f ≠ 0 then ([], ⟨0, xs, f⟩) else if n < 0 then ([], ⟨0, xs, 11⟩) else if (xs.length : Int) < n then ([], ⟨0, xs, 10⟩) else (xs.take n.toNat, ⟨0, xs.drop n.toNat, 0⟩)

/-- A slice that a Reader answers: it leads to the bytes; it has no spare room; it lies in the Reader's own row, or nowhere. -/
def Cut (w : World) (v u : Value) (ys : List Int) : Prop := Sees w u ys ∧ (∃ ao, u = .slice ao ys.length ys.length) ∧ ∀ k, u.ownBlock = some k → v.ownBlock = some k

theorem cut_nil (w : World) (v : Value) : Cut w v (.slice none 0 0) [] := ⟨sees_nil w, ⟨none, rfl⟩, fun k hk => by simp [Value.ownBlock] at hk⟩

set_option maxHeartbeats 400000 in
theorem rTake_any (n : Int) (h : IsR w g v xs f) :
    Calls Tryd.prog 77 #[.pointer (some ⟨g, 0, none⟩), .int .i64 n] w fun e w' => ∃ u, e = .returned u ∧ Cut w' v u (rdRaw n xs f).1 ∧ ReadsTo w g v (rdRaw n xs f).2 w' := by
  by_cases hf : f = 0
  · subst hf
    by_cases hn : n < 0
    · have e1 : rdRaw n xs 0 = ([], ⟨0, xs, 11⟩) := by unfold rdRaw; rw [if_neg (by simp), if_pos hn]
      rw [e1]
      refine (rTake_neg g v xs n w h hn).mono ?_
      rintro e w1 ⟨rfl, rfl⟩
      exact ⟨_, rfl, cut_nil _ _, ReadsTo.fail h 11⟩
    · obtain ⟨k, rfl⟩ := Int.eq_ofNat_of_zero_le (show 0 ≤ n by omega)
      by_cases hl : (xs.length : Int) < k
      · have e1 : rdRaw k xs 0 = ([], ⟨0, xs, 10⟩) := by unfold rdRaw; rw [if_neg (by simp), if_neg hn, if_pos hl]
        rw [e1]
        refine (rTake_short g v xs k w h (by omega)).mono ?_
        rintro e w1 ⟨rfl, rfl⟩
        exact ⟨_, rfl, cut_nil _ _, ReadsTo.fail h 10⟩
      · have e1 : rdRaw k xs 0 = (xs.take k, ⟨0, xs.drop k, 0⟩) := by unfold rdRaw; rw [if_neg (by simp), if_neg hn, if_neg hl, Int.toNat_natCast]
        rw [e1]
        refine (rTake_ok g v xs k w h (by omega)).mono ?_
        rintro e w1 ⟨ao, rfl, hs, ⟨l, c, hv⟩, rfl⟩
        have hlen : (xs.take k).length = k := by simp; omega
        refine ⟨_, rfl, ⟨hs.set _ _ (fun hx e => ?_), ⟨ao, by rw [hlen]⟩, fun j hj => ?_⟩, ReadsTo.skip h (by omega)⟩
        · have := h.apart (fun e2 => hx (by rw [e2]; simp))
          rw [hv] at this
          cases ao with
          | none => simp [Value.ownBlock] at e
          | some a => exact this (by simpa [Value.ownBlock] using e)
        · rw [hv]
          cases ao with
          | none => simp [Value.ownBlock] at hj
          | some a => simpa [Value.ownBlock] using hj
  · have e1 : rdRaw n xs f = ([], ⟨0, xs, f⟩) := by unfold rdRaw; rw [if_pos hf]
    rw [e1]
    refine (rTake_fault g v xs n f w h hf).mono ?_
    rintro e w1 ⟨rfl, rfl⟩
    exact ⟨_, rfl, cut_nil _ _, ReadsTo.stay h⟩

/-- A buffer, a text: by the document. -/
def rdBuf (most : Int) (xs : List Int) (f : Int) : List Int × Rd :=
  if f ≠ 0 then ([], ⟨0, xs, f⟩) else if xs.length < 4 then ([], ⟨0, xs, 10⟩) else if ahead xs < 0 ∨ most < ahead xs then ([], ⟨0, xs, 11⟩)
  else if (xs.length : Int) - 4 < ahead xs then ([], ⟨0, xs, 10⟩) else ((xs.drop 4).take (ahead xs).toNat, ⟨0, (xs.drop 4).drop (ahead xs).toNat, 0⟩)

end
end Go.Proofs.YtabkjcgcnimoaaaDoor