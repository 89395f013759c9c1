/- again of the statements: what was told is what was said. -/
import Derived.Test.YtblgipjipeaemaaGreatDoorPut3J
import Derived.Test.YtblgipjipeaemaaGreatDoorRefBitsJ
import Derived.Test.YtblgipjipeaemaaGreatDoorRzCJ
import Derived.Test.YtblgipjipeaemaaGreatDoorGaBJ
namespace Go.Proofs.YtblgipjipeaemaaGreatDoor
open Ieee
open Go.RowKit (intOf Hid wrap32 wrap64)
set_option maxRecDepth 8000

theorem order_some {x : Nat} (hx : x < 18446744073709551616) (hn : ¬ 9218868437227405312 < x % 9223372036854775808) (h0 : x % 9223372036854775808 ≠ 0) : (FloatKind.f64.format.order x 0 != some .eq) = true := by
  show (double.order x 0 != some .eq) = true
  by_cases hs : x < 9223372036854775808
  · by_cases hi : x = 9218868437227405312
    · subst hi; decide
    · obtain ⟨q, m, hc, hw⟩ := wd_of x (by omega)
      have : double.order x 0 = some .gt := by
        rw [hw, nought_wd]
        exact order_gt hc can_nought (by rw [← hw, ← nought_wd]; omega)
      rw [this]
      rfl
  · by_cases hi : x = 18442240474082181120
    · subst hi; decide
    · obtain ⟨q, m, hc, hw⟩ := wd_of (x - 9223372036854775808) (by omega)
      have hm : m ≠ 0 := by
        intro e
        subst e
        obtain ⟨h1, h2, h3⟩ := hc
        have : q = 0 := by omega
        subst this
        rw [← nought_wd] at hw
        omega
      have e : x = 9223372036854775808 + wd q m := by omega
      have : double.order x 0 = some .lt := by rw [e]; exact order_neg hc hm
      rw [this]
      rfl

theorem eqFloats_back (x : Nat) (hx : x < 18446744073709551616) (w : World) : Calls Tryz.prog 51 #[.float .f64 (bitsOf x), .float .f64 x] w fun e w' => e = .returned (.bool true) ∧ w' = w := by
  by_cases hn : 9218868437227405312 < x % 9223372036854775808
  · have e : bitsOf x = 9221120237041090560 := by unfold bitsOf; rw [if_pos hn]
    rw [e]
    have f1 : (FloatKind.f64.format.order x x != some .eq) = true := by
      show (double.order x x != some .eq) = true
      rw [nan_order x hn]; rfl
    have f2 : (FloatKind.f64.format.order 9221120237041090560 9221120237041090560 != some .eq) = true := by decide
    clear hn e hx
    go_enter Tryz.func51, Tryz.ntmps51
    go_wp2
    go_ret
    exact ⟨rfl, rfl⟩
  · have e : bitsOf x = x := by unfold bitsOf; rw [if_neg hn]
    rw [e]
    have f1 : (FloatKind.f64.format.order x x != some .eq) = false := by
      show (double.order x x != some .eq) = false
      rw [num_order x hn]; rfl
    have f2 : (FloatKind.f64.format.order x x == some .eq) = true := by
      show (double.order x x == some .eq) = true
      rw [num_order x hn]; rfl
    by_cases h0 : x % 9223372036854775808 = 0
    · have hc : x = 0 ∨ x = 9223372036854775808 := by omega
      rcases hc with rfl | rfl
      · have f3 : (FloatKind.f64.format.order 0 0 != some .eq) = false := by decide
        have f4 : (FloatKind.f64.format.order 9218868437227405312 9218868437227405312 == some .eq) = true := by decide
        have hq := fun w => run_float_arith (P := Tryz.prog) w .quo 44 .f64 4607182418800017408 0 9218868437227405312 (by decide)
        clear hn e hx h0
        go_enter Tryz.func51, Tryz.ntmps51
        go_wp2
        go_ret
        exact ⟨rfl, rfl⟩
      · have f3 : (FloatKind.f64.format.order 9223372036854775808 0 != some .eq) = false := by decide
        have f4 : (FloatKind.f64.format.order 18442240474082181120 18442240474082181120 == some .eq) = true := by decide
        have hq := fun w => run_float_arith (P := Tryz.prog) w .quo 44 .f64 4607182418800017408 9223372036854775808 18442240474082181120 (by decide)
        clear hn e hx h0
        go_enter Tryz.func51, Tryz.ntmps51
        go_wp2
        go_ret
        exact ⟨rfl, rfl⟩
    · have f3 := order_some hx hn h0
      clear hn e hx h0
      go_enter Tryz.func51, Tryz.ntmps51
      go_wp2
      go_ret
      exact ⟨rfl, rfl⟩

section
variable (on n m : Int) (b : Bool) (x y : Nat) (s t : ByteArray) (ao ua : Option Addr) (l cap l2 c2 : Nat) (w : World)

end
end Go.Proofs.YtblgipjipeaemaaGreatDoor

/- One form for all kinds of calls: what the program's Reader and the document's tell; two things that were told are the same. -/
namespace Go.Proofs.YtblgipjipeaemaaGreatDoor
open Go.RowKit
set_option maxRecDepth 8000
namespace Rz

/-- What a Reader's call tells, and its two faults where it asks. -/
def ansA (kind n : Int) (xs : List Int) (f : Int) : Ans × Int × Int :=
  if 1 ≤ kind ∧ kind ≤ 9 then (ansOf kind n xs f, 0, 0)
  else if kind = 10 then (⟨false, xs.length, 0, ⟨#[]⟩, [], ⟨0, xs, f⟩⟩, f, if f ≠ 0 then f else if xs = [] then 0 else 13)
  else if kind = 11 then (⟨false, 0, 0, ⟨#[]⟩, [], ⟨0, xs, if f = 0 then n else f⟩⟩, 0, 0)
  else (⟨false, 0, 0, ⟨#[]⟩, [], ⟨0, xs, f⟩⟩, 0, 0)

theorem ansA_in {kind n : Int} {xs : List Int} {f : Int} (h0 : 1 ≤ kind) (h1 : kind ≤ 9) : ansA kind n xs f = (ansOf kind n xs f, 0, 0) := by unfold ansA; rw [if_pos ⟨h0, h1⟩]
theorem ansA_ask {n : Int} {xs : List Int} {f : Int} : ansA 10 n xs f = (⟨false, xs.length, 0, ⟨#[]⟩, [], ⟨0, xs, f⟩⟩, f, if f ≠ 0 then f else if xs = [] then 0 else 13) := rfl
theorem ansA_fail {n : Int} {xs : List Int} {f : Int} : ansA 11 n xs f = (⟨false, 0, 0, ⟨#[]⟩, [], ⟨0, xs, if f = 0 then n else f⟩⟩, 0, 0) := rfl
theorem ansA_else {kind n : Int} {xs : List Int} {f : Int} (h : kind < 1 ∨ 11 < kind) : ansA kind n xs f = (⟨false, 0, 0, ⟨#[]⟩, [], ⟨0, xs, f⟩⟩, 0, 0) := by
  unfold ansA; rw [if_neg (by omega), if_neg (by omega), if_neg (by omega)]

theorem get_every (kind : Int) (g : Nat) (v : Value) (xs : List Int) (f on n : Int) (x : Nat) (s : ByteArray) (ao : Option Addr) (l cap : Nat) (w : World) (h : IsR w g v xs f) (hb : Byts xs) :
    Calls Tryz.prog 19 #[.pointer (some ⟨g, 0, none⟩), opv kind on n x s (.slice ao l cap)] w fun e w' =>
      ∃ u, e = .returned (.agg (told (ansA kind n xs f).1.b (ansA kind n xs f).1.n (ansA kind n xs f).1.x (ansA kind n xs f).1.s u (ansA kind n xs f).2.1 (ansA kind n xs f).2.2)) ∧ Cut w' v u (ansA kind n xs f).1.ys (ansA kind n xs f).1.st.rest ∧ ReadsTo w g v (ansA kind n xs f).1.st w' := by
  by_cases h9 : 1 ≤ kind ∧ kind ≤ 9
  · rw [ansA_in h9.1 h9.2]; exact get_any kind h9.1 h9.2 g v xs f on n x s ao l cap w h hb
  · by_cases h10 : kind = 10
    · subst h10
      rw [ansA_ask]
      exact (get_ask g v xs f on n x s ao l cap w h).mono fun e w' q => ⟨_, q.1, cut_nil _ _ _, q.2⟩
    · by_cases h11 : kind = 11
      · subst h11
        rw [ansA_fail]
        exact (get_fail g v xs f on n x s ao l cap w h).mono fun e w' q => ⟨_, q.1, cut_nil _ _ _, q.2⟩
      · have hk : kind < 1 ∨ 11 < kind := by omega
        rw [ansA_else hk]
        exact (get_else g v xs f on n x s ao l cap w kind hk h).mono fun e w' q => ⟨_, q.1, cut_nil _ _ _, q.2⟩

theorem should_every (kind : Int) (g : Nat) (v : Value) (bs : List Int) (p : Nat) (f on n : Int) (x : Nat) (s : ByteArray) (ao : Option Addr) (l cap : Nat) (w : World) (h : IsQ w g v bs p f) (hb : Byts bs) :
    Calls Tryz.prog 20 #[.pointer (some ⟨g, 0, none⟩), opv kind on n x s (.slice ao l cap)] w fun e w' =>
      ∃ u y, e = .returned (.agg (told (ansA kind n (bs.drop p) f).1.b (ansA kind n (bs.drop p) f).1.n y (ansA kind n (bs.drop p) f).1.s u (ansA kind n (bs.drop p) f).2.1 (ansA kind n (bs.drop p) f).2.2)) ∧ FlOf (ansA kind n (bs.drop p) f).1.x y ∧ Owns w' w.heap.size u (ansA kind n (bs.drop p) f).1.ys ∧ QTo w g v bs (ansA kind n (bs.drop p) f).1.st w' := by
  have hnil : ∀ w' : World, Owns w' w.heap.size (.slice none 0 0) [] := fun w' => World.ownsRow_nil _ _ _ _
  by_cases h9 : 1 ≤ kind ∧ kind ≤ 9
  · rw [ansA_in h9.1 h9.2]
    have hc : kind = 1 ∨ kind = 2 ∨ kind = 3 ∨ kind = 4 ∨ kind = 5 ∨ kind = 6 ∨ kind = 7 ∨ kind = 8 ∨ kind = 9 := by omega
    rcases hc with rfl | rfl | rfl | rfl | rfl | rfl | rfl | rfl | rfl
    · exact (should_bool g v bs p f on n x s ao l cap w h hb).mono fun e w' q => ⟨_, 0, q.1, flOf_nought, hnil _, q.2⟩
    · exact (should_int8 g v bs p f on n x s ao l cap w h hb).mono fun e w' q => ⟨_, 0, q.1, flOf_nought, hnil _, q.2⟩
    · exact (should_int32 g v bs p f on n x s ao l cap w h hb).mono fun e w' q => ⟨_, 0, q.1, flOf_nought, hnil _, q.2⟩
    · exact (should_uint32 g v bs p f on n x s ao l cap w h hb).mono fun e w' q => ⟨_, 0, q.1, flOf_nought, hnil _, q.2⟩
    · exact (should_int64 g v bs p f on n x s ao l cap w h hb).mono fun e w' q => ⟨_, 0, q.1, flOf_nought, hnil _, q.2⟩
    · exact (should_float g v bs p f on n x s ao l cap w h hb).mono fun e w' ⟨y, q1, q2, q3⟩ => ⟨_, y, q1, q2, hnil _, q3⟩
    · exact (should_text g v bs p f on n x s ao l cap w h hb).mono fun e w' q => ⟨_, 0, q.1, flOf_nought, hnil _, q.2⟩
    · exact (should_buffer g v bs p f on n x s ao l cap w h hb).mono fun e w' ⟨u, q1, q2, q3⟩ => ⟨u, 0, q1, flOf_nought, q2, q3⟩
    · exact (should_raw g v bs p f on n x s ao l cap w h hb).mono fun e w' ⟨u, q1, q2, q3⟩ => ⟨u, 0, q1, flOf_nought, q2, q3⟩
  · by_cases h10 : kind = 10
    · subst h10
      rw [ansA_ask]
      exact (should_ask g v bs p f on n x s ao l cap w h).mono fun e w' q => ⟨_, 0, q.1, flOf_nought, hnil _, q.2⟩
    · by_cases h11 : kind = 11
      · subst h11
        rw [ansA_fail]
        exact (should_fail g v bs p f on n x s ao l cap w h).mono fun e w' q => ⟨_, 0, q.1, flOf_nought, hnil _, q.2⟩
      · have hk : kind < 1 ∨ 11 < kind := by omega
        rw [ansA_else hk]
        exact (should_else g v bs p f on n x s ao l cap w kind hk h).mono fun e w' q => ⟨_, 0, q.1, flOf_nought, hnil _, q.2⟩

end Rz

open Ieee in
/-- EqFloats of a word and of what the document's Float may answer for it. -/
theorem eqFloats_fl (x y : Nat) (hx : x < 18446744073709551616) (h : FlOf x y) (w : World) : Calls Tryz.prog 51 #[.float .f64 x, .float .f64 y] w fun e w' => e = .returned (.bool true) ∧ w' = w := by
  obtain ⟨_, h1, h2⟩ := h
  by_cases hn : Nan x
  · have hy := h2 hn
    have f1 : (FloatKind.f64.format.order x x != some .eq) = true := by
      show (double.order x x != some .eq) = true
      rw [nan_order x hn]; rfl
    have f2 : (FloatKind.f64.format.order y y != some .eq) = true := by
      show (double.order y y != some .eq) = true
      rw [nan_order y hy]; rfl
    clear hn h1 h2 hy hx
    go_enter Tryz.func51, Tryz.ntmps51
    go_wp2
    go_ret
    exact ⟨rfl, rfl⟩
  · obtain rfl := h1 hn
    have hn' : ¬ 9218868437227405312 < y % 9223372036854775808 := hn
    have e : bitsOf y = y := by unfold bitsOf; rw [if_neg hn']
    have q := eqFloats_back y hx w
    rw [e] at q
    exact q

end Go.Proofs.YtblgipjipeaemaaGreatDoor
