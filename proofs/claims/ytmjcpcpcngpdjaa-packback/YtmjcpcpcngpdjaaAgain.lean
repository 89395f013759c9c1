/- again of the statements: what was told is what was said. -/
import Derived.Test.YtmjcpcpcngpdjaaPut3
import Derived.Test.YtmjcpcpcngpdjaaRefBits
namespace Go.Proofs.Ytmjcpcpcngpdjaa
open Ieee
open Go.RowKit (intOf Hid wrap32 wrap64)

theorem order_some {x : Nat} (hx : x < 18446744073709551616) (hn : ¬ 9218868437227405312 < x % 9223372036854775808) (h0 : x % 9223372036854775808 ≠ 0) : (FloatKind.f64.format.order x 0 != some .eq) = true := by
  show (double.order x 0 != some .eq) = true
  by_cases hs : x < 9223372036854775808
  · by_cases hi : x = 9218868437227405312
    · subst hi; decide
    · obtain ⟨q, m, hc, hw⟩ := wd_of x (by omega)
      have : double.order x 0 = some .gt := by
        rw [hw, nought_wd]
        exact order_gt hc can_nought (by rw [← hw, ← nought_wd]; omega)
      rw [this]
      rfl
  · by_cases hi : x = 18442240474082181120
    · subst hi; decide
    · obtain ⟨q, m, hc, hw⟩ := wd_of (x - 9223372036854775808) (by omega)
      have hm : m ≠ 0 := by
        intro e
        subst e
        obtain ⟨h1, h2, h3⟩ := hc
        have : q = 0 := by omega
        subst this
        rw [← nought_wd] at hw
        omega
      have e : x = 9223372036854775808 + wd q m := by omega
      have : double.order x 0 = some .lt := by rw [e]; exact order_neg hc hm
      rw [this]
      rfl

theorem eqFloats_back (x : Nat) (hx : x < 18446744073709551616) (w : World) : Calls Try.prog 53 #[.float .f64 (bitsOf x), .float .f64 x] w fun e w' => e = .returned (.bool true) ∧ w' = w := by
  by_cases hn : 9218868437227405312 < x % 9223372036854775808
  · have e : bitsOf x = 9221120237041090560 := by unfold bitsOf; rw [if_pos hn]
    rw [e]
    have f1 : (FloatKind.f64.format.order x x != some .eq) = true := by
      show (double.order x x != some .eq) = true
      rw [nan_order x hn]; rfl
    have f2 : (FloatKind.f64.format.order 9221120237041090560 9221120237041090560 != some .eq) = true := by decide
    clear hn e hx
    go_enter Try.func53, Try.ntmps53
    go_wp2
    go_ret
    exact ⟨rfl, rfl⟩
  · have e : bitsOf x = x := by unfold bitsOf; rw [if_neg hn]
    rw [e]
    have f1 : (FloatKind.f64.format.order x x != some .eq) = false := by
      show (double.order x x != some .eq) = false
      rw [num_order x hn]; rfl
    have f2 : (FloatKind.f64.format.order x x == some .eq) = true := by
      show (double.order x x == some .eq) = true
      rw [num_order x hn]; rfl
    by_cases h0 : x % 9223372036854775808 = 0
    · have hc : x = 0 ∨ x = 9223372036854775808 := by omega
      rcases hc with rfl | rfl
      · have f3 : (FloatKind.f64.format.order 0 0 != some .eq) = false := by decide
        have f4 : (FloatKind.f64.format.order 9218868437227405312 9218868437227405312 == some .eq) = true := by decide
        have hq := fun w => run_float_arith (P := Try.prog) w .quo 29 .f64 4607182418800017408 0 9218868437227405312 (by decide)
        clear hn e hx h0
        go_enter Try.func53, Try.ntmps53
        go_wp2
        go_ret
        exact ⟨rfl, rfl⟩
      · have f3 : (FloatKind.f64.format.order 9223372036854775808 0 != some .eq) = false := by decide
        have f4 : (FloatKind.f64.format.order 18442240474082181120 18442240474082181120 == some .eq) = true := by decide
        have hq := fun w => run_float_arith (P := Try.prog) w .quo 29 .f64 4607182418800017408 9223372036854775808 18442240474082181120 (by decide)
        clear hn e hx h0
        go_enter Try.func53, Try.ntmps53
        go_wp2
        go_ret
        exact ⟨rfl, rfl⟩
    · have f3 := order_some hx hn h0
      clear hn e hx h0
      go_enter Try.func53, Try.ntmps53
      go_wp2
      go_ret
      exact ⟨rfl, rfl⟩

section
variable (on n m : Int) (b : Bool) (x y : Nat) (s t : ByteArray) (ao ua : Option Addr) (l cap l2 c2 : Nat) (w : World)

theorem again_bool : Calls Try.prog 14 #[opv 1 on n x s (.slice ao l cap), .agg (told (bits .and .i64 n 1 == 1) m y t (.slice ua l2 c2) 0 0)] w fun e w' => e = .returned (.bool true) ∧ Kept w w' (fun _ => False) := by
  go_enter Try.func14, Try.ntmps14
  go_wp2
  go_ret
  exact ⟨rfl, ((Kept.refl w _).alloc _).alloc _⟩

theorem again_int8 : Calls Try.prog 14 #[opv 2 on n x s (.slice ao l cap), .agg (told b (IntKind.i8.wrap n) y t (.slice ua l2 c2) 0 0)] w fun e w' => e = .returned (.bool true) ∧ Kept w w' (fun _ => False) := by
  have hid := i8_64 n
  go_enter Try.func14, Try.ntmps14
  go_wp2
  go_ret
  exact ⟨rfl, ((Kept.refl w _).alloc _).alloc _⟩

theorem again_int32 : Calls Try.prog 14 #[opv 3 on n x s (.slice ao l cap), .agg (told b (wrap32 n) y t (.slice ua l2 c2) 0 0)] w fun e w' => e = .returned (.bool true) ∧ Kept w w' (fun _ => False) := by
  have hid : wrap64 (wrap32 n) = wrap32 n := d32_64 n
  go_enter Try.func14, Try.ntmps14
  go_wp2
  go_ret
  exact ⟨rfl, ((Kept.refl w _).alloc _).alloc _⟩

theorem again_uint32 : Calls Try.prog 14 #[opv 4 on n x s (.slice ao l cap), .agg (told b (n % 4294967296) y t (.slice ua l2 c2) 0 0)] w fun e w' => e = .returned (.bool true) ∧ Kept w w' (fun _ => False) := by
  have hid : wrap64 (n % 4294967296) = n % 4294967296 := wrap64_id (by omega) (by omega)
  go_enter Try.func14, Try.ntmps14
  go_wp2
  go_ret
  exact ⟨rfl, ((Kept.refl w _).alloc _).alloc _⟩

theorem again_int64 : Calls Try.prog 14 #[opv 5 on n x s (.slice ao l cap), .agg (told b n y t (.slice ua l2 c2) 0 0)] w fun e w' => e = .returned (.bool true) ∧ Kept w w' (fun _ => False) := by
  go_enter Try.func14, Try.ntmps14
  go_wp2
  go_ret
  exact ⟨rfl, ((Kept.refl w _).alloc _).alloc _⟩

theorem again_text : Calls Try.prog 14 #[opv 7 on n x s (.slice ao l cap), .agg (told b m y s (.slice ua l2 c2) 0 0)] w fun e w' => e = .returned (.bool true) ∧ Kept w w' (fun _ => False) := by
  go_enter Try.func14, Try.ntmps14
  go_wp2
  go_ret
  exact ⟨rfl, ((Kept.refl w _).alloc _).alloc _⟩

theorem again_float (hx : x < 18446744073709551616) : Calls Try.prog 14 #[opv 6 on n x s (.slice ao l cap), .agg (told b m (bitsOf x) t (.slice ua l2 c2) 0 0)] w fun e w' => e = .returned (.bool true) ∧ Kept w w' (fun _ => False) := by
  go_enter Try.func14, Try.ntmps14
  go_wp2_with fail
  refine (eqFloats_back x hx _).mono ?_
  rintro e w1 ⟨rfl, rfl⟩
  go_wp2
  go_ret
  exact ⟨rfl, ((Kept.refl w _).alloc _).alloc _⟩

theorem again_bytes (kind : Int) (hk : kind = 8 ∨ kind = 9) (ys : List Int) (hs : Sees w (.slice ao l cap) ys) (hu : Sees w (.slice ua l2 c2) ys) :
    Calls Try.prog 14 #[opv kind on n x s (.slice ao l cap), .agg (told b m y t (.slice ua l2 c2) 0 0)] w fun e w' => e = .returned (.bool true) ∧ Kept w w' (fun _ => False) := by
  have H : Hid (Sees w (.slice ao l cap) ys ∧ Sees w (.slice ua l2 c2) ys) := ⟨hs, hu⟩
  clear hs hu
  have hk0 : Kept w ((w.alloc (opc kind on n x s (.slice ao l cap))).alloc (.cells (told b m y t (.slice ua l2 c2) 0 0) 41)) (fun _ => False) := ((Kept.refl w _).alloc _).alloc _
  have HK : Hid _ := hk0
  clear hk0
  have h1 : (kind == 1) = false := by rcases hk with rfl | rfl <;> rfl
  go_enter Try.func14, Try.ntmps14
  rcases hk with rfl | rfl
  · go_wp2_with fail
    refine (eqBytes_any _ _ ys ys _ (H.out.2.kept HK.out (fun _ _ h => h)) (H.out.1.kept HK.out (fun _ _ h => h))).mono ?_
    rintro e w1 ⟨rfl, n1, rfl⟩
    have ed : decide (ys = ys) = true := by simp
    rw [ed]
    clear ed
    go_wp2
    go_ret
    exact ⟨rfl, HK.out.drewN _⟩
  · go_wp2_with fail
    refine (eqBytes_any _ _ ys ys _ (H.out.2.kept HK.out (fun _ _ h => h)) (H.out.1.kept HK.out (fun _ _ h => h))).mono ?_
    rintro e w1 ⟨rfl, n1, rfl⟩
    have ed : decide (ys = ys) = true := by simp
    rw [ed]
    clear ed
    go_wp2
    go_ret
    exact ⟨rfl, HK.out.drewN _⟩
end

end Go.Proofs.Ytmjcpcpcngpdjaa
