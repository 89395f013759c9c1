/- The calls of a ring of numbers. -/
import Derived.Test.YteindmdggpahfaaProg
import Derived.Test.YteindmdggpahfaaCaP
import Derived.BigQuiet
import Derived.Deep.RegionHeld
import Derived.Deep.CutRange
import Derived.Lib.SliceRun
namespace Go.Proofs.Yteindmdggpahfaa
open Go.RowKit
set_option maxRecDepth 8000

theorem lenI_any {w : World} {p m : Nat} {xs : List Value} (h : IsRg 75 w p m xs) :
    Calls Try.prog 14 #[.pointer (some ⟨p, 0, none⟩)] w fun e w' => e = .returned (.int .i64 xs.length) ∧ w' = w := by
  obtain ⟨first, f, hr, hf⟩ := h
  have c66 := hr.cell (i := 66) (by omega)
  rw [hf.cc] at c66
  have hl := hr.lt
  clear hr hf
  go_enter Try.func14, Try.ntmps14
  go_wp2
  all_goals (go_ret; exact ⟨rfl, rfl⟩)

theorem newI_no (n : Int) (w : World) (h : n < 0 ∨ 64 < n) :
    Calls Try.prog 11 #[.int .i64 n] w fun e w' => e = .returned (.tuple #[.pointer none, .int .i64 1]) ∧ w' = w := by
  rcases h with h | h
  · go_enter Try.func11, Try.ntmps11
    go_wp2
    all_goals (go_ret2; exact ⟨rfl, rfl⟩)
  · have h2 : ¬ n < 0 := by omega
    go_enter Try.func11, Try.ntmps11
    go_wp2
    all_goals (go_ret2; exact ⟨rfl, rfl⟩)

theorem zeroI : ∃ Z : Array Value, Z.size = 67 ∧ (∀ w, (zeroValue 75).run Try.prog w = .ok (.agg Z) w) ∧ Z[65]? = some (.int .i64 0) ∧ Z[66]? = some (.int .i64 0) ∧ ∀ v ∈ Z.toList, v.oneCell' = true :=
  ⟨(List.replicate 67 (Value.int .i64 0)).toArray, rfl, fun w => by kernel_rfl, rfl, rfl, fun v hv => by simp at hv; subst hv; rfl⟩

theorem newI_yes (n : Nat) (w : World) (h : n ≤ 64) :
    Calls Try.prog 11 #[.int .i64 n] w fun e w' => e = .returned (.tuple #[.pointer (some ⟨w.heap.size, 0, none⟩), .int .i64 0]) ∧ IsRg 75 w' w.heap.size n [] ∧ Below w.heap.size w w' := by
  obtain ⟨Z, hZ, hz, h65, h66, hone⟩ := zeroI
  have hZ' : ¬ (Z.size < 65) := by omega
  have HB : Hid (IsRg 75 (w.alloc (.cells (Z.setIfInBounds 64 (.int .i64 n)) 75)) w.heap.size n [] ∧ Below w.heap.size w (w.alloc (.cells (Z.setIfInBounds 64 (.int .i64 n)) 75))) := by
    refine ⟨⟨0, fun i => (Z.setIfInBounds 64 (.int .i64 n)).getD i (.bool false), ?_, ⟨h, by simp, by omega, ?_, ?_, ?_, fun i x hx => by simp at hx, fun i => ?_⟩⟩, (Below.refl _ _).alloc (Nat.le_refl _) _⟩
    · have := World.rowIs_alloc w (Z.setIfInBounds 64 (.int .i64 n)) 75 (fun i => (Z.setIfInBounds 64 (.int .i64 n)).getD i (.bool false)) (fun i hi => by
        rw [Array.getElem?_eq_getElem hi, Array.getD_eq_getD_getElem?, Array.getElem?_eq_getElem hi]; rfl)
      rw [Array.size_setIfInBounds, hZ] at this
      exact this
    · rw [Array.getD_eq_getD_getElem?, Array.getElem?_setIfInBounds]; simp [hZ]
    · rw [Array.getD_eq_getD_getElem?, Array.getElem?_setIfInBounds]; simp [h65]
    · rw [Array.getD_eq_getD_getElem?, Array.getElem?_setIfInBounds]; simp [h66]
    · rw [Array.getD_eq_getD_getElem?, Array.getElem?_setIfInBounds]
      by_cases e1 : 64 = i
      · simp [e1, hZ]; split <;> rfl
      · rw [if_neg e1]
        by_cases e2 : i < Z.size
        · rw [Array.getElem?_eq_getElem e2]
          exact hone _ (by simp)
        · rw [Array.getElem?_eq_none (by omega)]
          rfl
  clear hZ h65 h66 hone
  go_enter Try.func11, Try.ntmps11
  go_wp2
  all_goals (go_ret2; exact ⟨rfl, HB.out⟩)

theorem roundI_any {w : World} {p m first i : Nat} {f : Nat → Value} (hr : w.rowIs p 75 67 f) (h64 : f 64 = .int .i64 m) (h65 : f 65 = .int .i64 first) (hm : 0 < m) (hm64 : m ≤ 64) (hi : i ≤ 64) (hfi : first ≤ 64) :
    Calls Try.prog 26 #[.pointer (some ⟨p, 0, none⟩), .int .i64 i] w fun e w' => e = .returned (.int .i64 ((first + i) % m : Nat)) ∧ ∃ n, w' = w.drewN n := by
  have c64 := hr.cell (i := 64) (by omega)
  have c65 := hr.cell (i := 65) (by omega)
  rw [h64] at c64
  rw [h65] at c65
  have hl := hr.lt
  clear hr h64 h65
  go_enter Try.func26, Try.ntmps26
  go_wp2_with fail
  go_quiet (fail)
  go_wp2
  go_ret
  exact ⟨by simp, nq, rfl⟩

theorem atI_no {w : World} {p m : Nat} {xs : List Value} (h : IsRg 75 w p m xs) (i : Int) (hi : i < 0 ∨ (xs.length : Int) ≤ i) :
    Calls Try.prog 13 #[.pointer (some ⟨p, 0, none⟩), .int .i64 i] w fun e w' => e = .returned (.tuple #[.int .i64 0, .bool false]) ∧ w' = w := by
  have HL : Hid (Calls Try.prog 14 #[.pointer (some ⟨p, 0, none⟩)] w fun e w' => e = .returned (.int .i64 xs.length) ∧ w' = w) := lenI_any h
  clear h
  by_cases h0 : i < 0
  · clear hi HL
    go_enter Try.func13, Try.ntmps13
    go_wp2
    all_goals (go_ret2; exact ⟨rfl, rfl⟩)
  · have hi : (xs.length : Int) ≤ i := by omega
    go_enter Try.func13, Try.ntmps13
    go_wp2_with (go_at_call 14; refine (HL.out).mono ?_; rintro e w' ⟨rfl, rfl⟩)
    all_goals (go_ret2; exact ⟨rfl, rfl⟩)

theorem atI_yes {w : World} {p m : Nat} {xs : List Value} (h : IsRg 75 w p m xs) (i : Nat) (x : Int) (hi : xs[i]? = some (.int .i64 x)) :
    Calls Try.prog 13 #[.pointer (some ⟨p, 0, none⟩), .int .i64 i] w fun e w' => e = .returned (.tuple #[.int .i64 x, .bool true]) ∧ ∃ n, w' = w.drewN n := by
  have HL : Hid (Calls Try.prog 14 #[.pointer (some ⟨p, 0, none⟩)] w fun e w' => e = .returned (.int .i64 xs.length) ∧ w' = w) := lenI_any h
  obtain ⟨first, f, hr, hf⟩ := h
  have hlt : i < xs.length := (List.getElem?_eq_some_iff.1 hi).1
  have h64 := hf.few
  have h65 := hf.most
  have hfl := hf.first_lt
  have hq : (first + i) % m < m := Nat.mod_lt _ (by omega)
  have HR : Hid (∀ V : World, (∃ n, V = w.drewN n) → Calls Try.prog 26 #[.pointer (some ⟨p, 0, none⟩), .int .i64 i] V fun e w' => e = .returned (.int .i64 ((first + i) % m : Nat)) ∧ ∃ n, w' = V.drewN n) := fun V hV => by
    obtain ⟨n, rfl⟩ := hV
    exact roundI_any (w := w.drewN n) hr hf.cm hf.cf (by omega) (by omega) (by omega) (by omega)
  have ci := hr.cell (i := (first + i) % m) (by omega)
  rw [hf.at' i _ hi] at ci
  have hl := hr.lt
  generalize (first + i) % m = q at *
  have hb : ((i : Int) < 0) = False := by simp
  have hq64 : q < 64 := by omega
  clear hr hf hi
  go_enter Try.func13, Try.ntmps13
  go_wp2_with (go_at_call 14; refine (HL.out).mono ?_; rintro e w' ⟨rfl, rfl⟩)
  go_quiet ((go_at_call 26; exact Calls.quiet_of (HR.out _ ⟨_, rfl⟩)))
  go_wp2
  go_ret2
  exact ⟨rfl, nq, rfl⟩

theorem putI_zero {w : World} {p : Nat} {xs : List Value} (h : IsRg 75 w p 0 xs) (x : Int) :
    Calls Try.prog 12 #[.pointer (some ⟨p, 0, none⟩), .int .i64 x] w fun e w' => e = .returned (.tuple #[]) ∧ w' = w := by
  obtain ⟨first, f, hr, hf⟩ := h
  have c64 := hr.cell (i := 64) (by omega)
  rw [hf.cm] at c64
  have hl := hr.lt
  clear hr hf
  go_enter Try.func12, Try.ntmps12
  go_wp2
  all_goals ((first | go_end0 | refine bodyPost_ret (results_none rfl _ _ _) rfl ?_); exact ⟨rfl, rfl⟩)

/-- Where the ring is not full. -/
theorem putI_room {w : World} {p m : Nat} {ys : List Value} (h : IsRg 75 w p m ys) (x : Int) (hroom : ys.length < m) :
    Calls Try.prog 12 #[.pointer (some ⟨p, 0, none⟩), .int .i64 x] w fun e w' => e = .returned (.tuple #[]) ∧ IsRg 75 w' p m (ys ++ [.int .i64 x]) ∧ Kept w w' (· = p) := by
  obtain ⟨first1, f1, hr, hf⟩ := h
  have h65 := hf.most
  have hfl := hf.first_lt
  have c64 := hr.cell (i := 64) (by omega)
  have c66 := hr.cell (i := 66) (by omega)
  rw [hf.cm] at c64
  rw [hf.cc] at c66
  obtain ⟨q, hqe⟩ : ∃ q, q = (first1 + ys.length) % m := ⟨_, rfl⟩
  have hq : q < 64 := by rw [hqe]; exact Nat.lt_of_lt_of_le (Nat.mod_lt _ (by omega)) h65
  have hp := hf.put hroom (.int .i64 x) rfl
  rw [← hqe] at hp
  have HP : Hid _ := hp
  have HQ : Hid (q = (first1 + ys.length) % m) := hqe
  have HF1 : Hid (f1 64 = .int .i64 m ∧ f1 65 = .int .i64 first1 ∧ f1 66 = .int .i64 ys.length ∧ first1 ≤ 64) := ⟨hf.cm, hf.cf, hf.cc, by omega⟩
  have HRow : Hid _ := hr
  have hl := hr.lt
  have hm0 : ¬ m = 0 := by omega
  have hne : ¬ ys.length = m := by omega
  clear hr hf hp hqe
  generalize ys.length = n at *
  go_enter Try.func12, Try.ntmps12
  go_wp2_with fail
  go_quiet (fail)
  obtain ⟨w1, hw1⟩ : ∃ w1, w1 = w.drewN nq := ⟨_, rfl⟩
  have k66 : w1.cell? ⟨p, 66, none⟩ = some (.int .i64 n) := by rw [hw1]; exact c66
  have hl1 : p < w1.heap.size := by rw [hw1]; exact hl
  have HW : Hid (w1.rowIs p 75 67 f1 ∧ Kept w w1 (· = p)) := by subst hw1; exact ⟨HRow.out, (Kept.refl _ _).drewN _⟩
  rw [← hw1]
  clear hw1 c64 c66 hl HRow
  go_wp2_with fail
  have HR2 : Hid (Calls Try.prog 26 #[.pointer (some ⟨p, 0, none⟩), .int .i64 n] w1.drew fun e w' => e = .returned (.int .i64 q) ∧ w'.cell? ⟨p, 66, none⟩ = some (.int .i64 n) ∧ (w'.setCell ⟨p, q, none⟩ (.int .i64 x)).cell? ⟨p, 66, none⟩ = some (.int .i64 n) ∧ (w'.setCell ⟨p, q, none⟩ (.int .i64 x)).frozen? ⟨p, 66, none⟩ = false ∧ (∃ y, w'.cell? ⟨p, q, none⟩ = some y) ∧ w'.frozen? ⟨p, q, none⟩ = false ∧ p < w'.heap.size ∧ Hid (w'.rowIs p 75 67 f1 ∧ Kept w w' (· = p))) := by
    refine (roundI_any (w := w1.drew) HW.out.1 HF1.out.1 HF1.out.2.1 (by omega) (by omega) (by omega) (by have := HF1.out.2.2.2; omega)).mono ?_
    rintro e w3 ⟨rfl, n3, rfl⟩
    have hrw : (w1.drew.drewN n3).rowIs p 75 67 f1 := HW.out.1
    have hset := hrw.set q (.int .i64 x)
    refine ⟨by rw [HQ.out], k66, ?_, hset.frozen _, ⟨_, hrw.cell (by omega)⟩, hrw.frozen _, hrw.lt, hrw, ?_⟩
    · rw [hset.cell (i := 66) (by omega)]
      rw [if_neg (by omega), HF1.out.2.2.1]
    · exact Kept.drewN (Kept.drewN HW.out.2 1) n3
  go_region_held (fun w' => w'.cell? ⟨p, 66, none⟩ = some (.int .i64 n)) (first | exact k66 | exact j66 | exact j67) (first | (go_at_call 26; refine (HR2.out).mono ?_; rintro e w3 ⟨rfl, j66, j67, j68, ⟨y, j69⟩, j70, j71, j72⟩))
  have HZ : Hid (IsRg 75 ((w3.setCell ⟨p, q, none⟩ (.int .i64 x)).setCell ⟨p, 66, none⟩ (.int .i64 ((n : Int) + 1))) p m (ys ++ [.int .i64 x]) ∧ Kept w ((w3.setCell ⟨p, q, none⟩ (.int .i64 x)).setCell ⟨p, 66, none⟩ (.int .i64 ((n : Int) + 1))) (· = p)) :=
    ⟨⟨first1, _, (j72.out.1.set q _).set 66 _, HP.out⟩, (j72.out.2.setCell _ _ (fun _ => rfl)).setCell _ _ (fun _ => rfl)⟩
  clear HR2 HP HW HF1 HQ k66 j66 j69 j70 j72
  go_wp2_with fail
  all_goals ((first | go_end0 | refine bodyPost_ret (results_none rfl _ _ _) rfl ?_); exact ⟨rfl, HZ.out⟩)

/-- Where it is full. -/
theorem putI_full {w : World} {p m : Nat} {xs : List Value} (h : IsRg 75 w p m xs) (x : Int) (hm0 : 0 < m) (hfull : xs.length = m) :
    Calls Try.prog 12 #[.pointer (some ⟨p, 0, none⟩), .int .i64 x] w fun e w' => e = .returned (.tuple #[]) ∧ IsRg 75 w' p m (xs.drop 1 ++ [.int .i64 x]) ∧ Kept w w' (· = p) := by
  obtain ⟨first, f, hr, hf0⟩ := h
  have h65 := hf0.most
  have hfl0 := hf0.first_lt
  have c64 := hr.cell (i := 64) (by omega)
  have c66 := hr.cell (i := 66) (by omega)
  rw [hf0.cm] at c64
  rw [hf0.cc, hfull] at c66
  have hf := hf0.shed hm0 hfull
  have hys : (xs.drop 1).length = m - 1 := by rw [List.length_drop]; omega
  have HRn : Hid (∀ V : World, V.heap = w.heap → Calls Try.prog 26 #[.pointer (some ⟨p, 0, none⟩), .int .i64 1] V fun e w' => e = .returned (.int .i64 ((first + 1) % m : Nat)) ∧ ∃ n, w' = V.drewN n) := fun V hV =>
    roundI_any (i := 1) (hr.of_block (by rw [hV])) hf0.cm hf0.cf (by omega) (by omega) (by omega) (by omega)
  generalize xs.drop 1 = ys at *
  have hb : (first + 1) % m < m := Nat.mod_lt _ hm0
  generalize (first + 1) % m = first1 at *
  obtain ⟨n, hn⟩ : ∃ n, m = n + 1 := ⟨m - 1, by omega⟩
  have hyl : ys.length = n := by omega
  have hroom : ys.length < m := by omega
  have e1 : ((xs.length : Int) - 1) = (n : Int) := by omega
  rw [e1] at hf
  obtain ⟨f1, hf1⟩ : ∃ f1 : Nat → Value, f1 = fun j => if j = 66 then .int .i64 (n : Int) else if j = 65 then .int .i64 (first1 : Int) else f j := ⟨_, rfl⟩
  rw [← hf1] at hf
  obtain ⟨q, hqe⟩ : ∃ q, q = (first1 + n) % m := ⟨_, rfl⟩
  have hq : q < 64 := by rw [hqe]; exact Nat.lt_of_lt_of_le (Nat.mod_lt _ (by omega)) h65
  have hp := hf.put hroom (.int .i64 x) rfl
  rw [hyl, ← hqe] at hp
  have HP : Hid _ := hp
  have HQ : Hid (q = (first1 + n) % m) := hqe
  have HF1 : Hid (f1 64 = .int .i64 m ∧ f1 65 = .int .i64 first1 ∧ f1 66 = .int .i64 n ∧ first1 ≤ 64) := ⟨hf.cm, hf.cf, by rw [hf.cc, hyl], by omega⟩
  have HRow : Hid _ := hr
  have HFF : Hid (f1 = fun j => if j = 66 then .int .i64 (n : Int) else if j = 65 then .int .i64 (first1 : Int) else f j) := hf1
  have hl := hr.lt
  have z65 : ∀ k : Nat, (w.drewN k).cell? ⟨p, 65, none⟩ = some (f 65) := fun k => hr.cell (i := 65) (by omega)
  have y65 : ∀ k : Nat, (w.drewN k).frozen? ⟨p, 65, none⟩ = false := fun k => hr.frozen 65
  have hmn : Hid (m = n + 1) := hn
  have hn63 : n ≤ 63 := by omega
  clear hr hf hf0 hp hqe hf1 hyl hroom e1 hfull hys hfl0 hn
  go_enter Try.func12, Try.ntmps12
  go_wp2_with fail
  go_quiet (fail)
  have HRm : Hid (Calls Try.prog 26 #[.pointer (some ⟨p, 0, none⟩), .int .i64 1] (w.drewN nq) fun e w' => e = .returned (.int .i64 first1) ∧ w'.frozen? ⟨p, 65, none⟩ = false ∧ (∃ y, w'.cell? ⟨p, 65, none⟩ = some y) ∧ (w'.setCell ⟨p, 65, none⟩ (.int .i64 first1)).cell? ⟨p, 66, none⟩ = some (.int .i64 m) ∧ (w'.setCell ⟨p, 65, none⟩ (.int .i64 first1)).frozen? ⟨p, 66, none⟩ = false ∧ p < w'.heap.size ∧ Hid (w'.rowIs p 75 67 f ∧ Kept w w' (· = p))) := by
    refine Calls.mono (HRn.out (w.drewN nq) rfl) ?_
    rintro e w3 ⟨rfl, n3, rfl⟩
    have hrw : ((w.drewN nq).drewN n3).rowIs p 75 67 f := HRow.out
    have hset := hrw.set 65 (.int .i64 first1)
    refine ⟨rfl, hrw.frozen _, ⟨_, hrw.cell (by omega)⟩, ?_, hset.frozen _, hrw.lt, hrw, ((Kept.refl _ _).drewN _).drewN _⟩
    rw [hset.cell (i := 66) (by omega), if_neg (by omega), ← World.rowIs.cell HRow.out (i := 66) (by omega)]
    exact c66
  clear HRn HRow c64
  go_wp2_with fail
  go_at_call 26
  refine (HRm.out).mono ?_
  rintro e w2 ⟨rfl, y65, ⟨y, z65⟩, c67, c68, hl2, H2⟩
  clear c66
  have e1 : (m : Int) - 1 = (n : Int) := by have := hmn.out; omega
  have HE : Hid _ := e1
  clear e1
  obtain ⟨w1, hw1⟩ : ∃ w1, w1 = (w2.setCell ⟨p, 65, none⟩ (.int .i64 first1)).setCell ⟨p, 66, none⟩ (.int .i64 ((m : Int) - 1)) := ⟨_, rfl⟩
  have HW : Hid (w1.rowIs p 75 67 f1 ∧ Kept w w1 (· = p)) := by
    rw [hw1, HFF.out, HE.out]
    exact ⟨(World.rowIs.set (H2.out.1.set 65 _) 66 _), (H2.out.2.setCell _ _ (fun _ => rfl)).setCell _ _ (fun _ => rfl)⟩
  have hl1 : p < w1.heap.size := by have := World.rowIs.lt HW.out.1; exact this
  have k66 : w1.cell? ⟨p, 66, none⟩ = some (.int .i64 n) := by rw [World.rowIs.cell HW.out.1 (i := 66) (by omega), HF1.out.2.2.1]
  have HW1 : Hid _ := hw1
  clear hw1
  go_upto_region 4 with fail
  rw [← HW1.out]
  clear HW1 HRm H2 c67 c68 y65 z65 hl2
  have HR2 : Hid (Calls Try.prog 26 #[.pointer (some ⟨p, 0, none⟩), .int .i64 n] w1.drew fun e w' => e = .returned (.int .i64 q) ∧ w'.cell? ⟨p, 66, none⟩ = some (.int .i64 n) ∧ (w'.setCell ⟨p, q, none⟩ (.int .i64 x)).cell? ⟨p, 66, none⟩ = some (.int .i64 n) ∧ (w'.setCell ⟨p, q, none⟩ (.int .i64 x)).frozen? ⟨p, 66, none⟩ = false ∧ (∃ y, w'.cell? ⟨p, q, none⟩ = some y) ∧ w'.frozen? ⟨p, q, none⟩ = false ∧ p < w'.heap.size ∧ Hid (w'.rowIs p 75 67 f1 ∧ Kept w w' (· = p))) := by
    refine (roundI_any (w := w1.drew) HW.out.1 HF1.out.1 HF1.out.2.1 (by omega) (by omega) (by omega) (by have := HF1.out.2.2.2; omega)).mono ?_
    rintro e w3 ⟨rfl, n3, rfl⟩
    have hrw : (w1.drew.drewN n3).rowIs p 75 67 f1 := HW.out.1
    have hset := hrw.set q (.int .i64 x)
    refine ⟨by rw [HQ.out], k66, ?_, hset.frozen _, ⟨_, hrw.cell (by omega)⟩, hrw.frozen _, hrw.lt, hrw, ?_⟩
    · rw [hset.cell (i := 66) (by omega)]
      rw [if_neg (by omega), HF1.out.2.2.1]
    · exact Kept.drewN (Kept.drewN HW.out.2 1) n3
  go_region_held (fun w' => w'.cell? ⟨p, 66, none⟩ = some (.int .i64 n)) (first | exact k66 | exact j66 | exact j67) (first | (go_at_call 26; refine (HR2.out).mono ?_; rintro e w3 ⟨rfl, j66, j67, j68, ⟨y, j69⟩, j70, j71, j72⟩))
  have HZ : Hid (IsRg 75 ((w3.setCell ⟨p, q, none⟩ (.int .i64 x)).setCell ⟨p, 66, none⟩ (.int .i64 ((n : Int) + 1))) p m (ys ++ [.int .i64 x]) ∧ Kept w ((w3.setCell ⟨p, q, none⟩ (.int .i64 x)).setCell ⟨p, 66, none⟩ (.int .i64 ((n : Int) + 1))) (· = p)) :=
    ⟨⟨first1, _, (j72.out.1.set q _).set 66 _, HP.out⟩, (j72.out.2.setCell _ _ (fun _ => rfl)).setCell _ _ (fun _ => rfl)⟩
  clear HR2 HP HW HF1 HQ k66 j66 j69 j70 j72
  go_wp2_with fail
  all_goals ((first | go_end0 | refine bodyPost_ret (results_none rfl _ _ _) rfl ?_); exact ⟨rfl, HZ.out⟩)


theorem putI_any {w : World} {p m : Nat} {xs : List Value} (h : IsRg 75 w p m xs) (x : Int) :
    Calls Try.prog 12 #[.pointer (some ⟨p, 0, none⟩), .int .i64 x] w fun e w' => e = .returned (.tuple #[]) ∧ IsRg 75 w' p m (lastN m (xs ++ [.int .i64 x])) ∧ Kept w w' (· = p) := by
  have hfew : xs.length ≤ m := by obtain ⟨_, _, _, hf⟩ := h; exact hf.few
  by_cases h0 : m = 0
  · subst h0
    refine (putI_zero h x).mono ?_
    rintro e w' ⟨rfl, rfl⟩
    have : xs = [] := List.eq_nil_of_length_eq_zero (by omega)
    subst this
    exact ⟨rfl, by simpa [lastN] using h, Kept.refl _ _⟩
  · by_cases hroom : xs.length < m
    · refine (putI_room h x hroom).mono ?_
      rintro e w' ⟨rfl, h1, h2⟩
      rw [lastN_short (by simp; omega)]
      exact ⟨rfl, h1, h2⟩
    · refine (putI_full h x (by omega) (by omega)).mono ?_
      rintro e w' ⟨rfl, h1, h2⟩
      rw [lastN_full _ (by omega) (by omega)]
      exact ⟨rfl, h1, h2⟩

theorem zero_at (b : Nat) (v : Value) : ∀ (k : Nat) (o : Nat) (w : World) (T : TypeId) (f : Nat → Value), w.rowIs b T 67 f → (w.setCells b o (List.replicate k v)).rowIs b T 67 (fun j => if o ≤ j ∧ j < o + k then v else f j)
  | 0, o, w, T, f, h => h.congr (fun i _ => by rw [if_neg (by omega)])
  | k + 1, o, w, T, f, h => by
    have := zero_at b v k (o + 1) (w.setCell ⟨b, o, none⟩ v) T _ (h.set o v)
    refine World.rowIs.congr this (fun i _ => ?_)
    by_cases h1 : i = o
    · subst h1; rw [if_neg (by omega), if_pos rfl, if_pos (by omega)]
    · by_cases h2 : o + 1 ≤ i ∧ i < o + 1 + k
      · rw [if_pos h2, if_pos (by omega)]
      · rw [if_neg h2, if_neg h1, if_neg (by omega)]

theorem kept_setCells {a : World} {S : Nat → Prop} (b : Nat) (hb : b < a.heap.size → S b) : ∀ (vs : List Value) (o : Nat) (w : World), Kept a w S → Kept a (w.setCells b o vs) S
  | [], _, _, h => h
  | v :: vs, o, w, h => kept_setCells b hb vs (o + 1) (w.setCell ⟨b, o, none⟩ v) (h.setCell _ _ hb)

end Go.Proofs.Yteindmdggpahfaa
