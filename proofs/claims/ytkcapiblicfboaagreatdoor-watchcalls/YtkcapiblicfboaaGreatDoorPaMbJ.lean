/- What the document's fault answers of a name: dots. -/
import Derived.Test.YtkcapiblicfboaaGreatDoorPaMJ
namespace Go.Proofs.YtkcapiblicfboaaGreatDoor
open Go.RowKit Go.Shelf
set_option maxRecDepth 8000

set_option maxHeartbeats 2000000 in
theorem faultR_A1ge (s : ByteArray) (f d : Nat) (hl : s.size ≤ 4294967296) (hf : f ≤ 4294967296) (_hd : d ≤ 4294967297) (w : World) (h : s.data.toList = [46]) (hfd : ¬ (f : Int) < d) :
    Calls Tryz.prog 92 #[.string s, .int .i64 (f : Int), .int .i64 (d : Int)] w fun e w' => e = .returned (.int .i64 ((mn d f (rg s.data.toList) : Nat) : Int)) ∧ w' = w := by
    have HZ : Hid (s.size = s.data.toList.length) := size_list s
    have e0 : (s.toList == []) = false := by rw [eq_list, h]; decide
    have e1 : (s.toList == [46]) = true := by rw [eq_list, h]; decide
    have e2 : (s.toList == [46, 46]) = false := by rw [eq_list, h]; decide
    have h24 : ¬ 24 < s.size := by rw [HZ.out, h]; decide
    have hsz : s.size ≤ 2 := by rw [HZ.out, h]; decide
    clear h
    go_enter Tryz.func92, Tryz.ntmps92
    go_wp2
    go_loop [7, 8] (fun vm vi => ∃ i : Nat, vm = .int .i64 (d : Int) ∧ i ≤ s.size ∧ vi = .int .i64 (i : Int) ∧ Hid (rg s.data.toList = (rg (s.data.toList.drop i)).map (· + i))) (fun _ vi => s.size - (intOf vi).toNat)
    case atStart => exact ⟨0, rfl, Nat.zero_le _, rfl, by show _ = _; simp⟩
    case round =>
      obtain ⟨i, rfl, hi, rfl, HR⟩ := hrel
      by_cases hlt : i < s.size
      · have hs := rg_step s.data.toList i (by rw [← HZ.out]; exact hlt)
        have hle := step_le s.data.toList i (by rw [← HZ.out]; exact hlt)
        rw [← HZ.out] at hle
        go_wp2_with fail
        refine (point_any s i hlt hl _).mono ?_
        rintro e w1 ⟨⟨c, rfl, hc⟩, rfl⟩
        obtain ⟨hg, hneg⟩ := good_point hc
        rw [← hg] at hs
        obtain ⟨n, hn⟩ : ∃ n, n = (dec (s.data.toList.drop i)).2 := ⟨_, rfl⟩
        rw [← hn] at hs hle ⊢
        have HS : Hid _ := hs
        clear hs hc hg hn
        cases hgc : goodI c with
        | true =>
          have hc1 : ¬ c < 0 := fun e => by have := hneg e; rw [hgc] at this; simp at this
          clear hneg
          go_wp2_with fail
          refine (good_any c _).mono ?_
          rintro e w2 ⟨rfl, rfl⟩
          rw [hgc]
          go_wp2
          refine ⟨⟨i + n, rfl, by omega, by simp, ?_⟩, ?_⟩
          · show _ = _
            rw [HR.out, HS.out, hgc, if_pos rfl, Option.map_map]
            congr 1
            funext x
            simp only [Function.comp]
            omega
          · simp [intOf]; omega
        | false =>
          have HE : Hid (rg s.data.toList = some i) := by
            show _ = _
            rw [HR.out, HS.out, hgc]
            simp
          have HV : Hid (((mn d f (some i) : Nat) : Int) = if (f : Int) + i < d then (f : Int) + i else d) := mn_cast d f i
          by_cases hc1 : c < 0
          · clear hneg
            by_cases hx : (f : Int) + i < d
            · go_wp2
              go_ret
              exact ⟨by rw [HE.out, HV.out, if_pos (by omega)]; rfl, rfl⟩
            · go_wp2
              go_ret
              exact ⟨by rw [HE.out, HV.out, if_neg (by omega)]; rfl, rfl⟩
          · clear hneg
            by_cases hx : (f : Int) + i < d
            · go_wp2_with (go_at_call 101; refine (good_any c _).mono ?_; rintro e w2 ⟨rfl, rfl⟩; rw [hgc])
              go_ret
              exact ⟨by rw [HE.out, HV.out, if_pos (by omega)]; rfl, rfl⟩
            · go_wp2_with (go_at_call 101; refine (good_any c _).mono ?_; rintro e w2 ⟨rfl, rfl⟩; rw [hgc])
              go_ret
              exact ⟨by rw [HE.out, HV.out, if_neg (by omega)]; rfl, rfl⟩
      · have HE : Hid (rg s.data.toList = none) := by
          show _ = _
          rw [HR.out, List.drop_eq_nil_of_le (by rw [← HZ.out]; omega), rg_nil]; rfl
        go_wp2
        go_ret
        exact ⟨by rw [HE.out]; rfl, rfl⟩

set_option maxHeartbeats 2000000 in
theorem faultR_A2lt (s : ByteArray) (f d : Nat) (hl : s.size ≤ 4294967296) (hf : f ≤ 4294967296) (_hd : d ≤ 4294967297) (w : World) (h : s.data.toList = [46, 46]) (hfd : (f : Int) < d) :
    Calls Tryz.prog 92 #[.string s, .int .i64 (f : Int), .int .i64 (d : Int)] w fun e w' => e = .returned (.int .i64 ((mn f f (rg s.data.toList) : Nat) : Int)) ∧ w' = w := by
    have HZ : Hid (s.size = s.data.toList.length) := size_list s
    have e0 : (s.toList == []) = false := by rw [eq_list, h]; decide
    have e1 : (s.toList == [46]) = false := by rw [eq_list, h]; decide
    have e2 : (s.toList == [46, 46]) = true := by rw [eq_list, h]; decide
    have h24 : ¬ 24 < s.size := by rw [HZ.out, h]; decide
    have hsz : s.size ≤ 2 := by rw [HZ.out, h]; decide
    clear h
    go_enter Tryz.func92, Tryz.ntmps92
    go_wp2
    go_loop [7, 8] (fun vm vi => ∃ i : Nat, vm = .int .i64 (f : Int) ∧ i ≤ s.size ∧ vi = .int .i64 (i : Int) ∧ Hid (rg s.data.toList = (rg (s.data.toList.drop i)).map (· + i))) (fun _ vi => s.size - (intOf vi).toNat)
    case atStart => exact ⟨0, rfl, Nat.zero_le _, rfl, by show _ = _; simp⟩
    case round =>
      obtain ⟨i, rfl, hi, rfl, HR⟩ := hrel
      by_cases hlt : i < s.size
      · have hs := rg_step s.data.toList i (by rw [← HZ.out]; exact hlt)
        have hle := step_le s.data.toList i (by rw [← HZ.out]; exact hlt)
        rw [← HZ.out] at hle
        go_wp2_with fail
        refine (point_any s i hlt hl _).mono ?_
        rintro e w1 ⟨⟨c, rfl, hc⟩, rfl⟩
        obtain ⟨hg, hneg⟩ := good_point hc
        rw [← hg] at hs
        obtain ⟨n, hn⟩ : ∃ n, n = (dec (s.data.toList.drop i)).2 := ⟨_, rfl⟩
        rw [← hn] at hs hle ⊢
        have HS : Hid _ := hs
        clear hs hc hg hn
        cases hgc : goodI c with
        | true =>
          have hc1 : ¬ c < 0 := fun e => by have := hneg e; rw [hgc] at this; simp at this
          clear hneg
          go_wp2_with fail
          refine (good_any c _).mono ?_
          rintro e w2 ⟨rfl, rfl⟩
          rw [hgc]
          go_wp2
          refine ⟨⟨i + n, rfl, by omega, by simp, ?_⟩, ?_⟩
          · show _ = _
            rw [HR.out, HS.out, hgc, if_pos rfl, Option.map_map]
            congr 1
            funext x
            simp only [Function.comp]
            omega
          · simp [intOf]; omega
        | false =>
          have HE : Hid (rg s.data.toList = some i) := by
            show _ = _
            rw [HR.out, HS.out, hgc]
            simp
          have HV : Hid (((mn f f (some i) : Nat) : Int) = if (f : Int) + i < f then (f : Int) + i else f) := mn_cast f f i
          by_cases hc1 : c < 0
          · clear hneg
            by_cases hx : (f : Int) + i < f
            · go_wp2
              go_ret
              exact ⟨by rw [HE.out, HV.out, if_pos (by omega)]; rfl, rfl⟩
            · go_wp2
              go_ret
              exact ⟨by rw [HE.out, HV.out, if_neg (by omega)]; rfl, rfl⟩
          · clear hneg
            by_cases hx : (f : Int) + i < f
            · go_wp2_with (go_at_call 101; refine (good_any c _).mono ?_; rintro e w2 ⟨rfl, rfl⟩; rw [hgc])
              go_ret
              exact ⟨by rw [HE.out, HV.out, if_pos (by omega)]; rfl, rfl⟩
            · go_wp2_with (go_at_call 101; refine (good_any c _).mono ?_; rintro e w2 ⟨rfl, rfl⟩; rw [hgc])
              go_ret
              exact ⟨by rw [HE.out, HV.out, if_neg (by omega)]; rfl, rfl⟩
      · have HE : Hid (rg s.data.toList = none) := by
          show _ = _
          rw [HR.out, List.drop_eq_nil_of_le (by rw [← HZ.out]; omega), rg_nil]; rfl
        go_wp2
        go_ret
        exact ⟨by rw [HE.out]; rfl, rfl⟩

set_option maxHeartbeats 2000000 in
theorem faultR_A2ge (s : ByteArray) (f d : Nat) (hl : s.size ≤ 4294967296) (hf : f ≤ 4294967296) (_hd : d ≤ 4294967297) (w : World) (h : s.data.toList = [46, 46]) (hfd : ¬ (f : Int) < d) :
    Calls Tryz.prog 92 #[.string s, .int .i64 (f : Int), .int .i64 (d : Int)] w fun e w' => e = .returned (.int .i64 ((mn d f (rg s.data.toList) : Nat) : Int)) ∧ w' = w := by
    have HZ : Hid (s.size = s.data.toList.length) := size_list s
    have e0 : (s.toList == []) = false := by rw [eq_list, h]; decide
    have e1 : (s.toList == [46]) = false := by rw [eq_list, h]; decide
    have e2 : (s.toList == [46, 46]) = true := by rw [eq_list, h]; decide
    have h24 : ¬ 24 < s.size := by rw [HZ.out, h]; decide
    have hsz : s.size ≤ 2 := by rw [HZ.out, h]; decide
    clear h
    go_enter Tryz.func92, Tryz.ntmps92
    go_wp2
    go_loop [7, 8] (fun vm vi => ∃ i : Nat, vm = .int .i64 (d : Int) ∧ i ≤ s.size ∧ vi = .int .i64 (i : Int) ∧ Hid (rg s.data.toList = (rg (s.data.toList.drop i)).map (· + i))) (fun _ vi => s.size - (intOf vi).toNat)
    case atStart => exact ⟨0, rfl, Nat.zero_le _, rfl, by show _ = _; simp⟩
    case round =>
      obtain ⟨i, rfl, hi, rfl, HR⟩ := hrel
      by_cases hlt : i < s.size
      · have hs := rg_step s.data.toList i (by rw [← HZ.out]; exact hlt)
        have hle := step_le s.data.toList i (by rw [← HZ.out]; exact hlt)
        rw [← HZ.out] at hle
        go_wp2_with fail
        refine (point_any s i hlt hl _).mono ?_
        rintro e w1 ⟨⟨c, rfl, hc⟩, rfl⟩
        obtain ⟨hg, hneg⟩ := good_point hc
        rw [← hg] at hs
        obtain ⟨n, hn⟩ : ∃ n, n = (dec (s.data.toList.drop i)).2 := ⟨_, rfl⟩
        rw [← hn] at hs hle ⊢
        have HS : Hid _ := hs
        clear hs hc hg hn
        cases hgc : goodI c with
        | true =>
          have hc1 : ¬ c < 0 := fun e => by have := hneg e; rw [hgc] at this; simp at this
          clear hneg
          go_wp2_with fail
          refine (good_any c _).mono ?_
          rintro e w2 ⟨rfl, rfl⟩
          rw [hgc]
          go_wp2
          refine ⟨⟨i + n, rfl, by omega, by simp, ?_⟩, ?_⟩
          · show _ = _
            rw [HR.out, HS.out, hgc, if_pos rfl, Option.map_map]
            congr 1
            funext x
            simp only [Function.comp]
            omega
          · simp [intOf]; omega
        | false =>
          have HE : Hid (rg s.data.toList = some i) := by
            show _ = _
            rw [HR.out, HS.out, hgc]
            simp
          have HV : Hid (((mn d f (some i) : Nat) : Int) = if (f : Int) + i < d then (f : Int) + i else d) := mn_cast d f i
          by_cases hc1 : c < 0
          · clear hneg
            by_cases hx : (f : Int) + i < d
            · go_wp2
              go_ret
              exact ⟨by rw [HE.out, HV.out, if_pos (by omega)]; rfl, rfl⟩
            · go_wp2
              go_ret
              exact ⟨by rw [HE.out, HV.out, if_neg (by omega)]; rfl, rfl⟩
          · clear hneg
            by_cases hx : (f : Int) + i < d
            · go_wp2_with (go_at_call 101; refine (good_any c _).mono ?_; rintro e w2 ⟨rfl, rfl⟩; rw [hgc])
              go_ret
              exact ⟨by rw [HE.out, HV.out, if_pos (by omega)]; rfl, rfl⟩
            · go_wp2_with (go_at_call 101; refine (good_any c _).mono ?_; rintro e w2 ⟨rfl, rfl⟩; rw [hgc])
              go_ret
              exact ⟨by rw [HE.out, HV.out, if_neg (by omega)]; rfl, rfl⟩
      · have HE : Hid (rg s.data.toList = none) := by
          show _ = _
          rw [HR.out, List.drop_eq_nil_of_le (by rw [← HZ.out]; omega), rg_nil]; rfl
        go_wp2
        go_ret
        exact ⟨by rw [HE.out]; rfl, rfl⟩

end Go.Proofs.YtkcapiblicfboaaGreatDoor
