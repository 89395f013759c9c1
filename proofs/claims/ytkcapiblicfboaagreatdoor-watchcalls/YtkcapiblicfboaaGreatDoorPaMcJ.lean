/- What the document's fault answers of a name: too many bytes, or right in its shape. -/
import Derived.Test.YtkcapiblicfboaaGreatDoorPaMJ
namespace Go.Proofs.YtkcapiblicfboaaGreatDoor
open Go.RowKit Go.Shelf
set_option maxRecDepth 8000

set_option maxHeartbeats 2000000 in
theorem faultR_Blt (s : ByteArray) (f d m : Nat) (hl : s.size ≤ 4294967296) (hf : f ≤ 4294967296) (_hd : d ≤ 4294967297) (w : World) (h : ¬ (s.data.toList = [] ∨ s.data.toList = [46] ∨ s.data.toList = [46, 46])) (h24 : 24 < s.size) (hm : (m : Int) = (f : Int) + 24) (hfd : (f : Int) + 24 < d) :
    Calls Tryz.prog 92 #[.string s, .int .i64 (f : Int), .int .i64 (d : Int)] w fun e w' => e = .returned (.int .i64 ((mn m f (rg s.data.toList) : Nat) : Int)) ∧ w' = w := by
    have HZ : Hid (s.size = s.data.toList.length) := size_list s
    have e0 := eq_list s []
    have e1 := eq_list s [46]
    have e2 := eq_list s [46, 46]
    rw [decide_eq_false (fun e => h (.inl e))] at e0
    rw [decide_eq_false (fun e => h (.inr (.inl e)))] at e1
    rw [decide_eq_false (fun e => h (.inr (.inr e)))] at e2
    have HM : Hid ((m : Int) = (f : Int) + 24) := hm
    have hmd : m ≤ 4294967320 := by omega
    clear hm
    go_enter Tryz.func92, Tryz.ntmps92
    go_wp2
    rw [← HM.out]
    clear hfd
    go_loop [7, 8] (fun vm vi => ∃ i : Nat, vm = .int .i64 (m : Int) ∧ i ≤ s.size ∧ vi = .int .i64 (i : Int) ∧ Hid (rg s.data.toList = (rg (s.data.toList.drop i)).map (· + i))) (fun _ vi => s.size - (intOf vi).toNat)
    case atStart => exact ⟨0, rfl, Nat.zero_le _, rfl, by show _ = _; simp⟩
    case round =>
      obtain ⟨i, rfl, hi, rfl, HR⟩ := hrel
      by_cases hlt : i < s.size
      · have hs := rg_step s.data.toList i (by rw [← HZ.out]; exact hlt)
        have hle := step_le s.data.toList i (by rw [← HZ.out]; exact hlt)
        rw [← HZ.out] at hle
        go_wp2_with fail
        refine (point_any s i hlt hl _).mono ?_
        rintro e w1 ⟨⟨c, rfl, hc⟩, rfl⟩
        obtain ⟨hg, hneg⟩ := good_point hc
        rw [← hg] at hs
        obtain ⟨n, hn⟩ : ∃ n, n = (dec (s.data.toList.drop i)).2 := ⟨_, rfl⟩
        rw [← hn] at hs hle ⊢
        have HS : Hid _ := hs
        clear hs hc hg hn
        cases hgc : goodI c with
        | true =>
          have hc1 : ¬ c < 0 := fun e => by have := hneg e; rw [hgc] at this; simp at this
          clear hneg
          go_wp2_with fail
          refine (good_any c _).mono ?_
          rintro e w2 ⟨rfl, rfl⟩
          rw [hgc]
          go_wp2
          refine ⟨⟨i + n, rfl, by omega, by simp, ?_⟩, ?_⟩
          · show _ = _
            rw [HR.out, HS.out, hgc, if_pos rfl, Option.map_map]
            congr 1
            funext x
            simp only [Function.comp]
            omega
          · simp [intOf]; omega
        | false =>
          have HE : Hid (rg s.data.toList = some i) := by
            show _ = _
            rw [HR.out, HS.out, hgc]
            simp
          have HV : Hid (((mn m f (some i) : Nat) : Int) = if (f : Int) + i < m then (f : Int) + i else m) := mn_cast m f i
          by_cases hc1 : c < 0
          · clear hneg
            by_cases hx : (f : Int) + i < m
            · go_wp2
              go_ret
              exact ⟨by rw [HE.out, HV.out, if_pos (by omega)]; rfl, rfl⟩
            · go_wp2
              go_ret
              exact ⟨by rw [HE.out, HV.out, if_neg (by omega)]; rfl, rfl⟩
          · clear hneg
            by_cases hx : (f : Int) + i < m
            · go_wp2_with (go_at_call 101; refine (good_any c _).mono ?_; rintro e w2 ⟨rfl, rfl⟩; rw [hgc])
              go_ret
              exact ⟨by rw [HE.out, HV.out, if_pos (by omega)]; rfl, rfl⟩
            · go_wp2_with (go_at_call 101; refine (good_any c _).mono ?_; rintro e w2 ⟨rfl, rfl⟩; rw [hgc])
              go_ret
              exact ⟨by rw [HE.out, HV.out, if_neg (by omega)]; rfl, rfl⟩
      · have HE : Hid (rg s.data.toList = none) := by
          show _ = _
          rw [HR.out, List.drop_eq_nil_of_le (by rw [← HZ.out]; omega), rg_nil]; rfl
        go_wp2
        go_ret
        exact ⟨by rw [HE.out]; rfl, rfl⟩

set_option maxHeartbeats 2000000 in
theorem faultR_Bge (s : ByteArray) (f d : Nat) (hl : s.size ≤ 4294967296) (hf : f ≤ 4294967296) (_hd : d ≤ 4294967297) (w : World) (h : ¬ (s.data.toList = [] ∨ s.data.toList = [46] ∨ s.data.toList = [46, 46])) (h24 : 24 < s.size) (hfd : ¬ (f : Int) + 24 < d) :
    Calls Tryz.prog 92 #[.string s, .int .i64 (f : Int), .int .i64 (d : Int)] w fun e w' => e = .returned (.int .i64 ((mn d f (rg s.data.toList) : Nat) : Int)) ∧ w' = w := by
    have HZ : Hid (s.size = s.data.toList.length) := size_list s
    have e0 := eq_list s []
    have e1 := eq_list s [46]
    have e2 := eq_list s [46, 46]
    rw [decide_eq_false (fun e => h (.inl e))] at e0
    rw [decide_eq_false (fun e => h (.inr (.inl e)))] at e1
    rw [decide_eq_false (fun e => h (.inr (.inr e)))] at e2
    go_enter Tryz.func92, Tryz.ntmps92
    go_wp2
    go_loop [7, 8] (fun vm vi => ∃ i : Nat, vm = .int .i64 (d : Int) ∧ i ≤ s.size ∧ vi = .int .i64 (i : Int) ∧ Hid (rg s.data.toList = (rg (s.data.toList.drop i)).map (· + i))) (fun _ vi => s.size - (intOf vi).toNat)
    case atStart => exact ⟨0, rfl, Nat.zero_le _, rfl, by show _ = _; simp⟩
    case round =>
      obtain ⟨i, rfl, hi, rfl, HR⟩ := hrel
      by_cases hlt : i < s.size
      · have hs := rg_step s.data.toList i (by rw [← HZ.out]; exact hlt)
        have hle := step_le s.data.toList i (by rw [← HZ.out]; exact hlt)
        rw [← HZ.out] at hle
        go_wp2_with fail
        refine (point_any s i hlt hl _).mono ?_
        rintro e w1 ⟨⟨c, rfl, hc⟩, rfl⟩
        obtain ⟨hg, hneg⟩ := good_point hc
        rw [← hg] at hs
        obtain ⟨n, hn⟩ : ∃ n, n = (dec (s.data.toList.drop i)).2 := ⟨_, rfl⟩
        rw [← hn] at hs hle ⊢
        have HS : Hid _ := hs
        clear hs hc hg hn
        cases hgc : goodI c with
        | true =>
          have hc1 : ¬ c < 0 := fun e => by have := hneg e; rw [hgc] at this; simp at this
          clear hneg
          go_wp2_with fail
          refine (good_any c _).mono ?_
          rintro e w2 ⟨rfl, rfl⟩
          rw [hgc]
          go_wp2
          refine ⟨⟨i + n, rfl, by omega, by simp, ?_⟩, ?_⟩
          · show _ = _
            rw [HR.out, HS.out, hgc, if_pos rfl, Option.map_map]
            congr 1
            funext x
            simp only [Function.comp]
            omega
          · simp [intOf]; omega
        | false =>
          have HE : Hid (rg s.data.toList = some i) := by
            show _ = _
            rw [HR.out, HS.out, hgc]
            simp
          have HV : Hid (((mn d f (some i) : Nat) : Int) = if (f : Int) + i < d then (f : Int) + i else d) := mn_cast d f i
          by_cases hc1 : c < 0
          · clear hneg
            by_cases hx : (f : Int) + i < d
            · go_wp2
              go_ret
              exact ⟨by rw [HE.out, HV.out, if_pos (by omega)]; rfl, rfl⟩
            · go_wp2
              go_ret
              exact ⟨by rw [HE.out, HV.out, if_neg (by omega)]; rfl, rfl⟩
          · clear hneg
            by_cases hx : (f : Int) + i < d
            · go_wp2_with (go_at_call 101; refine (good_any c _).mono ?_; rintro e w2 ⟨rfl, rfl⟩; rw [hgc])
              go_ret
              exact ⟨by rw [HE.out, HV.out, if_pos (by omega)]; rfl, rfl⟩
            · go_wp2_with (go_at_call 101; refine (good_any c _).mono ?_; rintro e w2 ⟨rfl, rfl⟩; rw [hgc])
              go_ret
              exact ⟨by rw [HE.out, HV.out, if_neg (by omega)]; rfl, rfl⟩
      · have HE : Hid (rg s.data.toList = none) := by
          show _ = _
          rw [HR.out, List.drop_eq_nil_of_le (by rw [← HZ.out]; omega), rg_nil]; rfl
        go_wp2
        go_ret
        exact ⟨by rw [HE.out]; rfl, rfl⟩

set_option maxHeartbeats 2000000 in
theorem faultR_C (s : ByteArray) (f d : Nat) (hl : s.size ≤ 4294967296) (hf : f ≤ 4294967296) (_hd : d ≤ 4294967297) (w : World) (h : ¬ (s.data.toList = [] ∨ s.data.toList = [46] ∨ s.data.toList = [46, 46])) (h24 : ¬ 24 < s.size) :
    Calls Tryz.prog 92 #[.string s, .int .i64 (f : Int), .int .i64 (d : Int)] w fun e w' => e = .returned (.int .i64 ((mn d f (rg s.data.toList) : Nat) : Int)) ∧ w' = w := by
    have HZ : Hid (s.size = s.data.toList.length) := size_list s
    have e0 := eq_list s []
    have e1 := eq_list s [46]
    have e2 := eq_list s [46, 46]
    rw [decide_eq_false (fun e => h (.inl e))] at e0
    rw [decide_eq_false (fun e => h (.inr (.inl e)))] at e1
    rw [decide_eq_false (fun e => h (.inr (.inr e)))] at e2
    go_enter Tryz.func92, Tryz.ntmps92
    go_wp2
    go_loop [7, 8] (fun vm vi => ∃ i : Nat, vm = .int .i64 (d : Int) ∧ i ≤ s.size ∧ vi = .int .i64 (i : Int) ∧ Hid (rg s.data.toList = (rg (s.data.toList.drop i)).map (· + i))) (fun _ vi => s.size - (intOf vi).toNat)
    case atStart => exact ⟨0, rfl, Nat.zero_le _, rfl, by show _ = _; simp⟩
    case round =>
      obtain ⟨i, rfl, hi, rfl, HR⟩ := hrel
      by_cases hlt : i < s.size
      · have hs := rg_step s.data.toList i (by rw [← HZ.out]; exact hlt)
        have hle := step_le s.data.toList i (by rw [← HZ.out]; exact hlt)
        rw [← HZ.out] at hle
        go_wp2_with fail
        refine (point_any s i hlt hl _).mono ?_
        rintro e w1 ⟨⟨c, rfl, hc⟩, rfl⟩
        obtain ⟨hg, hneg⟩ := good_point hc
        rw [← hg] at hs
        obtain ⟨n, hn⟩ : ∃ n, n = (dec (s.data.toList.drop i)).2 := ⟨_, rfl⟩
        rw [← hn] at hs hle ⊢
        have HS : Hid _ := hs
        clear hs hc hg hn
        cases hgc : goodI c with
        | true =>
          have hc1 : ¬ c < 0 := fun e => by have := hneg e; rw [hgc] at this; simp at this
          clear hneg
          go_wp2_with fail
          refine (good_any c _).mono ?_
          rintro e w2 ⟨rfl, rfl⟩
          rw [hgc]
          go_wp2
          refine ⟨⟨i + n, rfl, by omega, by simp, ?_⟩, ?_⟩
          · show _ = _
            rw [HR.out, HS.out, hgc, if_pos rfl, Option.map_map]
            congr 1
            funext x
            simp only [Function.comp]
            omega
          · simp [intOf]; omega
        | false =>
          have HE : Hid (rg s.data.toList = some i) := by
            show _ = _
            rw [HR.out, HS.out, hgc]
            simp
          have HV : Hid (((mn d f (some i) : Nat) : Int) = if (f : Int) + i < d then (f : Int) + i else d) := mn_cast d f i
          by_cases hc1 : c < 0
          · clear hneg
            by_cases hx : (f : Int) + i < d
            · go_wp2
              go_ret
              exact ⟨by rw [HE.out, HV.out, if_pos (by omega)]; rfl, rfl⟩
            · go_wp2
              go_ret
              exact ⟨by rw [HE.out, HV.out, if_neg (by omega)]; rfl, rfl⟩
          · clear hneg
            by_cases hx : (f : Int) + i < d
            · go_wp2_with (go_at_call 101; refine (good_any c _).mono ?_; rintro e w2 ⟨rfl, rfl⟩; rw [hgc])
              go_ret
              exact ⟨by rw [HE.out, HV.out, if_pos (by omega)]; rfl, rfl⟩
            · go_wp2_with (go_at_call 101; refine (good_any c _).mono ?_; rintro e w2 ⟨rfl, rfl⟩; rw [hgc])
              go_ret
              exact ⟨by rw [HE.out, HV.out, if_neg (by omega)]; rfl, rfl⟩
      · have HE : Hid (rg s.data.toList = none) := by
          show _ = _
          rw [HR.out, List.drop_eq_nil_of_le (by rw [← HZ.out]; omega), rg_nil]; rfl
        go_wp2
        go_ret
        exact ⟨by rw [HE.out]; rfl, rfl⟩

end Go.Proofs.YtkcapiblicfboaaGreatDoor
