/- bytes.Equal, slices.Equal at ids and at entries, at any two lists: true only where the data are the same. -/
import Derived.Test.YtoeialngbbfoeaaGreatDoorWfMJ
import Derived.Test.YtoeialngbbfoeaaGreatDoorEqGJ
namespace Go.Proofs.YtoeialngbbfoeaaGreatDoor
open Go.RowKit
set_option maxRecDepth 8000

theorem u8_inj {x y : Int} (hx : 0 ≤ x ∧ x ≤ 255) (hy : 0 ≤ y ∧ y ≤ 255) (h : UInt8.ofNat x.toNat = UInt8.ofNat y.toNat) : x = y := by
  have e := congrArg UInt8.toNat h
  simp at e
  omega

theorem nums_inj : ∀ {xs ys : List Int}, (∀ x ∈ xs, 0 ≤ x ∧ x ≤ 255) → (∀ y ∈ ys, 0 ≤ y ∧ y ≤ 255) → xs.map (fun x => UInt8.ofNat x.toNat) = ys.map (fun x => UInt8.ofNat x.toNat) → xs = ys
  | [], [], _, _, _ => rfl
  | [], y :: ys, _, _, h => by simp at h
  | x :: xs, [], _, _, h => by simp at h
  | x :: xs, y :: ys, hx, hy, h => by
    simp only [List.map_cons, List.cons.injEq] at h
    rw [u8_inj (hx x (by simp)) (hy y (by simp)) h.1, nums_inj (fun z hz => hx z (by simp [hz])) (fun z hz => hy z (by simp [hz])) h.2]

theorem bytesEqual_sound (v u : Value) (xs ys : List Int) (w : World) (h : Sees w v xs) (g : Sees w u ys) (bx : Byts xs) (by' : Byts ys) :
    Calls Tryz.prog 70 #[v, u] w fun e w' => ∃ b : Bool, e = .returned (.bool b) ∧ (b = true → xs = ys) ∧ w' = w := by
  have h1 := run_text w v xs h
  have h2 := run_text w u ys g
  obtain ⟨ao, cap, rfl, _⟩ := h
  obtain ⟨bo, cbp, rfl, _⟩ := g
  go_enter Tryz.func70, Tryz.ntmps70
  go_wp2
  go_ret
  refine ⟨_, rfl, fun hb => ?_, rfl⟩
  have e := eq_of_beq hb
  rw [ByteArray.toList_eq, ByteArray.toList_eq, strOfNums_data, strOfNums_data] at e
  exact nums_inj bx by' (by simpa using e)

set_option maxHeartbeats 800000 in
theorem slEqId_sound (v u : Value) (l m : List IdD) (w : World) (h : SeesR w v 2 (l.map IdD.cells)) (g : SeesR w u 2 (m.map IdD.cells)) :
    Calls Tryz.prog 72 #[v, u] w fun e w' => ∃ b : Bool, e = .returned (.bool b) ∧ (b = true → l = m) ∧ ∃ n, w' = w.drewN n := by
  obtain ⟨ao, cap, rfl, hlc, hcm, _, h3⟩ := h
  obtain ⟨bo, cbp, rfl, glc, gcm, _, g3⟩ := g
  unfold maxLen at hcm gcm
  have hg : Tryz.prog.eqGuardType Tryz.prog.depth 103 = false := by kernel_rfl
  simp only [List.length_map] at hlc glc ⊢
  by_cases hlm : l.length = m.length
  · have HLM : Hid _ := hlm
    rw [← hlm] at glc ⊢
    clear hlm
    go_enter Tryz.func72, Tryz.ntmps72
    go_wp2
    go_loopw [13] (fun i wr => ∃ k n : Nat, k ≤ l.length ∧ i = .int .i64 k ∧ wr = w.drewN n ∧ Hid (l.take k = m.take k)) (fun i _ => l.length - (intOf i).toNat)
    case atStart => exact ⟨0, 0, Nat.zero_le _, rfl, rfl, rfl⟩
    case round =>
      obtain ⟨k, n, hk, rfl, rfl, HT⟩ := hrel
      by_cases hlt : k < l.length
      · have hlt' : k < m.length := by rw [← HLM.out]; exact hlt
        rcases h3 with h3 | ⟨b, off, rfl, h3⟩
        · have : l.length = 0 := by simpa using congrArg List.length h3
          omega
        · rcases g3 with g3 | ⟨b', off', rfl, g3⟩
          · have : m.length = 0 := by simpa using congrArg List.length g3
            omega
          · have c0 := h3 k (by simpa using hlt) 0 (by omega)
            have e0 := g3 k (by simpa using hlt') 0 (by omega)
            have c1 := h3 k (by simpa using hlt) 1 (by omega)
            have e1 := g3 k (by simpa using hlt') 1 (by omega)
            simp [IdD.cells] at c0 c1 e0 e1
            have HN : Hid (l[k] = m[k] → l.take (k + 1) = m.take (k + 1)) := fun e => by
              rw [List.take_succ_eq_append_getElem hlt, List.take_succ_eq_append_getElem hlt', HT.out, e]
            clear h3 g3 HT
            generalize l[k] = x at *
            generalize m[k] = y at *
            clear hlt'
            have hq := neqIdV x.scheme x.name y.scheme y.name
            cases hb : ((x.scheme.toList == y.scheme.toList) && (x.name.toList == y.name.toList)) with
            | true =>
              have HN' : Hid (l.take (k + 1) = m.take (k + 1)) := by
                refine HN.out ?_
                simp only [Bool.and_eq_true] at hb
                obtain ⟨xs, xn⟩ := x
                obtain ⟨ys, yn⟩ := y
                have h1 := bytes_same hb.1
                have h2 := bytes_same hb.2
                simp only at h1 h2
                rw [h1, h2]
              rw [hb] at hq
              clear HN hb
              go_wp2
              go_quiet (fail)
              go_wp2
              go_roundw
              case rel => exact ⟨k + 1, _, by omega, by go_num, rfl, HN'⟩
              case measure => simp [intOf]; omega
            | false =>
              rw [hb] at hq
              clear HN hb
              go_wp2
              go_quiet (fail)
              go_wp2
              go_ret
              exact ⟨false, rfl, (fun h => by cases h), n + nq, by simp⟩
      · obtain rfl : k = l.length := by omega
        have HE : Hid (l = m) := by
          have := HT.out
          rw [List.take_length, HLM.out, List.take_length] at this
          exact this
        clear HT
        go_wp2
        go_ret
        exact ⟨true, rfl, fun _ => HE.out, n, rfl⟩
  · have hne : ((l.length : Int) != (m.length : Int)) = true := by simp; omega
    clear h3 g3
    go_enter Tryz.func72, Tryz.ntmps72
    go_wp2
    go_ret
    exact ⟨false, rfl, (fun h => by cases h), 0, rfl⟩

set_option maxHeartbeats 800000 in
theorem slEqEntry_sound (v u : Value) (l m : List EnD) (w : World) (h : SeesR w v 3 (l.map EnD.cells)) (g : SeesR w u 3 (m.map EnD.cells)) :
    Calls Tryz.prog 71 #[v, u] w fun e w' => ∃ b : Bool, e = .returned (.bool b) ∧ (b = true → l = m) ∧ ∃ n, w' = w.drewN n := by
  obtain ⟨ao, cap, rfl, hlc, hcm, _, h3⟩ := h
  obtain ⟨bo, cbp, rfl, glc, gcm, _, g3⟩ := g
  unfold maxLen at hcm gcm
  have hg : Tryz.prog.eqGuardType Tryz.prog.depth 105 = false := by kernel_rfl
  simp only [List.length_map] at hlc glc ⊢
  by_cases hlm : l.length = m.length
  · have HLM : Hid _ := hlm
    rw [← hlm] at glc ⊢
    clear hlm
    go_enter Tryz.func71, Tryz.ntmps71
    go_wp2
    go_loopw [13] (fun i wr => ∃ k n : Nat, k ≤ l.length ∧ i = .int .i64 k ∧ wr = w.drewN n ∧ Hid (l.take k = m.take k)) (fun i _ => l.length - (intOf i).toNat)
    case atStart => exact ⟨0, 0, Nat.zero_le _, rfl, rfl, rfl⟩
    case round =>
      obtain ⟨k, n, hk, rfl, rfl, HT⟩ := hrel
      by_cases hlt : k < l.length
      · have hlt' : k < m.length := by rw [← HLM.out]; exact hlt
        rcases h3 with h3 | ⟨b, off, rfl, h3⟩
        · have : l.length = 0 := by simpa using congrArg List.length h3
          omega
        · rcases g3 with g3 | ⟨b', off', rfl, g3⟩
          · have : m.length = 0 := by simpa using congrArg List.length g3
            omega
          · have c0 := h3 k (by simpa using hlt) 0 (by omega)
            have e0 := g3 k (by simpa using hlt') 0 (by omega)
            have c1 := h3 k (by simpa using hlt) 1 (by omega)
            have e1 := g3 k (by simpa using hlt') 1 (by omega)
            have c2 := h3 k (by simpa using hlt) 2 (by omega)
            have e2 := g3 k (by simpa using hlt') 2 (by omega)
            simp [EnD.cells] at c0 c1 c2 e0 e1 e2
            have HN : Hid (l[k] = m[k] → l.take (k + 1) = m.take (k + 1)) := fun e => by
              rw [List.take_succ_eq_append_getElem hlt, List.take_succ_eq_append_getElem hlt', HT.out, e]
            clear h3 g3 HT
            generalize l[k] = x at *
            generalize m[k] = y at *
            clear hlt'
            have hq := neqEnV x.perms y.perms x.id.scheme x.id.name y.id.scheme y.id.name
            cases hb : ((x.perms == y.perms) && ((x.id.scheme.toList == y.id.scheme.toList) && (x.id.name.toList == y.id.name.toList))) with
            | true =>
              have HN' : Hid (l.take (k + 1) = m.take (k + 1)) := by
                refine HN.out ?_
                simp only [Bool.and_eq_true] at hb
                obtain ⟨xp, xs, xn⟩ := x
                obtain ⟨yp, ys, yn⟩ := y
                have h0 : xp = yp := by simpa using hb.1
                have h1 := bytes_same hb.2.1
                have h2 := bytes_same hb.2.2
                simp only at h1 h2
                rw [h0, h1, h2]
              rw [hb] at hq
              clear HN hb
              go_wp2
              go_quiet (fail)
              go_wp2
              go_roundw
              case rel => exact ⟨k + 1, _, by omega, by go_num, rfl, HN'⟩
              case measure => simp [intOf]; omega
            | false =>
              rw [hb] at hq
              clear HN hb
              go_wp2
              go_quiet (fail)
              go_wp2
              go_ret
              exact ⟨false, rfl, (fun h => by cases h), n + nq, by simp⟩
      · obtain rfl : k = l.length := by omega
        have HE : Hid (l = m) := by
          have := HT.out
          rw [List.take_length, HLM.out, List.take_length] at this
          exact this
        clear HT
        go_wp2
        go_ret
        exact ⟨true, rfl, fun _ => HE.out, n, rfl⟩
  · have hne : ((l.length : Int) != (m.length : Int)) = true := by simp; omega
    clear h3 g3
    go_enter Tryz.func71, Tryz.ntmps71
    go_wp2
    go_ret
    exact ⟨false, rfl, (fun h => by cases h), 0, rfl⟩

end Go.Proofs.YtoeialngbbfoeaaGreatDoor
