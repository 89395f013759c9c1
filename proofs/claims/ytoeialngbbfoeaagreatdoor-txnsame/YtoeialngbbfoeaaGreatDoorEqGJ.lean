/- EqAcl and EqIds of lagoonref00 at any two lists: true only where the data are the same; nothing is changed. -/
import Derived.Test.YtoeialngbbfoeaaGreatDoorEqRJ
namespace Go.Proofs.YtoeialngbbfoeaaGreatDoor
open Go.RowKit
set_option maxRecDepth 8000

theorem eqIdInV (d : Nat) (a b c e : ByteArray) (w : World) : (Op.equalIn (d + 1 + 1) 103 (.agg #[.string a, .string b]) (.agg #[.string c, .string e])).run Tryz.prog w = .ok ((a.toList == c.toList) && (b.toList == e.toList)) w := by
  have hu : Tryz.prog.underlying 103 = some (.struct (Tryz.prog.fieldsOf 103)) := by kernel_rfl
  have hp : Tryz.prog.stoodInHeld 103 = false := by kernel_rfl
  have u3 := Tryz.underlying9
  have a3 := Tryz.isAgg9
  have z3 := Tryz.sizeOf9
  rw [run_equalIn_agg w (d + 1) _ _ _ hu hp]
  simp only [Program.fieldsOf, Tryz.underlying103]
  clear hu hp
  go_simp
  by_cases h1 : a.toList = c.toList <;> by_cases h2 : b.toList = e.toList <;> simp [h1, h2]

theorem neqIdV (a b c e : ByteArray) (w : World) : (binOp .neq 103 (.agg #[.string a, .string b]) (.agg #[.string c, .string e])).run Tryz.prog w = .ok (.bool (!((a.toList == c.toList) && (b.toList == e.toList)))) w := by
  have := eqIdInV 9998 a b c e w
  rw [run_neq_struct]
  rw [show (10000 : Nat) = 9998 + 1 + 1 from rfl, this]
  rfl

theorem neqEnV (p q : Int) (a b c e : ByteArray) (w : World) : (binOp .neq 105 (.agg #[.int .i8 p, .string a, .string b]) (.agg #[.int .i8 q, .string c, .string e])).run Tryz.prog w = .ok (.bool (!((p == q) && ((a.toList == c.toList) && (b.toList == e.toList))))) w := by
  have hu : Tryz.prog.underlying 105 = some (.struct (Tryz.prog.fieldsOf 105)) := by kernel_rfl
  have hp : Tryz.prog.stoodInHeld 105 = false := by kernel_rfl
  have hin : ∀ w, (Op.equalIn 9999 103 (.agg #[.string a, .string b]) (.agg #[.string c, .string e])).run Tryz.prog w = .ok ((a.toList == c.toList) && (b.toList == e.toList)) w := eqIdInV 9997 a b c e
  have u4 := Tryz.underlying25
  have a4 := Tryz.isAgg25
  have z4 := Tryz.sizeOf25
  have a5 := Tryz.isAgg103
  have z5 := Tryz.sizeOf103
  rw [run_neq_struct, show (10000 : Nat) = 9999 + 1 from rfl, run_equalIn_agg w 9999 _ _ _ hu hp]
  simp only [Program.fieldsOf, Tryz.underlying105]
  clear hu hp
  go_simp
  by_cases h0 : p = q <;> by_cases h1 : a.toList = c.toList <;> by_cases h2 : b.toList = e.toList <;> simp [h0, h1, h2]

theorem bytes_same {a b : ByteArray} (h : (a.toList == b.toList) = true) : a = b := by
  have : a.toList = b.toList := by simpa using h
  rw [ByteArray.toList_eq, ByteArray.toList_eq] at this
  obtain ⟨⟨x⟩⟩ := a
  obtain ⟨⟨y⟩⟩ := b
  simp at this
  rw [this]

set_option maxHeartbeats 800000 in
theorem eqIds_sound (v u : Value) (l m : List IdD) (w : World) (h : SeesR w v 2 (l.map IdD.cells)) (g : SeesR w u 2 (m.map IdD.cells)) :
    Calls Tryz.prog 80 #[v, u] w fun e w' => ∃ b : Bool, e = .returned (.bool b) ∧ (b = true → l = m) ∧ ∃ n, w' = w.drewN n := by
  obtain ⟨ao, cap, rfl, hlc, hcm, _, h3⟩ := h
  obtain ⟨bo, cbp, rfl, glc, gcm, _, g3⟩ := g
  unfold maxLen at hcm gcm
  have hg : Tryz.prog.eqGuardType Tryz.prog.depth 103 = false := by kernel_rfl
  simp only [List.length_map] at hlc glc ⊢
  by_cases hlm : l.length = m.length
  · have HLM : Hid _ := hlm
    rw [← hlm] at glc ⊢
    clear hlm
    go_enter Tryz.func80, Tryz.ntmps80
    go_wp2
    go_loopw [4, 5] (fun _ i wr => ∃ k n : Nat, k ≤ l.length ∧ i = .int .i64 k ∧ wr = w.drewN n ∧ Hid (l.take k = m.take k)) (fun _ i _ => l.length - (intOf i).toNat)
    case atStart => exact ⟨0, 0, Nat.zero_le _, rfl, rfl, rfl⟩
    case round =>
      obtain ⟨k, n, hk, rfl, rfl, HT⟩ := hrel
      by_cases hlt : k < l.length
      · have hlt' : k < m.length := by rw [← HLM.out]; exact hlt
        rcases h3 with h3 | ⟨b, off, rfl, h3⟩
        · have : l.length = 0 := by simpa using congrArg List.length h3
          omega
        · rcases g3 with g3 | ⟨b', off', rfl, g3⟩
          · have : m.length = 0 := by simpa using congrArg List.length g3
            omega
          · have c0 := h3 k (by simpa using hlt) 0 (by omega)
            have c1 := h3 k (by simpa using hlt) 1 (by omega)
            have e0 := g3 k (by simpa using hlt') 0 (by omega)
            have e1 := g3 k (by simpa using hlt') 1 (by omega)
            simp [IdD.cells] at c0 c1 e0 e1
            have HN : Hid (l[k] = m[k] → l.take (k + 1) = m.take (k + 1)) := fun e => by
              rw [List.take_succ_eq_append_getElem hlt, List.take_succ_eq_append_getElem hlt', HT.out, e]
            clear h3 g3 HT
            generalize l[k] = x at *
            generalize m[k] = y at *
            clear hlt'
            have hq := neqIdV x.scheme x.name y.scheme y.name
            cases hb : ((x.scheme.toList == y.scheme.toList) && (x.name.toList == y.name.toList)) with
            | true =>
              have HN' : Hid (l.take (k + 1) = m.take (k + 1)) := by
                refine HN.out ?_
                simp only [Bool.and_eq_true] at hb
                obtain ⟨xs, xn⟩ := x
                obtain ⟨ys, yn⟩ := y
                have h1 := bytes_same hb.1
                have h2 := bytes_same hb.2
                simp only at h1 h2
                rw [h1, h2]
              rw [hb] at hq
              clear HN hb
              go_wp2
              go_quiet (fail)
              go_wp2
              go_roundw
              case rel => exact ⟨k + 1, _, by omega, by go_num, rfl, HN'⟩
              case measure => simp [intOf]; omega
            | false =>
              rw [hb] at hq
              clear HN hb
              go_wp2
              go_quiet (fail)
              go_wp2
              go_ret
              exact ⟨false, rfl, (fun h => by cases h), n + nq, by simp⟩
      · obtain rfl : k = l.length := by omega
        have HE : Hid (l = m) := by
          have := HT.out
          rw [List.take_length, HLM.out, List.take_length] at this
          exact this
        clear HT
        go_wp2
        go_ret
        exact ⟨true, rfl, fun _ => HE.out, n, rfl⟩
  · have hne : ((l.length : Int) != (m.length : Int)) = true := by simp; omega
    clear h3 g3
    go_enter Tryz.func80, Tryz.ntmps80
    go_wp2
    go_ret
    exact ⟨false, rfl, (fun h => by cases h), 0, rfl⟩
set_option maxHeartbeats 800000 in
theorem eqAcl_sound (v u : Value) (l m : List EnD) (w : World) (h : SeesR w v 3 (l.map EnD.cells)) (g : SeesR w u 3 (m.map EnD.cells)) :
    Calls Tryz.prog 79 #[v, u] w fun e w' => ∃ b : Bool, e = .returned (.bool b) ∧ (b = true → l = m) ∧ ∃ n, w' = w.drewN n := by
  obtain ⟨ao, cap, rfl, hlc, hcm, _, h3⟩ := h
  obtain ⟨bo, cbp, rfl, glc, gcm, _, g3⟩ := g
  unfold maxLen at hcm gcm
  have hg : Tryz.prog.eqGuardType Tryz.prog.depth 105 = false := by kernel_rfl
  simp only [List.length_map] at hlc glc ⊢
  by_cases hlm : l.length = m.length
  · have HLM : Hid _ := hlm
    rw [← hlm] at glc ⊢
    clear hlm
    go_enter Tryz.func79, Tryz.ntmps79
    go_wp2
    go_loopw [4, 5] (fun _ i wr => ∃ k n : Nat, k ≤ l.length ∧ i = .int .i64 k ∧ wr = w.drewN n ∧ Hid (l.take k = m.take k)) (fun _ i _ => l.length - (intOf i).toNat)
    case atStart => exact ⟨0, 0, Nat.zero_le _, rfl, rfl, rfl⟩
    case round =>
      obtain ⟨k, n, hk, rfl, rfl, HT⟩ := hrel
      by_cases hlt : k < l.length
      · have hlt' : k < m.length := by rw [← HLM.out]; exact hlt
        rcases h3 with h3 | ⟨b, off, rfl, h3⟩
        · have : l.length = 0 := by simpa using congrArg List.length h3
          omega
        · rcases g3 with g3 | ⟨b', off', rfl, g3⟩
          · have : m.length = 0 := by simpa using congrArg List.length g3
            omega
          · have c0 := h3 k (by simpa using hlt) 0 (by omega)
            have c1 := h3 k (by simpa using hlt) 1 (by omega)
            have e0 := g3 k (by simpa using hlt') 0 (by omega)
            have e1 := g3 k (by simpa using hlt') 1 (by omega)
            have c2 := h3 k (by simpa using hlt) 2 (by omega)
            have e2 := g3 k (by simpa using hlt') 2 (by omega)
            simp [EnD.cells] at c0 c1 c2 e0 e1 e2
            have HN : Hid (l[k] = m[k] → l.take (k + 1) = m.take (k + 1)) := fun e => by
              rw [List.take_succ_eq_append_getElem hlt, List.take_succ_eq_append_getElem hlt', HT.out, e]
            clear h3 g3 HT
            generalize l[k] = x at *
            generalize m[k] = y at *
            clear hlt'
            have hq := neqEnV x.perms y.perms x.id.scheme x.id.name y.id.scheme y.id.name
            cases hb : ((x.perms == y.perms) && ((x.id.scheme.toList == y.id.scheme.toList) && (x.id.name.toList == y.id.name.toList))) with
            | true =>
              have HN' : Hid (l.take (k + 1) = m.take (k + 1)) := by
                refine HN.out ?_
                simp only [Bool.and_eq_true] at hb
                obtain ⟨xp, xs, xn⟩ := x
                obtain ⟨yp, ys, yn⟩ := y
                have h0 : xp = yp := by simpa using hb.1
                have h1 := bytes_same hb.2.1
                have h2 := bytes_same hb.2.2
                simp only at h1 h2
                rw [h0, h1, h2]
              rw [hb] at hq
              clear HN hb
              go_wp2
              go_quiet (fail)
              go_wp2
              go_roundw
              case rel => exact ⟨k + 1, _, by omega, by go_num, rfl, HN'⟩
              case measure => simp [intOf]; omega
            | false =>
              rw [hb] at hq
              clear HN hb
              go_wp2
              go_quiet (fail)
              go_wp2
              go_ret
              exact ⟨false, rfl, (fun h => by cases h), n + nq, by simp⟩
      · obtain rfl : k = l.length := by omega
        have HE : Hid (l = m) := by
          have := HT.out
          rw [List.take_length, HLM.out, List.take_length] at this
          exact this
        clear HT
        go_wp2
        go_ret
        exact ⟨true, rfl, fun _ => HE.out, n, rfl⟩
  · have hne : ((l.length : Int) != (m.length : Int)) = true := by simp; omega
    clear h3 g3
    go_enter Tryz.func79, Tryz.ntmps79
    go_wp2
    go_ret
    exact ⟨false, rfl, (fun h => by cases h), 0, rfl⟩
end Go.Proofs.YtoeialngbbfoeaaGreatDoor
