/- What acl's isWithin answers, for all texts. -/
import Derived.Test.YtgoiefhhbgollaaGreatDoorQbGJ
import Derived.DeepKeys
namespace Go.Proofs.YtgoiefhhbgollaaGreatDoor
open Go.RowKit Go.Shelf
set_option maxRecDepth 8000

theorem eqItem_step (xs ys : Array Value) (is : List Nat) (i : Nat) (a b : Int) (w : World) (ha : xs[i]? = some (.int .u8 a)) (hb : ys[i]? = some (.int .u8 b)) :
    (Op.eqItems 9999 5 1 xs ys (i :: is)).run Tryz.prog w = if a = b then (Op.eqItems 9999 5 1 xs ys is).run Tryz.prog w else .ok false w := by
  have he : Tryz.prog.plainKey 5 = true := by kernel_rfl
  have p1 : (part 5 xs (i * 1)).run Tryz.prog w = .ok (.int .u8 a) w := run_part_plain w he (by rw [Nat.mul_one]; exact ha)
  have p2 : (part 5 ys (i * 1)).run Tryz.prog w = .ok (.int .u8 b) w := run_part_plain w he (by rw [Nat.mul_one]; exact hb)
  have q : (Op.equalIn 9999 5 (.int .u8 a) (.int .u8 b)).run Tryz.prog w = .ok (a == b) w := run_equalIn_int w 9998 5 .u8 .u8 a b Tryz.underlying5
  simp only [Op.eqItems, Sem.run_bind, p1, p2, q, Result.andThen_ok]
  by_cases h : a = b
  · subst h; simp
  · have : (a == b) = false := by rw [beq_eq_false_iff_ne]; exact h
    simp [h]

theorem eqL (x0 x1 x2 x3 y0 y1 y2 y3 : Int) (w : World) : (binOp BinOp.eql 213 (.agg #[.int .u8 x0, .int .u8 x1, .int .u8 x2, .int .u8 x3]) (.agg #[.int .u8 y0, .int .u8 y1, .int .u8 y2, .int .u8 y3])).run Tryz.prog w = .ok (.bool (decide (x0 = y0 ∧ x1 = y1 ∧ x2 = y2 ∧ x3 = y3))) w := by
  obtain ⟨i0, hi, hz0, hz1, hz2⟩ := info_parts Tryz.infoU8q
  have hu := Tryz.underlying213
  have hc : Tryz.prog.cellsOf 5 = 1 := by kernel_rfl
  rw [run_eql_struct, show (10000 : Nat) = 9999 + 1 from rfl, run_equalIn_array w 9999 #[.int .u8 x0, .int .u8 x1, .int .u8 x2, .int .u8 x3] #[.int .u8 y0, .int .u8 y1, .int .u8 y2, .int .u8 y3] hu hi, hc]
  rw [show List.range 4 = [0, 1, 2, 3] from rfl, eqItem_step _ _ _ 0 x0 y0 w rfl rfl, eqItem_step _ _ _ 1 x1 y1 w rfl rfl, eqItem_step _ _ _ 2 x2 y2 w rfl rfl, eqItem_step _ _ _ 3 x3 y3 w rfl rfl]
  have hn : ∀ xs ys : Array Value, (Op.eqItems 9999 5 1 xs ys []).run Tryz.prog w = .ok true w := fun _ _ => rfl
  rw [hn]
  by_cases e0 : x0 = y0
  · by_cases e1 : x1 = y1
    · by_cases e2 : x2 = y2
      · by_cases e3 : x3 = y3
        · rw [if_pos e0, if_pos e1, if_pos e2, if_pos e3, decide_eq_true ⟨e0, e1, e2, e3⟩]; rfl
        · rw [if_pos e0, if_pos e1, if_pos e2, if_neg e3, decide_eq_false (fun h => e3 h.2.2.2)]; rfl
      · rw [if_pos e0, if_pos e1, if_neg e2, decide_eq_false (fun h => e2 h.2.2.1)]; rfl
    · rw [if_pos e0, if_neg e1, decide_eq_false (fun h => e1 h.2.1)]; rfl
  · rw [if_neg e0, decide_eq_false (fun h => e0 h.1)]; rfl

/-- Bytes and no. -/
theorem isWithin_any (s t : ByteArray) (hs : s.size ≤ 4294967296) (ht : t.size ≤ 4294967296) (w : World) :
    Calls Tryz.prog 114 #[.string s, .string t] w fun e w' => e = .returned (.bool (witD s.data.toList t.data.toList)) ∧ Below w.heap.size w w' := by
  have z4 : Ok4 0 0 0 0 := by unfold Ok4; omega
  cases hr : rngD s.data.toList with
  | none =>
    have e1 : witD s.data.toList t.data.toList = false := by unfold witD; rw [hr]
    rw [e1]
    have h1 := fun w => addressRange_any s hs w
    rw [rngDV_none hr] at h1
    have h2 := fun w => address2_any t w ht
    cases ha : adD t.data.toList with
    | none =>
      rw [adDV_none ha] at h2
      exact within_walk s t false false 0 (by omega) _ 0 0 0 0 0 0 0 0 w z4 z4 h1 h2 (fun w => eqL _ _ _ _ _ _ _ _ w)
    | some ys =>
      obtain ⟨a, b, c, d, rfl, ka, kb, kc, kd⟩ := adD_four ha
      rw [adDV_some ha] at h2
      exact within_walk s t false true 0 (by omega) _ 0 0 0 0 a b c d w z4 (by unfold Ok4; omega) h1 h2 (fun w => eqL _ _ _ _ _ _ _ _ w)
  | some x =>
    obtain ⟨xs, n⟩ := x
    obtain ⟨_, ⟨a, b, c, d, rfl, ka, kb, kc, kd⟩, h32⟩ := (rngD_rngR _).1 _ _ hr
    have h1 := fun w => addressRange_any s hs w
    rw [rngDV_some hr] at h1
    have h2 := fun w => address2_any t w ht
    cases ha : adD t.data.toList with
    | none =>
      have e1 : witD s.data.toList t.data.toList = false := by unfold witD; rw [hr, ha]
      rw [e1]
      rw [adDV_none ha] at h2
      have := within_walk s t true false n h32 _ a b c d 0 0 0 0 w (by unfold Ok4; omega) z4 h1 h2 (fun w => eqL _ _ _ _ _ _ _ _ w)
      exact this
    | some ys =>
      obtain ⟨a', b', c', d', rfl, ka', kb', kc', kd'⟩ := adD_four ha
      rw [adDV_some ha] at h2
      have := within_walk s t true true n h32 _ a b c d a' b' c' d' w (by unfold Ok4; omega) (by unfold Ok4; omega) h1 h2 (fun w => eqL _ _ _ _ _ _ _ _ w)
      have e1 : witD s.data.toList t.data.toList = (true && true && decide (mkZ (cnt n 0) a = mkZ (cnt n 0) a' ∧ mkZ (cnt n 1) b = mkZ (cnt n 1) b' ∧ mkZ (cnt n 2) c = mkZ (cnt n 2) c' ∧ mkZ (cnt n 3) d = mkZ (cnt n 3) d')) := by
        unfold witD
        rw [hr, ha]
        simp only [metA_mk, mkZ, Int.toNat_natCast, Bool.true_and]
        rw [Bool.eq_iff_iff]
        simp only [decide_eq_true_eq, Int.natCast_inj]
      rw [e1]
      exact this

end Go.Proofs.YtgoiefhhbgollaaGreatDoor
