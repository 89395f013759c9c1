/- What acl's isWithin answers. -/
import Derived.Test.YtapnaknbidmnmaaDoorQbFJ
import Derived.DeepKeys
namespace Go.Proofs.YtapnaknbidmnmaaDoor
open Go.RowKit Go.Shelf
set_option maxRecDepth 8000

/-- An address lies within a range. -/
def witD (e l : Bs) : Bool := match rngD e, adD l with
  | some (xs, n), some ys => metA n xs ys
  | _, _ => false

theorem mk_eq {j x y : Nat} : (mk j x = mk j y) ↔ x / 2 ^ (8 - j) = y / 2 ^ (8 - j) := by
  unfold mk
  exact ⟨fun h => Nat.eq_of_mul_eq_mul_right (Nat.two_pow_pos _) h, fun h => by rw [h]⟩

theorem metA_mk (n a b c d a' b' c' d' : Nat) : metA n [a, b, c, d] [a', b', c', d'] = decide (mk (cnt n 0) a = mk (cnt n 0) a' ∧ mk (cnt n 1) b = mk (cnt n 1) b' ∧ mk (cnt n 2) c = mk (cnt n 2) c' ∧ mk (cnt n 3) d = mk (cnt n 3) d') := by
  rw [Bool.eq_iff_iff, decide_eq_true_eq]
  unfold metA
  simp only [mk_eq, List.range, List.range.loop, List.all_cons, List.all_nil, Bool.and_true, Bool.and_eq_true, beq_iff_eq]
  simp

/-- Two addresses in memory; what lay below lies as it lay. -/
def Wit (w : World) (b1 b2 : Nat) (x0 x1 x2 x3 y0 y1 y2 y3 : Int) (V : World) : Prop := V.heap[b1]? = some (.cells #[.int .u8 x0, .int .u8 x1, .int .u8 x2, .int .u8 x3] 73 (0, 0)) ∧ V.heap[b2]? = some (.cells #[.int .u8 y0, .int .u8 y1, .int .u8 y2, .int .u8 y3] 73 (0, 0)) ∧ Below w.heap.size w V

theorem Wit.below {w : World} {b1 b2 : Nat} {x0 x1 x2 x3 y0 y1 y2 y3 : Int} {V V' : World} (h : Wit w b1 b2 x0 x1 x2 x3 y0 y1 y2 y3 V) (hB : Below V.heap.size V V') : Wit w b1 b2 x0 x1 x2 x3 y0 y1 y2 y3 V' :=
  ⟨(hB.block b1 (lt_of_block h.1)).trans h.1, (hB.block b2 (lt_of_block h.2.1)).trans h.2.1, h.2.2.trans (hB.mono h.2.2.size)⟩

theorem Wit.drew {w : World} {b1 b2 : Nat} {x0 x1 x2 x3 y0 y1 y2 y3 : Int} {V : World} (h : Wit w b1 b2 x0 x1 x2 x3 y0 y1 y2 y3 V) : Wit w b1 b2 x0 x1 x2 x3 y0 y1 y2 y3 V.drew :=
  h.below ⟨rfl, rfl, rfl, Nat.le_refl _, fun _ _ => rfl⟩

/-- Four numbers of a byte each. -/
def Ok4 (x0 x1 x2 x3 : Int) : Prop := (0 ≤ x0 ∧ x0 ≤ 255) ∧ (0 ≤ x1 ∧ x1 ≤ 255) ∧ (0 ≤ x2 ∧ x2 ≤ 255) ∧ (0 ≤ x3 ∧ x3 ≤ 255)

def mkZ (j : Nat) (x : Int) : Int := ((mk j x.toNat : Nat) : Int)

theorem firstBits_int (n : Nat) (hn : n ≤ 32) (x0 x1 x2 x3 : Int) (h : Ok4 x0 x1 x2 x3) (w : World) :
    Calls Tryd.prog 54 #[.agg #[.int .u8 x0, .int .u8 x1, .int .u8 x2, .int .u8 x3], .int .i64 (n : Int)] w fun e w' => e = .returned (.agg #[.int .u8 (mkZ (cnt n 0) x0), .int .u8 (mkZ (cnt n 1) x1), .int .u8 (mkZ (cnt n 2) x2), .int .u8 (mkZ (cnt n 3) x3)]) ∧ Below w.heap.size w w' := by
  have := firstBits_any x0.toNat x1.toNat x2.toNat x3.toNat n hn (by have := h.1; omega) (by have := h.2.1; omega) (by have := h.2.2.1; omega) (by have := h.2.2.2; omega) w
  simp only [u8V] at this
  rw [Int.toNat_of_nonneg h.1.1, Int.toNat_of_nonneg h.2.1.1, Int.toNat_of_nonneg h.2.2.1.1, Int.toNat_of_nonneg h.2.2.2.1] at this
  exact this

set_option maxHeartbeats 600000 in
theorem within_walk (s t : ByteArray) (ok fits : Bool) (n : Nat) (hn : n ≤ 32) (same : Bool) (a b c d a' b' c' d' : Int) (w : World) (oA : Ok4 a b c d) (oB : Ok4 a' b' c' d')
    (h1 : ∀ w, Calls Tryd.prog 52 #[.string s] w fun e w' => e = .returned (.tuple #[.agg #[.int .u8 a, .int .u8 b, .int .u8 c, .int .u8 d], .int .i64 (n : Int), .bool ok]) ∧ Below w.heap.size w w')
    (h2 : ∀ w, Calls Tryd.prog 51 #[.string t] w fun e w' => e = .returned (.tuple #[.agg #[.int .u8 a', .int .u8 b', .int .u8 c', .int .u8 d'], .bool fits]) ∧ Below w.heap.size w w')
    (h5 : ∀ w, (binOp BinOp.eql 73 (.agg #[.int .u8 (mkZ (cnt n 0) a), .int .u8 (mkZ (cnt n 1) b), .int .u8 (mkZ (cnt n 2) c), .int .u8 (mkZ (cnt n 3) d)]) (.agg #[.int .u8 (mkZ (cnt n 0) a'), .int .u8 (mkZ (cnt n 1) b'), .int .u8 (mkZ (cnt n 2) c'), .int .u8 (mkZ (cnt n 3) d')])).run Tryd.prog w = .ok (.bool same) w) :
    Calls Tryd.prog 47 #[.string s, .string t] w fun e w' => e = .returned (.bool (ok && fits && same)) ∧ Below w.heap.size w w' := by
  have H1 : Hid _ := h1
  have H2 : Hid _ := h2
  have OA : Hid (Ok4 a b c d) := oA
  have OB : Hid (Ok4 a' b' c' d') := oB
  have H3 : Hid (∀ b1 b2 x0 x1 x2 x3 V, Hid (Ok4 x0 x1 x2 x3) → Hid (Wit w b1 b2 a b c d a' b' c' d' V) → Calls Tryd.prog 54 #[.agg #[.int .u8 x0, .int .u8 x1, .int .u8 x2, .int .u8 x3], .int .i64 (n : Int)] V fun e w' => e = .returned (.agg #[.int .u8 (mkZ (cnt n 0) x0), .int .u8 (mkZ (cnt n 1) x1), .int .u8 (mkZ (cnt n 2) x2), .int .u8 (mkZ (cnt n 3) x3)]) ∧ Hid (Wit w b1 b2 a b c d a' b' c' d' w') ∧ w'.cell? ⟨b2, 0, none⟩ = some (.int .u8 a') ∧ w'.cell? ⟨b2, 1, none⟩ = some (.int .u8 b') ∧ w'.cell? ⟨b2, 2, none⟩ = some (.int .u8 c') ∧ w'.cell? ⟨b2, 3, none⟩ = some (.int .u8 d')) := fun b1 b2 x0 x1 x2 x3 V ho hV => (firstBits_int n hn x0 x1 x2 x3 ho.out V).mono (fun e w' h => ⟨h.1, hV.out.below h.2, (cells4 (hV.out.below h.2).2.1).1⟩)
  clear h1 h2 hn oA oB
  go_enter Tryd.func47, Tryd.ntmps47
  go_wp2_with fail
  refine (H1.out _).mono ?_
  rintro e w1 ⟨rfl, hB1⟩
  have HB1 : Hid (Below w.heap.size w w1) := hB1
  clear hB1
  go_wp2_with fail
  refine (H2.out _).mono ?_
  rintro e w2 ⟨rfl, hB2⟩
  have r1 : w2.heap[w1.heap.size]? = some (.cells #[.int .u8 a, .int .u8 b, .int .u8 c, .int .u8 d] 73 (0, 0)) := (hB2.block w1.heap.size (by simp)).trans (heap_alloc_new w1 _)
  have hlt := lt_of_block r1
  have HB2 : Hid (Below w.heap.size w w2) := (HB1.out.alloc HB1.out.size _).trans (hB2.mono (by have := HB1.out.size; simp; omega))
  obtain ⟨o, ho⟩ : ∃ o, o = Obj.cells #[.int .u8 a', .int .u8 b', .int .u8 c', .int .u8 d'] 73 := ⟨_, rfl⟩
  have hW0 : Wit w w1.heap.size w2.heap.size a b c d a' b' c' d' (w2.alloc (.cells #[.int .u8 a', .int .u8 b', .int .u8 c', .int .u8 d'] 73)) := ⟨by rw [Below.heap_alloc _ _ _ hlt]; exact r1, heap_alloc_new w2 _, HB2.out.alloc HB2.out.size _⟩
  obtain ⟨⟨e0, e1, e2, e3⟩, _⟩ := cells4 hW0.1
  obtain ⟨⟨g0, g1, g2, g3⟩, _⟩ := cells4 hW0.2.1
  have HWa : Hid (Wit w w1.heap.size w2.heap.size a b c d a' b' c' d' (w2.alloc (.cells #[.int .u8 a', .int .u8 b', .int .u8 c', .int .u8 d'] 73))) := hW0
  have HWb : Hid (Wit w w1.heap.size w2.heap.size a b c d a' b' c' d' (w2.alloc (.cells #[.int .u8 a', .int .u8 b', .int .u8 c', .int .u8 d'] 73)).drew) := hW0.drew
  clear hB2 r1 ho hW0
  cases ok with
  | false =>
    clear h5 H3
    go_wp2
    go_region
    go_wp2
    all_goals (go_ret; exact ⟨rfl, HWb.out.2.2⟩)
  | true =>
    cases fits with
    | false =>
      clear h5 H3
      go_wp2
      go_region
      go_wp2
      all_goals (go_ret; exact ⟨rfl, HWb.out.2.2⟩)
    | true =>
      generalize mkZ (cnt n 0) = F0 at *
      generalize mkZ (cnt n 1) = F1 at *
      generalize mkZ (cnt n 2) = F2 at *
      generalize mkZ (cnt n 3) = F3 at *
      go_wp2
      go_region_with (go_at_call 54; refine (H3.out w1.heap.size w2.heap.size _ _ _ _ _ (by first | exact OA | exact OB) (by first | exact hS | exact HWb)).mono ?_; rintro e w3 ⟨rfl, hS, j0, j1, j2, j3⟩)
      all_goals (go_wp2)
      all_goals (go_ret; exact ⟨rfl, hS.out.2.2⟩)

end Go.Proofs.YtapnaknbidmnmaaDoor

/- What acl's isWithin answers, for all texts. -/
namespace Go.Proofs.YtapnaknbidmnmaaDoor
open Go.RowKit Go.Shelf
set_option maxRecDepth 8000

theorem eqItem_step (xs ys : Array Value) (is : List Nat) (i : Nat) (a b : Int) (w : World) (ha : xs[i]? = some (.int .u8 a)) (hb : ys[i]? = some (.int .u8 b)) :
    (Op.eqItems 9999 5 1 xs ys (i :: is)).run Tryd.prog w = if a = b then (Op.eqItems 9999 5 1 xs ys is).run Tryd.prog w else .ok false w := by
  have he : Tryd.prog.plainKey 5 = true := by kernel_rfl
  have p1 : (part 5 xs (i * 1)).run Tryd.prog w = .ok (.int .u8 a) w := run_part_plain w he (by rw [Nat.mul_one]; exact ha)
  have p2 : (part 5 ys (i * 1)).run Tryd.prog w = .ok (.int .u8 b) w := run_part_plain w he (by rw [Nat.mul_one]; exact hb)
  have q : (Op.equalIn 9999 5 (.int .u8 a) (.int .u8 b)).run Tryd.prog w = .ok (a == b) w := run_equalIn_int w 9998 5 .u8 .u8 a b Tryd.underlying5
  simp only [Op.eqItems, Sem.run_bind, p1, p2, q, Result.andThen_ok]
  by_cases h : a = b
  · subst h; simp
  · have : (a == b) = false := by rw [beq_eq_false_iff_ne]; exact h
    simp [h]

theorem eqL (x0 x1 x2 x3 y0 y1 y2 y3 : Int) (w : World) : (binOp BinOp.eql 73 (.agg #[.int .u8 x0, .int .u8 x1, .int .u8 x2, .int .u8 x3]) (.agg #[.int .u8 y0, .int .u8 y1, .int .u8 y2, .int .u8 y3])).run Tryd.prog w = .ok (.bool (decide (x0 = y0 ∧ x1 = y1 ∧ x2 = y2 ∧ x3 = y3))) w := by
  obtain ⟨i0, hi, hz0, hz1, hz2⟩ := info_parts Tryd.infoU8q
  have hu := Tryd.underlying73
  have hc : Tryd.prog.cellsOf 5 = 1 := by kernel_rfl
  rw [run_eql_struct, show (10000 : Nat) = 9999 + 1 from rfl, run_equalIn_array w 9999 #[.int .u8 x0, .int .u8 x1, .int .u8 x2, .int .u8 x3] #[.int .u8 y0, .int .u8 y1, .int .u8 y2, .int .u8 y3] hu hi, hc]
  rw [show List.range 4 = [0, 1, 2, 3] from rfl, eqItem_step _ _ _ 0 x0 y0 w rfl rfl, eqItem_step _ _ _ 1 x1 y1 w rfl rfl, eqItem_step _ _ _ 2 x2 y2 w rfl rfl, eqItem_step _ _ _ 3 x3 y3 w rfl rfl]
  have hn : ∀ xs ys : Array Value, (Op.eqItems 9999 5 1 xs ys []).run Tryd.prog w = .ok true w := fun _ _ => rfl
  rw [hn]
  by_cases e0 : x0 = y0
  · by_cases e1 : x1 = y1
    · by_cases e2 : x2 = y2
      · by_cases e3 : x3 = y3
        · rw [if_pos e0, if_pos e1, if_pos e2, if_pos e3, decide_eq_true ⟨e0, e1, e2, e3⟩]; rfl
        · rw [if_pos e0, if_pos e1, if_pos e2, if_neg e3, decide_eq_false (fun h => e3 h.2.2.2)]; rfl
      · rw [if_pos e0, if_pos e1, if_neg e2, decide_eq_false (fun h => e2 h.2.2.1)]; rfl
    · rw [if_pos e0, if_neg e1, decide_eq_false (fun h => e1 h.2.1)]; rfl
  · rw [if_neg e0, decide_eq_false (fun h => e0 h.1)]; rfl

/-- Bytes and no. -/
theorem isWithin_any (s t : ByteArray) (hs : s.size ≤ 4294967296) (ht : t.size ≤ 4294967296) (w : World) :
    Calls Tryd.prog 47 #[.string s, .string t] w fun e w' => e = .returned (.bool (witD s.data.toList t.data.toList)) ∧ Below w.heap.size w w' := by
  have z4 : Ok4 0 0 0 0 := by unfold Ok4; omega
  cases hr : rngD s.data.toList with
  | none =>
    have e1 : witD s.data.toList t.data.toList = false := by unfold witD; rw [hr]
    rw [e1]
    have h1 := fun w => addressRange_any s hs w
    rw [rngDV_none hr] at h1
    have h2 := fun w => address2_any t w ht
    cases ha : adD t.data.toList with
    | none =>
      rw [adDV_none ha] at h2
      exact within_walk s t false false 0 (by omega) _ 0 0 0 0 0 0 0 0 w z4 z4 h1 h2 (fun w => eqL _ _ _ _ _ _ _ _ w)
    | some ys =>
      obtain ⟨a, b, c, d, rfl, ka, kb, kc, kd⟩ := adD_four ha
      rw [adDV_some ha] at h2
      exact within_walk s t false true 0 (by omega) _ 0 0 0 0 a b c d w z4 (by unfold Ok4; omega) h1 h2 (fun w => eqL _ _ _ _ _ _ _ _ w)
  | some x =>
    obtain ⟨xs, n⟩ := x
    obtain ⟨_, ⟨a, b, c, d, rfl, ka, kb, kc, kd⟩, h32⟩ := (rngD_rngR _).1 _ _ hr
    have h1 := fun w => addressRange_any s hs w
    rw [rngDV_some hr] at h1
    have h2 := fun w => address2_any t w ht
    cases ha : adD t.data.toList with
    | none =>
      have e1 : witD s.data.toList t.data.toList = false := by unfold witD; rw [hr, ha]
      rw [e1]
      rw [adDV_none ha] at h2
      have := within_walk s t true false n h32 _ a b c d 0 0 0 0 w (by unfold Ok4; omega) z4 h1 h2 (fun w => eqL _ _ _ _ _ _ _ _ w)
      exact this
    | some ys =>
      obtain ⟨a', b', c', d', rfl, ka', kb', kc', kd'⟩ := adD_four ha
      rw [adDV_some ha] at h2
      have := within_walk s t true true n h32 _ a b c d a' b' c' d' w (by unfold Ok4; omega) (by unfold Ok4; omega) h1 h2 (fun w => eqL _ _ _ _ _ _ _ _ w)
      have e1 : witD s.data.toList t.data.toList = (true && true && decide (mkZ (cnt n 0) a = mkZ (cnt n 0) a' ∧ mkZ (cnt n 1) b = mkZ (cnt n 1) b' ∧ mkZ (cnt n 2) c = mkZ (cnt n 2) c' ∧ mkZ (cnt n 3) d = mkZ (cnt n 3) d')) := by
        unfold witD
        rw [hr, ha]
        simp only [metA_mk, mkZ, Int.toNat_natCast, Bool.true_and]
        rw [Bool.eq_iff_iff]
        simp only [decide_eq_true_eq, Int.natCast_inj]
      rw [e1]
      exact this

end Go.Proofs.YtapnaknbidmnmaaDoor
