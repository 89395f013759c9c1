/- What acl's isWithin answers. -/
import Derived.Test.YtgoiefhhbgollaaGreatDoorQbFJ
import Derived.DeepKeys
import Derived.Deep.MidRow
namespace Go.Proofs.YtgoiefhhbgollaaGreatDoor
open Go.RowKit Go.Shelf
set_option maxRecDepth 8000

/-- An address lies within a range. -/
def witD (e l : Bs) : Bool := match rngD e, adD l with
  | some (xs, n), some ys => metA n xs ys
  | _, _ => false

theorem mk_eq {j x y : Nat} : (mk j x = mk j y) ↔ x / 2 ^ (8 - j) = y / 2 ^ (8 - j) := by
  unfold mk
  exact ⟨fun h => Nat.eq_of_mul_eq_mul_right (Nat.two_pow_pos _) h, fun h => by rw [h]⟩

theorem metA_mk (n a b c d a' b' c' d' : Nat) : metA n [a, b, c, d] [a', b', c', d'] = decide (mk (cnt n 0) a = mk (cnt n 0) a' ∧ mk (cnt n 1) b = mk (cnt n 1) b' ∧ mk (cnt n 2) c = mk (cnt n 2) c' ∧ mk (cnt n 3) d = mk (cnt n 3) d') := by
  rw [Bool.eq_iff_iff, decide_eq_true_eq]
  unfold metA
  simp only [mk_eq, List.range, List.range.loop, List.all_cons, List.all_nil, Bool.and_true, Bool.and_eq_true, beq_iff_eq]
  simp

/-- Two addresses in memory; what lay below lies as it lay. -/
def Wit (w : World) (b1 b2 : Nat) (x0 x1 x2 x3 y0 y1 y2 y3 : Int) (V : World) : Prop := V.heap[b1]? = some (.cells #[.int .u8 x0, .int .u8 x1, .int .u8 x2, .int .u8 x3] 213 (0, 0)) ∧ V.heap[b2]? = some (.cells #[.int .u8 y0, .int .u8 y1, .int .u8 y2, .int .u8 y3] 213 (0, 0)) ∧ Below w.heap.size w V

theorem Wit.below {w : World} {b1 b2 : Nat} {x0 x1 x2 x3 y0 y1 y2 y3 : Int} {V V' : World} (h : Wit w b1 b2 x0 x1 x2 x3 y0 y1 y2 y3 V) (hB : Below V.heap.size V V') : Wit w b1 b2 x0 x1 x2 x3 y0 y1 y2 y3 V' :=
  ⟨(hB.block b1 (lt_of_block h.1)).trans h.1, (hB.block b2 (lt_of_block h.2.1)).trans h.2.1, h.2.2.trans (hB.mono h.2.2.size)⟩

theorem Wit.drew {w : World} {b1 b2 : Nat} {x0 x1 x2 x3 y0 y1 y2 y3 : Int} {V : World} (h : Wit w b1 b2 x0 x1 x2 x3 y0 y1 y2 y3 V) : Wit w b1 b2 x0 x1 x2 x3 y0 y1 y2 y3 V.drew :=
  h.below ⟨rfl, rfl, rfl, Nat.le_refl _, fun _ _ => rfl⟩

/-- Four numbers of a byte each. -/
def Ok4 (x0 x1 x2 x3 : Int) : Prop := (0 ≤ x0 ∧ x0 ≤ 255) ∧ (0 ≤ x1 ∧ x1 ≤ 255) ∧ (0 ≤ x2 ∧ x2 ≤ 255) ∧ (0 ≤ x3 ∧ x3 ≤ 255)

def mkZ (j : Nat) (x : Int) : Int := ((mk j x.toNat : Nat) : Int)

theorem firstBits_int (n : Nat) (hn : n ≤ 32) (x0 x1 x2 x3 : Int) (h : Ok4 x0 x1 x2 x3) (w : World) :
    Calls Tryz.prog 126 #[.agg #[.int .u8 x0, .int .u8 x1, .int .u8 x2, .int .u8 x3], .int .i64 (n : Int)] w fun e w' => e = .returned (.agg #[.int .u8 (mkZ (cnt n 0) x0), .int .u8 (mkZ (cnt n 1) x1), .int .u8 (mkZ (cnt n 2) x2), .int .u8 (mkZ (cnt n 3) x3)]) ∧ Below w.heap.size w w' := by
  have := firstBits_any x0.toNat x1.toNat x2.toNat x3.toNat n hn (by have := h.1; omega) (by have := h.2.1; omega) (by have := h.2.2.1; omega) (by have := h.2.2.2; omega) w
  simp only [u8V] at this
  rw [Int.toNat_of_nonneg h.1.1, Int.toNat_of_nonneg h.2.1.1, Int.toNat_of_nonneg h.2.2.1.1, Int.toNat_of_nonneg h.2.2.2.1] at this
  exact this

set_option maxHeartbeats 600000 in
theorem within_walk (s t : ByteArray) (ok fits : Bool) (n : Nat) (hn : n ≤ 32) (same : Bool) (a b c d a' b' c' d' : Int) (w : World) (oA : Ok4 a b c d) (oB : Ok4 a' b' c' d')
    (h1 : ∀ w, Calls Tryz.prog 124 #[.string s] w fun e w' => e = .returned (.tuple #[.agg #[.int .u8 a, .int .u8 b, .int .u8 c, .int .u8 d], .int .i64 (n : Int), .bool ok]) ∧ Below w.heap.size w w')
    (h2 : ∀ w, Calls Tryz.prog 123 #[.string t] w fun e w' => e = .returned (.tuple #[.agg #[.int .u8 a', .int .u8 b', .int .u8 c', .int .u8 d'], .bool fits]) ∧ Below w.heap.size w w')
    (h5 : ∀ w, (binOp BinOp.eql 213 (.agg #[.int .u8 (mkZ (cnt n 0) a), .int .u8 (mkZ (cnt n 1) b), .int .u8 (mkZ (cnt n 2) c), .int .u8 (mkZ (cnt n 3) d)]) (.agg #[.int .u8 (mkZ (cnt n 0) a'), .int .u8 (mkZ (cnt n 1) b'), .int .u8 (mkZ (cnt n 2) c'), .int .u8 (mkZ (cnt n 3) d')])).run Tryz.prog w = .ok (.bool same) w) :
    Calls Tryz.prog 114 #[.string s, .string t] w fun e w' => e = .returned (.bool (ok && fits && same)) ∧ Below w.heap.size w w' := by
  have H1 : Hid _ := h1
  have H2 : Hid _ := h2
  have OA : Hid (Ok4 a b c d) := oA
  have OB : Hid (Ok4 a' b' c' d') := oB
  have H3 : Hid (∀ b1 b2 x0 x1 x2 x3 V, Hid (Ok4 x0 x1 x2 x3) → Hid (Wit w b1 b2 a b c d a' b' c' d' V) → Calls Tryz.prog 126 #[.agg #[.int .u8 x0, .int .u8 x1, .int .u8 x2, .int .u8 x3], .int .i64 (n : Int)] V fun e w' => e = .returned (.agg #[.int .u8 (mkZ (cnt n 0) x0), .int .u8 (mkZ (cnt n 1) x1), .int .u8 (mkZ (cnt n 2) x2), .int .u8 (mkZ (cnt n 3) x3)]) ∧ Hid (Wit w b1 b2 a b c d a' b' c' d' w') ∧ w'.cell? ⟨b2, 0, none⟩ = some (.int .u8 a') ∧ w'.cell? ⟨b2, 1, none⟩ = some (.int .u8 b') ∧ w'.cell? ⟨b2, 2, none⟩ = some (.int .u8 c') ∧ w'.cell? ⟨b2, 3, none⟩ = some (.int .u8 d')) := fun b1 b2 x0 x1 x2 x3 V ho hV => (firstBits_int n hn x0 x1 x2 x3 ho.out V).mono (fun e w' h => ⟨h.1, hV.out.below h.2, (cells4 (hV.out.below h.2).2.1).1⟩)
  clear h1 h2 hn oA oB
  go_enter Tryz.func114, Tryz.ntmps114
  go_wp2_with fail
  refine (H1.out _).mono ?_
  rintro e w1 ⟨rfl, hB1⟩
  have HB1 : Hid (Below w.heap.size w w1) := hB1
  clear hB1
  go_wp2_with fail
  refine (H2.out _).mono ?_
  rintro e w2 ⟨rfl, hB2⟩
  have r1 : w2.heap[w1.heap.size]? = some (.cells #[.int .u8 a, .int .u8 b, .int .u8 c, .int .u8 d] 213 (0, 0)) := (hB2.block w1.heap.size (by simp)).trans (heap_alloc_new w1 _)
  have hlt := lt_of_block r1
  have HB2 : Hid (Below w.heap.size w w2) := (HB1.out.alloc HB1.out.size _).trans (hB2.mono (by have := HB1.out.size; simp; omega))
  obtain ⟨o, ho⟩ : ∃ o, o = Obj.cells #[.int .u8 a', .int .u8 b', .int .u8 c', .int .u8 d'] 213 := ⟨_, rfl⟩
  have hW0 : Wit w w1.heap.size w2.heap.size a b c d a' b' c' d' (w2.alloc (.cells #[.int .u8 a', .int .u8 b', .int .u8 c', .int .u8 d'] 213)) := ⟨by rw [Below.heap_alloc _ _ _ hlt]; exact r1, heap_alloc_new w2 _, HB2.out.alloc HB2.out.size _⟩
  obtain ⟨⟨e0, e1, e2, e3⟩, _⟩ := cells4 hW0.1
  obtain ⟨⟨g0, g1, g2, g3⟩, _⟩ := cells4 hW0.2.1
  have HWa : Hid (Wit w w1.heap.size w2.heap.size a b c d a' b' c' d' (w2.alloc (.cells #[.int .u8 a', .int .u8 b', .int .u8 c', .int .u8 d'] 213))) := hW0
  have HWb : Hid (Wit w w1.heap.size w2.heap.size a b c d a' b' c' d' (w2.alloc (.cells #[.int .u8 a', .int .u8 b', .int .u8 c', .int .u8 d'] 213)).drew) := hW0.drew
  clear hB2 r1 ho hW0
  cases ok with
  | false =>
    clear h5 H3
    go_wp2
    go_region
    go_wp2
    all_goals (go_ret; exact ⟨rfl, HWb.out.2.2⟩)
  | true =>
    cases fits with
    | false =>
      clear h5 H3
      go_wp2
      go_region
      go_wp2
      all_goals (go_ret; exact ⟨rfl, HWb.out.2.2⟩)
    | true =>
      generalize mkZ (cnt n 0) = F0 at *
      generalize mkZ (cnt n 1) = F1 at *
      generalize mkZ (cnt n 2) = F2 at *
      generalize mkZ (cnt n 3) = F3 at *
      go_wp2
      go_region_with (go_at_call 126; refine (H3.out w1.heap.size w2.heap.size _ _ _ _ _ (by first | exact OA | exact OB) (by first | exact hS | exact HWb)).mono ?_; rintro e w3 ⟨rfl, hS, j0, j1, j2, j3⟩)
      all_goals (go_wp2)
      all_goals (go_ret; exact ⟨rfl, hS.out.2.2⟩)

end Go.Proofs.YtgoiefhhbgollaaGreatDoor

/- What acl's isWithin answers, for all texts. -/
namespace Go.Proofs.YtgoiefhhbgollaaGreatDoor
open Go.RowKit Go.Shelf
set_option maxRecDepth 8000

theorem eqItem_step (xs ys : Array Value) (is : List Nat) (i : Nat) (a b : Int) (w : World) (ha : xs[i]? = some (.int .u8 a)) (hb : ys[i]? = some (.int .u8 b)) :
    (Op.eqItems 9999 5 1 xs ys (i :: is)).run Tryz.prog w = if a = b then (Op.eqItems 9999 5 1 xs ys is).run Tryz.prog w else .ok false w := by
  have he : Tryz.prog.plainKey 5 = true := by kernel_rfl
  have p1 : (part 5 xs (i * 1)).run Tryz.prog w = .ok (.int .u8 a) w := run_part_plain w he (by rw [Nat.mul_one]; exact ha)
  have p2 : (part 5 ys (i * 1)).run Tryz.prog w = .ok (.int .u8 b) w := run_part_plain w he (by rw [Nat.mul_one]; exact hb)
  have q : (Op.equalIn 9999 5 (.int .u8 a) (.int .u8 b)).run Tryz.prog w = .ok (a == b) w := run_equalIn_int w 9998 5 .u8 .u8 a b Tryz.underlying5
  simp only [Op.eqItems, Sem.run_bind, p1, p2, q, Result.andThen_ok]
  by_cases h : a = b
  · subst h; simp
  · have : (a == b) = false := by rw [beq_eq_false_iff_ne]; exact h
    simp [h]

theorem eqL (x0 x1 x2 x3 y0 y1 y2 y3 : Int) (w : World) : (binOp BinOp.eql 213 (.agg #[.int .u8 x0, .int .u8 x1, .int .u8 x2, .int .u8 x3]) (.agg #[.int .u8 y0, .int .u8 y1, .int .u8 y2, .int .u8 y3])).run Tryz.prog w = .ok (.bool (decide (x0 = y0 ∧ x1 = y1 ∧ x2 = y2 ∧ x3 = y3))) w := by
  obtain ⟨i0, hi, hz0, hz1, hz2⟩ := info_parts Tryz.infoU8q
  have hu := Tryz.underlying213
  have hc : Tryz.prog.cellsOf 5 = 1 := by kernel_rfl
  rw [run_eql_struct, show (10000 : Nat) = 9999 + 1 from rfl, run_equalIn_array w 9999 #[.int .u8 x0, .int .u8 x1, .int .u8 x2, .int .u8 x3] #[.int .u8 y0, .int .u8 y1, .int .u8 y2, .int .u8 y3] hu hi, hc]
  rw [show List.range 4 = [0, 1, 2, 3] from rfl, eqItem_step _ _ _ 0 x0 y0 w rfl rfl, eqItem_step _ _ _ 1 x1 y1 w rfl rfl, eqItem_step _ _ _ 2 x2 y2 w rfl rfl, eqItem_step _ _ _ 3 x3 y3 w rfl rfl]
  have hn : ∀ xs ys : Array Value, (Op.eqItems 9999 5 1 xs ys []).run Tryz.prog w = .ok true w := fun _ _ => rfl
  rw [hn]
  by_cases e0 : x0 = y0
  · by_cases e1 : x1 = y1
    · by_cases e2 : x2 = y2
      · by_cases e3 : x3 = y3
        · rw [if_pos e0, if_pos e1, if_pos e2, if_pos e3, decide_eq_true ⟨e0, e1, e2, e3⟩]; rfl
        · rw [if_pos e0, if_pos e1, if_pos e2, if_neg e3, decide_eq_false (fun h => e3 h.2.2.2)]; rfl
      · rw [if_pos e0, if_pos e1, if_neg e2, decide_eq_false (fun h => e2 h.2.2.1)]; rfl
    · rw [if_pos e0, if_neg e1, decide_eq_false (fun h => e1 h.2.1)]; rfl
  · rw [if_neg e0, decide_eq_false (fun h => e0 h.1)]; rfl

/-- Bytes and no. -/
theorem isWithin_any (s t : ByteArray) (hs : s.size ≤ 4294967296) (ht : t.size ≤ 4294967296) (w : World) :
    Calls Tryz.prog 114 #[.string s, .string t] w fun e w' => e = .returned (.bool (witD s.data.toList t.data.toList)) ∧ Below w.heap.size w w' := by
  have z4 : Ok4 0 0 0 0 := by unfold Ok4; omega
  cases hr : rngD s.data.toList with
  | none =>
    have e1 : witD s.data.toList t.data.toList = false := by unfold witD; rw [hr]
    rw [e1]
    have h1 := fun w => addressRange_any s hs w
    rw [rngDV_none hr] at h1
    have h2 := fun w => address2_any t w ht
    cases ha : adD t.data.toList with
    | none =>
      rw [adDV_none ha] at h2
      exact within_walk s t false false 0 (by omega) _ 0 0 0 0 0 0 0 0 w z4 z4 h1 h2 (fun w => eqL _ _ _ _ _ _ _ _ w)
    | some ys =>
      obtain ⟨a, b, c, d, rfl, ka, kb, kc, kd⟩ := adD_four ha
      rw [adDV_some ha] at h2
      exact within_walk s t false true 0 (by omega) _ 0 0 0 0 a b c d w z4 (by unfold Ok4; omega) h1 h2 (fun w => eqL _ _ _ _ _ _ _ _ w)
  | some x =>
    obtain ⟨xs, n⟩ := x
    obtain ⟨_, ⟨a, b, c, d, rfl, ka, kb, kc, kd⟩, h32⟩ := (rngD_rngR _).1 _ _ hr
    have h1 := fun w => addressRange_any s hs w
    rw [rngDV_some hr] at h1
    have h2 := fun w => address2_any t w ht
    cases ha : adD t.data.toList with
    | none =>
      have e1 : witD s.data.toList t.data.toList = false := by unfold witD; rw [hr, ha]
      rw [e1]
      rw [adDV_none ha] at h2
      have := within_walk s t true false n h32 _ a b c d 0 0 0 0 w (by unfold Ok4; omega) z4 h1 h2 (fun w => eqL _ _ _ _ _ _ _ _ w)
      exact this
    | some ys =>
      obtain ⟨a', b', c', d', rfl, ka', kb', kc', kd'⟩ := adD_four ha
      rw [adDV_some ha] at h2
      have := within_walk s t true true n h32 _ a b c d a' b' c' d' w (by unfold Ok4; omega) (by unfold Ok4; omega) h1 h2 (fun w => eqL _ _ _ _ _ _ _ _ w)
      have e1 : witD s.data.toList t.data.toList = (true && true && decide (mkZ (cnt n 0) a = mkZ (cnt n 0) a' ∧ mkZ (cnt n 1) b = mkZ (cnt n 1) b' ∧ mkZ (cnt n 2) c = mkZ (cnt n 2) c' ∧ mkZ (cnt n 3) d = mkZ (cnt n 3) d')) := by
        unfold witD
        rw [hr, ha]
        simp only [metA_mk, mkZ, Int.toNat_natCast, Bool.true_and]
        rw [Bool.eq_iff_iff]
        simp only [decide_eq_true_eq, Int.natCast_inj]
      rw [e1]
      exact this

end Go.Proofs.YtgoiefhhbgollaaGreatDoor

/- What acl's rows of schemes are. -/
namespace Go.Proofs.YtgoiefhhbgollaaGreatDoor
open Go.RowKit Go.Shelf
set_option maxRecDepth 8000

theorem only_any (s : ByteArray) (w : World) : Calls Tryz.prog 109 #[.string s] w fun e w' => e = .returned (.func (.func 122) #[] #[.pointer (some ⟨w.heap.size, 0, none⟩)]) ∧ w' = w.alloc (.cells #[.string s] 9) := by
  have hmf : ∀ (fn : Fn) (first cap : Array Value) (w : World), (Instr.makeFunc fn first cap).run Tryz.prog w = .ok (.func fn first cap) w := fun _ _ _ _ => rfl
  go_enter Tryz.func109, Tryz.ntmps109
  go_wp2
  go_ret
  exact ⟨rfl, rfl⟩

theorem by_any (s : ByteArray) (g : Nat) (w : World) : Calls Tryz.prog 113 #[.string s, .func (.func g) #[] #[]] w fun e w' => e = .returned (.func (.func 125) #[] #[.pointer (some ⟨w.heap.size, 0, none⟩), .pointer (some ⟨w.heap.size + 1, 0, none⟩)]) ∧ w' = (w.alloc (.cells #[.string s] 9)).alloc (.cells #[.func (.func g) #[] #[]] 205) := by
  have hmf : ∀ (fn : Fn) (first cap : Array Value) (w : World), (Instr.makeFunc fn first cap).run Tryz.prog w = .ok (.func fn first cap) w := fun _ _ _ _ => rfl
  go_enter Tryz.func113, Tryz.ntmps113
  go_wp2
  go_ret
  exact ⟨rfl, rfl⟩

theorem there_of_row {w : World} {b n : Nat} {cs : Array Value} {T : TypeId} (h : w.heap[b]? = some (.cells cs T (0, 0))) (hn : n ≤ cs.size) : w.there b 0 n := fun j hj => by
  refine ⟨?_, ?_⟩
  · have := cell_of_row w b (0 + j) _ _ _ h
    rw [this, Array.getElem?_eq_getElem (by omega)]
    rfl
  · exact frozen_of_row w b (0 + j) _ _ h

abbrev fnV (g : Nat) : Value := .func (.func g) #[] #[]
abbrev fn1 (g c : Nat) : Value := .func (.func g) #[] #[.pointer (some ⟨c, 0, none⟩)]
abbrev fn2 (g c : Nat) : Value := .func (.func g) #[] #[.pointer (some ⟨c, 0, none⟩), .pointer (some ⟨c + 1, 0, none⟩)]
abbrev worldB : ByteArray := ⟨#[119, 111, 114, 108, 100]⟩
abbrev ipB : ByteArray := ⟨#[105, 112]⟩
abbrev nameB : ByteArray := ⟨#[110, 97, 109, 101]⟩
abbrev authB : ByteArray := ⟨#[97, 117, 116, 104]⟩
abbrev anyB : ByteArray := ⟨#[97, 110, 121, 111, 110, 101]⟩

/-- The four rows; c: the first of six new blocks. -/
abbrev rowsV (c : Nat) : List Value := [.string worldB, fnV 103, fn1 122 c, fnV 110, .string ipB, fnV 111, fnV 112, fn2 125 (c + 1), .string nameB, fnV 115, fnV 115, fn2 125 (c + 3), .string authB, fnV 103, fn1 122 (c + 5), fnV 104]

/-- What the rows' functions have caught. -/
def Cau (c : Nat) (w : World) : Prop := w.heap[c]? = some (.cells #[.string anyB] 9 (0, 0)) ∧ w.heap[c + 1]? = some (.cells #[.string ipB] 9 (0, 0)) ∧ w.heap[c + 2]? = some (.cells #[fnV 114] 205 (0, 0)) ∧ w.heap[c + 3]? = some (.cells #[.string nameB] 9 (0, 0)) ∧ w.heap[c + 4]? = some (.cells #[fnV 116] 205 (0, 0)) ∧ w.heap[c + 5]? = some (.cells #[.string ⟨#[]⟩] 9 (0, 0))

theorem Cau.below {c B : Nat} {w w' : World} (h : Cau c w) (hB : Below B w w') (hc : c + 6 ≤ B) : Cau c w' :=
  ⟨(hB.block _ (by omega)).trans h.1, (hB.block _ (by omega)).trans h.2.1, (hB.block _ (by omega)).trans h.2.2.1, (hB.block _ (by omega)).trans h.2.2.2.1, (hB.block _ (by omega)).trans h.2.2.2.2.1, (hB.block _ (by omega)).trans h.2.2.2.2.2⟩

theorem setCells_other (g : Nat) : ∀ (vs : List Value) (o : Nat) (w : World), (w.setCells g o vs).heap.size = w.heap.size ∧ (∀ k, k ≠ g → (w.setCells g o vs).heap[k]? = w.heap[k]?) ∧ ∀ (B : Nat) (a : World), B ≤ g → Below B a w → Below B a (w.setCells g o vs)
  | [], _, _ => ⟨rfl, fun _ _ => rfl, fun _ _ _ h => h⟩
  | v :: vs, o, w => by
    obtain ⟨h1, h2, h3⟩ := setCells_other g vs (o + 1) (w.setCell ⟨g, o, none⟩ v)
    refine ⟨h1.trans (by simp), fun k hk => (h2 k hk).trans (Below.heap_setCell _ _ _ _ hk), fun B a hB h => h3 B a hB (h.setCell (p := ⟨g, o, none⟩) hB v)⟩

theorem results_schemes (tm : Array Value) (n : Nat) (WW : World) {cs : List Value} (h2 : tm.getD 0 undef = .pointer (some ⟨n, 0, none⟩)) (hl : cs.length = 16) (hr : WW.rangeAt n 0 cs) :
    (results Tryz.f102 tm).run Tryz.prog WW = .ok (.agg cs.toArray) WW := by
  have hres : Tryz.f102.results = #[.cell 0 195] := by kernel_rfl
  have hi : (Tryz.prog.info? 195).map (·.size) = some cs.length := by rw [hl]; kernel_rfl
  have h2' : tm[0]?.getD undef = .pointer (some ⟨n, 0, none⟩) := by rw [← Array.getD_eq_getD_getElem?]; exact h2
  have := run_loadVar_mid (P := Tryz.prog) WW n 0 195 cs _ hr Tryz.underlying195 rfl hi
  have ha : (asAddr (.pointer (some ⟨n, 0, none⟩))).run Tryz.prog WW = .ok ⟨n, 0, none⟩ WW := rfl
  simp only [results, hres]
  simp [h2']
  rw [ha]
  exact this

set_option maxHeartbeats 1000000 in
theorem schemes_any (w : World) : Calls Tryz.prog 102 #[] w fun e w' => e = .returned (.agg (rowsV (w.heap.size + 1)).toArray) ∧ Below w.heap.size w w' ∧ Cau (w.heap.size + 1) w' ∧ w.heap.size + 7 ≤ w'.heap.size := by
  have hmf : ∀ (fn : Fn) (first cap : Array Value) (w : World), (Instr.makeFunc fn first cap).run Tryz.prog w = .ok (.func fn first cap) w := fun _ _ _ _ => rfl
  obtain ⟨R, hR⟩ : ∃ R : Array Value, R = #[.string ⟨#[]⟩, .nilFunc, .nilFunc, .nilFunc, .string ⟨#[]⟩, .nilFunc, .nilFunc, .nilFunc, .string ⟨#[]⟩, .nilFunc, .nilFunc, .nilFunc, .string ⟨#[]⟩, .nilFunc, .nilFunc, .nilFunc] := ⟨_, rfl⟩
  obtain ⟨W, hW⟩ : ∃ W, W = ((((((w.alloc (.cells R 195)).alloc (.cells #[.string anyB] 9)).alloc (.cells #[.string ipB] 9)).alloc (.cells #[fnV 114] 205)).alloc (.cells #[.string nameB] 9)).alloc (.cells #[fnV 116] 205)).alloc (.cells #[.string ⟨#[]⟩] 9) := ⟨_, rfl⟩
  have r0 : W.heap[w.heap.size]? = some (.cells R 195 (0, 0)) := by
    rw [hW]; iterate 6 rw [Below.heap_alloc _ _ _ (by simp only [World.size_alloc]; omega)]
    exact alloc_newq rfl
  have hcau : Cau (w.heap.size + 1) W := by
    rw [hW]
    refine ⟨?_, ?_, ?_, ?_, ?_, ?_⟩
    · iterate 5 rw [Below.heap_alloc _ _ _ (by simp only [World.size_alloc]; omega)]
      exact alloc_newq (by simp only [World.size_alloc])
    · iterate 4 rw [Below.heap_alloc _ _ _ (by simp only [World.size_alloc]; omega)]
      exact alloc_newq (by simp only [World.size_alloc])
    · iterate 3 rw [Below.heap_alloc _ _ _ (by simp only [World.size_alloc]; omega)]
      exact alloc_newq (by simp only [World.size_alloc])
    · iterate 2 rw [Below.heap_alloc _ _ _ (by simp only [World.size_alloc]; omega)]
      exact alloc_newq (by simp only [World.size_alloc])
    · rw [Below.heap_alloc _ _ _ (by simp only [World.size_alloc]; omega)]
      exact alloc_newq (by simp only [World.size_alloc])
    · exact alloc_newq (by simp only [World.size_alloc])
  have hsz : W.heap.size = w.heap.size + 7 := by rw [hW]; simp only [World.size_alloc]
  have hB : Below w.heap.size w W := by
    rw [hW]
    exact (((((((Below.refl _ w).alloc (Nat.le_refl _) _).alloc (by simp only [World.size_alloc]; omega) _).alloc (by simp only [World.size_alloc]; omega) _).alloc (by simp only [World.size_alloc]; omega) _).alloc (by simp only [World.size_alloc]; omega) _).alloc (by simp only [World.size_alloc]; omega) _).alloc (by simp only [World.size_alloc]; omega) _
  have hth : W.there w.heap.size 0 16 := there_of_row r0 (by rw [hR]; decide)
  have HX : Hid ((W.setCells w.heap.size 0 (rowsV (w.heap.size + 1))).rangeAt w.heap.size 0 (rowsV (w.heap.size + 1)) ∧ Below w.heap.size w (W.setCells w.heap.size 0 (rowsV (w.heap.size + 1))) ∧ Cau (w.heap.size + 1) (W.setCells w.heap.size 0 (rowsV (w.heap.size + 1))) ∧ w.heap.size + 7 ≤ (W.setCells w.heap.size 0 (rowsV (w.heap.size + 1))).heap.size) := by
    obtain ⟨k1, k2, k3⟩ := setCells_other w.heap.size (rowsV (w.heap.size + 1)) 0 W
    exact ⟨World.rangeAt_setCells_same W _ _ _ hth, k3 _ _ (Nat.le_refl _) hB, ⟨(k2 _ (by omega)).trans hcau.1, (k2 _ (by omega)).trans hcau.2.1, (k2 _ (by omega)).trans hcau.2.2.1, (k2 _ (by omega)).trans hcau.2.2.2.1, (k2 _ (by omega)).trans hcau.2.2.2.2.1, (k2 _ (by omega)).trans hcau.2.2.2.2.2⟩, by omega⟩
  have HTh : Hid (W.there w.heap.size 0 16) := hth
  clear r0 hcau hsz hB hth
  subst hW
  subst hR
  go_enter Tryz.func102, Tryz.ntmps102
  go_wp2_with (first | (go_at_call 109; refine (only_any _ _).mono ?_; rintro e w' ⟨rfl, rfl⟩) | (go_at_call 113; refine (by_any _ _ _).mono ?_; rintro e w' ⟨rfl, rfl⟩) | (refine wpList_store_mid rfl 195 _ _ rfl w.heap.size 0 _ rfl rfl ?th (by kernel_rfl) ?one ?_))
  case th => exact HTh.out
  case one => simp [Value.oneCell']
  refine bodyPost_ret (results_schemes _ w.heap.size _ rfl rfl HX.out.1) rfl ?_
  exact ⟨rfl, HX.out.2.1, HX.out.2.2.1, HX.out.2.2.2⟩

end Go.Proofs.YtgoiefhhbgollaaGreatDoor
