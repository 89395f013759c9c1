/- A Reader at bytes that a Writer laid: each call tells what was written, and leaves the rest. getId and getEntry of package txn. -/
import Derived.Test.YtkpdckpcnnmdkaaRqJ
import Derived.Test.YtkpdckpcnnmdkaaDbl3J
import Derived.Test.YtkpdckpcnnmdkaaStorJ
import Derived.Test.YtkpdckpcnnmdkaaReaderJ
import Derived.Test.YtkpdckpcnnmdkaaDnAJ
import Derived.Laws.Cover3
import Derived.Laws.CopyOwn
import Derived.ChangeKeysEq
namespace Go.Proofs.Ytkpdckpcnnmdkaa
open Go.RowKit
set_option maxRecDepth 8000

theorem bk_num4 (n : Int) : num (be4 n) = n := by
  simp only [num, be4, List.foldl_cons, List.foldl_nil]
  omega
theorem bk_num8 (n : Int) : num (be8 n) = n := by
  simp only [num, be8, be4, List.cons_append, List.nil_append, List.foldl_cons, List.foldl_nil]
  omega
theorem bk_txt (s : ByteArray) : strOfNums (txt s) = s := by
  unfold strOfNums txt
  rw [List.map_map]
  have : ((fun n : Int => UInt8.ofNat n.toNat) ∘ fun b : UInt8 => (b.toNat : Int)) = id := by
    funext b
    simp
  rw [this]
  simp
theorem bk_take {a b : List Int} {n : Nat} (h : a.length = n) : (a ++ b).take n = a := by rw [← h]; simp
theorem bk_drop {a b : List Int} {n : Nat} (h : a.length = n) : (a ++ b).drop n = b := by rw [← h]; simp
theorem bk_rdNum {n : Nat} {a b : List Int} (h : a.length = n) : rdNum n (a ++ b) 0 = ⟨num a, b, 0⟩ := by
  unfold rdNum
  rw [if_neg (by simp), if_neg (by rw [List.length_append]; omega), bk_take h, bk_drop h]
theorem bk_ahead {n : Nat} {b : List Int} (hn : n ≤ 2147483647) : ahead (be4 n ++ b) = n := by
  unfold ahead
  rw [bk_take (n := 4) rfl, bk_num4]
  unfold wrap32
  omega
theorem bk_rdBuf {most : Int} {ys b : List Int} (hl : ys.length ≤ 2147483647) (hm : (ys.length : Int) ≤ most) : rdBuf most ((be4 ys.length ++ ys) ++ b) 0 = (ys, ⟨0, b, 0⟩) := by
  have e5 : ((be4 ys.length ++ ys) ++ b).drop 4 = ys ++ b := by rw [List.append_assoc]; exact bk_drop rfl
  have ha : ahead ((be4 ys.length ++ ys) ++ b) = ys.length := by rw [List.append_assoc]; exact bk_ahead hl
  have hlen : ((be4 ys.length ++ ys) ++ b).length = 4 + ys.length + b.length := by rw [List.length_append, List.length_append]; rfl
  unfold rdBuf
  rw [if_neg (by simp), if_neg (by omega), ha, if_neg (by omega), if_neg (by rw [hlen]; omega), e5, Int.toNat_natCast, bk_take rfl, bk_drop rfl]

theorem Byts.right {a b : List Int} (h : Byts (a ++ b)) : Byts b := fun x hx => h x (List.mem_append.2 (.inr hx))

section
variable {g : Nat} {v : Value} {rest : List Int} {w : World}

theorem gI8 (x : Int) (h : IsR w g v ([x % 256] ++ rest) 0) (hb : Byts ([x % 256] ++ rest)) (h0 : -128 ≤ x) (h1 : x ≤ 127) :
    Calls Try.prog 33 #[.pointer (some ⟨g, 0, none⟩)] w fun e w' => e = .returned (.int .i8 x) ∧ ReadsTo w g v ⟨0, rest, 0⟩ w' := by
  refine (rInt8_any g v _ 0 w h hb).mono ?_
  rintro e w' ⟨rfl, hr⟩
  rw [bk_rdNum (n := 1) rfl] at hr ⊢
  have hw : IntKind.i8.wrap (num [x % 256]) = x := by
    have : num [x % 256] = x % 256 := by simp [num]
    rw [this]
    simp [IntKind.wrap, IntKind.bits, IntKind.signed]
    omega
  exact ⟨by simp only [hw], hr⟩

theorem gU32 (x : Int) (h : IsR w g v (be4 x ++ rest) 0) (hb : Byts (be4 x ++ rest)) :
    Calls Try.prog 62 #[.pointer (some ⟨g, 0, none⟩)] w fun e w' => e = .returned (.int .u32 x) ∧ ReadsTo w g v ⟨0, rest, 0⟩ w' := by
  refine (rUint32_any g v _ 0 w h hb).mono ?_
  rintro e w' ⟨rfl, hr⟩
  rw [bk_rdNum (n := 4) rfl] at hr ⊢
  exact ⟨by simp only [bk_num4], hr⟩

theorem gI64 (x : Int) (h : IsR w g v (be8 (up64 x) ++ rest) 0) (hb : Byts (be8 (up64 x) ++ rest)) (h0 : -9223372036854775808 ≤ x) (h1 : x ≤ 9223372036854775807) :
    Calls Try.prog 64 #[.pointer (some ⟨g, 0, none⟩)] w fun e w' => e = .returned (.int .i64 x) ∧ ReadsTo w g v ⟨0, rest, 0⟩ w' := by
  refine (rInt64_any g v _ 0 w h hb).mono ?_
  rintro e w' ⟨rfl, hr⟩
  rw [bk_rdNum (n := 8) rfl] at hr ⊢
  have hw : wrap64 (num (be8 (up64 x))) = x := by
    rw [bk_num8]
    unfold wrap64 up64
    omega
  exact ⟨by simp only [hw], hr⟩

/-- Two readings, one behind the other. -/
theorem ReadsTo.next {w1 w2 : World} {v1 : Value} {ys : List Int} (h1 : Kept w w1 (· = g)) (hv : ∀ k, v1.ownBlock = some k → v.ownBlock = some k) (h : ReadsTo w1 g v1 ⟨0, ys, 0⟩ w2) : ReadsTo w g v ⟨0, ys, 0⟩ w2 := by
  obtain ⟨v2, a, b, c⟩ := h
  exact ⟨v2, a, fun k e => hv k (b k e), h1.trans c (fun _ _ h => h)⟩

theorem ReadsTo.later {w1 w2 : World} {xs : List Int} (h : ReadsTo w g v ⟨0, xs, 0⟩ w1) (hb : Below w1.heap.size w1 w2) : ReadsTo w g v ⟨0, xs, 0⟩ w2 := by
  obtain ⟨v', a, b, c⟩ := h
  have hg := lt_of_block a.1
  refine ⟨v', ⟨(Below.kept hb).heap a.1 (by omega), a.2.below hb (Nat.le_refl _)⟩, b, c.trans ((Below.kept hb).mono (S' := fun _ => False) (fun k hk h => by omega)) (fun _ _ h => h.elim)⟩
end
end Go.Proofs.Ytkpdckpcnnmdkaa

/- What the statements' own first look 'works' answers: true; nothing that was there before is changed. -/
namespace Go.Proofs.Ytkpdckpcnnmdkaa
open Go.RowKit
set_option maxRecDepth 8000

theorem byts_lit {xs : List Int} (h : xs.all (fun x => decide (0 ≤ x ∧ x ≤ 255)) = true) : Byts xs := fun x hx => by
  have := List.all_eq_true.1 h x hx
  simpa using this

theorem below_writer {B : Nat} {w w' : World} {g : Nat} {v : Value} (h : Kept w w' (fun k => k = g ∨ v.ownBlock = some k)) (hB : B ≤ w.heap.size) (hg : B ≤ g) (hv : ∀ k, v.ownBlock = some k → B ≤ k) : Below B w w' := by
  refine h.below hB (fun k hk => ?_)
  rcases hk with hk | hk
  · omega
  · exact hv k hk

theorem below_reader {B : Nat} {w w' : World} {g : Nat} (h : Kept w w' (· = g)) (hB : B ≤ w.heap.size) (hg : B ≤ g) : Below B w w' :=
  h.below hB (fun k hk => by omega)

theorem works_e1 : rdNum 4 [255, 255, 255, 254, 9] 0 = ⟨4294967294, [9], 0⟩ := by simp [rdNum, num]
theorem works_e2 : down32 4294967294 = -2 := by rw [down32_is _ (by omega) (by omega)]; simp
theorem works_e3 : adler [97, 98, 99] = 38600999 := by decide

end Go.Proofs.Ytkpdckpcnnmdkaa
/- What frame.isSize and frame.head answer: whether a body may have that many bytes; the four bytes of a body's length and the four of its sum. -/
namespace Go.Proofs.Ytkpdckpcnnmdkaa
open Go.RowKit
set_option maxRecDepth 8000

/-- May a body have n bytes? -/
def isSz (n : Int) : Bool := decide (1 ≤ n) && decide (n ≤ 1048576)

theorem isSize_any (n : Int) (w : World) : Calls Try.prog 50 #[.int .i64 n] w fun e w' => e = .returned (.bool (isSz n)) ∧ w' = w := by
  unfold isSz
  by_cases h1 : 1 ≤ n
  · by_cases h2 : n ≤ 1048576
    · have d1 : decide (1 ≤ n) = true := by simp [h1]
      have d2 : decide (n ≤ 1048576) = true := by simp [h2]
      go_enter Try.func50, Try.ntmps50
      go_wp2
      go_ret
      exact ⟨by simp [h1, h2], rfl⟩
    · have d1 : decide (1 ≤ n) = true := by simp [h1]
      have d2 : decide (n ≤ 1048576) = false := by simp; omega
      go_enter Try.func50, Try.ntmps50
      go_wp2
      go_ret
      exact ⟨by simp, rfl⟩
  · have d1 : decide (1 ≤ n) = false := by simp; omega
    go_enter Try.func50, Try.ntmps50
    go_wp2
    go_ret
    exact ⟨by simp, rfl⟩

/-- What stands ahead of a body in its frame. -/
def headL (xs : List Int) : List Int := be4 xs.length ++ be4 (adler xs)
/-- The same as an array. -/
def headV (xs : List Int) : Value := .agg ((headL xs).map (Value.int .u8)).toArray

theorem isW_new (w : World) : IsW (w.alloc (.cells #[.slice none 0 0] 90)) w.heap.size (.slice none 0 0) [] := ⟨heap_alloc_new _ _, World.ownsRow_nil _ _ _ _⟩

/-- Eight cells of a list of eight bytes. -/
theorem eight (xs : List Int) : ∃ a b c d e f g h : Int, headL xs = [a, b, c, d, e, f, g, h] := ⟨_, _, _, _, _, _, _, _, rfl⟩

set_option maxHeartbeats 1000000 in
theorem head_any (v : Value) (xs : List Int) (w : World) (h : Sees w v xs) (hb : Byts xs) (hl : xs.length < 4294967296) :
    Calls Try.prog 51 #[v] w fun e w' => e = .returned (headV xs) ∧ Below w.heap.size w w' := by
  have H : Hid (Sees w v xs ∧ Byts xs) := ⟨h, hb⟩
  have hab := adler_bd xs
  have ha1 := hab.1
  have ha2 := hab.2
  obtain ⟨ao, cap, rfl, g1, g2, g0, g3⟩ := h
  clear g3 hb g0 hab
  unfold maxLen at g2
  go_enter Try.func51, Try.ntmps51
  go_wp2_with fail
  refine (wUint32_any (w.heap.size + 1) (.slice none 0 0) [] xs.length _ (by have := isW_new (w.alloc (.cells #[.int .u8 0, .int .u8 0, .int .u8 0, .int .u8 0, .int .u8 0, .int .u8 0, .int .u8 0, .int .u8 0] 87)); rwa [World.size_alloc] at this) (by omega) (by omega) (by simp)).mono ?_
  rintro e w1 ⟨rfl, v1, k1, k2, k3⟩
  have B1 : Below w.heap.size w w1 := (((Below.refl w.heap.size w).alloc (Nat.le_refl _) _).alloc (by simp) _).trans (below_writer k3 (by simp; omega) (by omega) (fun k hk => by simp [Value.ownBlock] at hk))
  have n1 : w1.heap[w.heap.size]? = some (.cells #[.int .u8 0, .int .u8 0, .int .u8 0, .int .u8 0, .int .u8 0, .int .u8 0, .int .u8 0, .int .u8 0] 87 (0, 0)) := by
    refine k3.heap (k := w.heap.size) ?_ (fun hs => ?_)
    · rw [Below.heap_alloc _ _ _ (by simp)]; exact heap_alloc_new _ _
    · rcases hs with hs | hs
      · omega
      · simp [Value.ownBlock] at hs
  have r1 : ∀ k, v1.ownBlock = some k → w.heap.size + 1 < k := by
    intro k hk
    rcases k2 with e | ⟨j, e, hj⟩
    · rw [e] at hk; simp [Value.ownBlock] at hk
    · rw [e] at hk; simp at hk hj; omega
  have H1 : Hid (IsW w1 (w.heap.size + 1) v1 (be4 xs.length) ∧ Below w.heap.size w w1 ∧ w1.heap[w.heap.size]? = some (.cells #[.int .u8 0, .int .u8 0, .int .u8 0, .int .u8 0, .int .u8 0, .int .u8 0, .int .u8 0, .int .u8 0] 87 (0, 0)) ∧ (∀ k, v1.ownBlock = some k → w.heap.size + 1 < k)) := ⟨k1, B1, n1, r1⟩
  clear k1 k2 k3 B1 n1 r1
  go_wp2_with fail
  refine (packSum_any _ xs _ (H.out.1.below H1.out.2.1 (Nat.le_refl _)) H.out.2).mono ?_
  rintro e w2 ⟨rfl, rfl⟩
  go_wp2_with fail
  refine (wUint32_any (w.heap.size + 1) v1 (be4 xs.length) (adler xs) _ H1.out.1 ha1 ha2 (by simp [be4])).mono ?_
  rintro e w3 ⟨rfl, v3, k1, k2, k3⟩
  have B3 : Below w.heap.size w w3 := H1.out.2.1.trans (below_writer k3 H1.out.2.1.size (by omega) (fun k hk => by have := H1.out.2.2.2 k hk; omega))
  have n3 : w3.heap[w.heap.size]? = some (.cells #[.int .u8 0, .int .u8 0, .int .u8 0, .int .u8 0, .int .u8 0, .int .u8 0, .int .u8 0, .int .u8 0] 87 (0, 0)) := by
    refine k3.heap (k := w.heap.size) H1.out.2.2.1 (fun hs => ?_)
    rcases hs with hs | hs
    · omega
    · have := H1.out.2.2.2 _ hs; omega
  have H3 : Hid (IsW w3 (w.heap.size + 1) v3 (headL xs) ∧ Below w.heap.size w w3 ∧ w3.heap[w.heap.size]? = some (.cells #[.int .u8 0, .int .u8 0, .int .u8 0, .int .u8 0, .int .u8 0, .int .u8 0, .int .u8 0, .int .u8 0] 87 (0, 0))) := ⟨k1, B3, n3⟩
  clear k1 k2 k3 B3 n3 H1
  go_wp2_with fail
  refine (wBytes_any (w.heap.size + 1) v3 (headL xs) _ H3.out.1 (by simp [headL, be4])).mono ?_
  rintro e w4 ⟨v4, rfl, ho, hb4⟩
  obtain ⟨g, c, rfl, hg⟩ := owns_some ho (by simp [headL, be4])
  have n4 : w4.heap[w.heap.size]? = some (.cells #[.int .u8 0, .int .u8 0, .int .u8 0, .int .u8 0, .int .u8 0, .int .u8 0, .int .u8 0, .int .u8 0] 87 (0, 0)) := by
    rw [hb4.block w.heap.size (lt_of_block H3.out.2.2)]; exact H3.out.2.2
  have hl8 : (headL xs).length = 8 := by simp [headL, be4]
  have HB : Hid (Below w.heap.size w w4 ∧ w4.heap[w.heap.size]? = some (.cells #[.int .u8 0, .int .u8 0, .int .u8 0, .int .u8 0, .int .u8 0, .int .u8 0, .int .u8 0, .int .u8 0] 87 (0, 0))) := ⟨H3.out.2.1.trans ⟨hb4.os, hb4.tape, hb4.output, hb4.size, fun k hk => hb4.block k (by have := H3.out.2.1.size; omega)⟩, n4⟩
  have hg4 : g ≠ w.heap.size := by have := lt_of_block H3.out.2.2; omega
  have fr : ∀ j, w4.frozen? ⟨w.heap.size, j, none⟩ = false := fun j => frozen_of_row w4 w.heap.size j _ _ n4
  have HV : Hid (headV xs = .agg ((headL xs).map (Value.int .u8)).toArray) := (rfl : headV xs = _)
  have oc := owns_cell ho
  obtain ⟨b0, b1, b2, b3, b4, b5, b6, b7, hh⟩ := eight xs
  rw [hh] at oc hl8 HV
  rw [hh]
  have q0 : w4.cell? ⟨g, 0, none⟩ = some (.int .u8 b0) := oc 0 (by simp)
  have q1 : w4.cell? ⟨g, 1, none⟩ = some (.int .u8 b1) := oc 1 (by simp)
  have q2 : w4.cell? ⟨g, 2, none⟩ = some (.int .u8 b2) := oc 2 (by simp)
  have q3 : w4.cell? ⟨g, 3, none⟩ = some (.int .u8 b3) := oc 3 (by simp)
  have q4 : w4.cell? ⟨g, 4, none⟩ = some (.int .u8 b4) := oc 4 (by simp)
  have q5 : w4.cell? ⟨g, 5, none⟩ = some (.int .u8 b5) := oc 5 (by simp)
  have q6 : w4.cell? ⟨g, 6, none⟩ = some (.int .u8 b6) := oc 6 (by simp)
  have q7 : w4.cell? ⟨g, 7, none⟩ = some (.int .u8 b7) := oc 7 (by simp)
  have z : ∀ j, j < 8 → w4.cell? ⟨w.heap.size, j, none⟩ = (#[.int .u8 0, .int .u8 0, .int .u8 0, .int .u8 0, .int .u8 0, .int .u8 0, .int .u8 0, .int .u8 0] : Array Value)[j]? := fun j _ => cell_of_row w4 w.heap.size j _ _ _ n4
  have z0 : w4.cell? ⟨w.heap.size, 0, none⟩ = some (.int .u8 0) := z 0 (by omega)
  have z1 : w4.cell? ⟨w.heap.size, 1, none⟩ = some (.int .u8 0) := z 1 (by omega)
  have z2 : w4.cell? ⟨w.heap.size, 2, none⟩ = some (.int .u8 0) := z 2 (by omega)
  have z3 : w4.cell? ⟨w.heap.size, 3, none⟩ = some (.int .u8 0) := z 3 (by omega)
  have z4 : w4.cell? ⟨w.heap.size, 4, none⟩ = some (.int .u8 0) := z 4 (by omega)
  have z5 : w4.cell? ⟨w.heap.size, 5, none⟩ = some (.int .u8 0) := z 5 (by omega)
  have z6 : w4.cell? ⟨w.heap.size, 6, none⟩ = some (.int .u8 0) := z 6 (by omega)
  have z7 : w4.cell? ⟨w.heap.size, 7, none⟩ = some (.int .u8 0) := z 7 (by omega)
  have f0 := fr 0
  have f1 := fr 1
  have f2 := fr 2
  have f3 := fr 3
  have f4 := fr 4
  have f5 := fr 5
  have f6 := fr 6
  have f7 := fr 7
  have hat : ∀ w, (Instr.arrayAt 87 (.slice (some ⟨g, 0, none⟩) 8 c)).run Try.prog w = .ok (.pointer (some ⟨g, 0, none⟩)) w := fun w => run_arrayAt w 87 _ 8 _ 8 c Try.underlying87 (Nat.le_refl _)
  clear ho hb4 H3 oc z fr n4 hh hl8
  go_wp2
  refine bodyPost_ret (v := .agg #[.int .u8 b0, .int .u8 b1, .int .u8 b2, .int .u8 b3, .int .u8 b4, .int .u8 b5, .int .u8 b6, .int .u8 b7]) ?_ rfl ⟨by rw [HV.out]; rfl, ((((((((HB.out.1.setCell (p := ⟨w.heap.size, 0, none⟩) (Nat.le_refl _) _).setCell (p := ⟨w.heap.size, 1, none⟩) (Nat.le_refl _) _).setCell (p := ⟨w.heap.size, 2, none⟩) (Nat.le_refl _) _).setCell (p := ⟨w.heap.size, 3, none⟩) (Nat.le_refl _) _).setCell (p := ⟨w.heap.size, 4, none⟩) (Nat.le_refl _) _).setCell (p := ⟨w.heap.size, 5, none⟩) (Nat.le_refl _) _).setCell (p := ⟨w.heap.size, 6, none⟩) (Nat.le_refl _) _).setCell (p := ⟨w.heap.size, 7, none⟩) (Nat.le_refl _) _)⟩
  have hres : Try.f51.results = #[.cell 2 87] := by kernel_rfl
  simp only [results, hres]
  go_simp

end Go.Proofs.Ytkpdckpcnnmdkaa

/- Two arrays of eight bytes held against each other; a frame's bytes. -/
namespace Go.Proofs.Ytkpdckpcnnmdkaa
open Go.RowKit
set_option maxRecDepth 8000

theorem plainByte : Try.prog.plainKey 5 = true := by kernel_rfl
theorem cellsByte : Try.prog.cellsOf 5 = 1 := by kernel_rfl

theorem run_items (d : Nat) (xs ys : List Int) (w : World) : ∀ is : List Nat, (∀ i ∈ is, i < xs.length ∧ i < ys.length) →
    (Op.eqItems (d + 1) 5 1 (xs.map (Value.int .u8)).toArray (ys.map (Value.int .u8)).toArray is).run Try.prog w = .ok (is.all fun i => xs.getD i 0 == ys.getD i 0) w
  | [], _ => by simp [Op.eqItems]
  | i :: is, h => by
    obtain ⟨h1, h2⟩ := h i (by simp)
    have hx : (xs.map (Value.int .u8)).toArray[i]? = some (.int .u8 (xs.getD i 0)) := by simp [List.getD_eq_getElem?_getD, h1]
    have hy : (ys.map (Value.int .u8)).toArray[i]? = some (.int .u8 (ys.getD i 0)) := by simp [List.getD_eq_getElem?_getD, h2]
    have p1 := run_part_plain (P := Try.prog) w plainByte hx
    have p2 := run_part_plain (P := Try.prog) w plainByte hy
    have p3 := run_equalIn_int (P := Try.prog) w d 5 .u8 .u8 (xs.getD i 0) (ys.getD i 0) Try.underlying5
    have ih := run_items d xs ys w is (fun j hj => h j (by simp [hj]))
    simp only [Op.eqItems, Nat.mul_one, Sem.run_bind, p1, p2, p3, Result.andThen_ok, List.all_cons]
    cases hq : (xs.getD i 0 == ys.getD i 0)
    · simp
    · simpa using ih

theorem run_neq8 (xs ys : List Int) (hx : xs.length = 8) (hy : ys.length = 8) (w : World) :
    (binOp .neq 87 (.agg (xs.map (Value.int .u8)).toArray) (.agg (ys.map (Value.int .u8)).toArray)).run Try.prog w = .ok (.bool (!decide (xs = ys))) w := by
  obtain ⟨i0, hi, _⟩ := info_parts Try.infoByte'
  rw [run_neq_struct, run_equalIn_array (P := Try.prog) w 9999 _ _ Try.underlying87 hi, cellsByte, run_items 9998 xs ys w (List.range 8) (fun i hi => by simp at hi; omega)]
  simp only [Result.andThen_ok]
  congr 3
  rw [Bool.eq_iff_iff]
  simp only [List.all_eq_true, List.mem_range, decide_eq_true_eq, beq_iff_eq]
  constructor
  · intro h
    exact list_of_nths (by omega) (fun j hj => h j (by omega))
  · intro h i _
    rw [h]

/-- A body's frame. -/
def frameL (xs : List Int) : List Int := headL xs ++ (xs ++ [66])

theorem headL_len (xs : List Int) : (headL xs).length = 8 := by simp [headL, be4]
theorem frameL_len (xs : List Int) : (frameL xs).length = xs.length + 9 := by simp [frameL, headL_len]; omega

/-- The length of the body whose frame stands whole at the beginning; 0: none does. -/
def bodyLen (xs : List Int) : Nat :=
  if xs.length < 9 then 0 else
  let n := num (xs.take 4)
  if n > (xs.length : Int) - 9 ∨ isSz n = false then 0
  else if xs.getD (8 + n.toNat) 0 ≠ 66 ∨ xs.take 8 ≠ headL ((xs.drop 8).take n.toNat) then 0 else n.toNat

end Go.Proofs.Ytkpdckpcnnmdkaa
