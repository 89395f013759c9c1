/- A Reader at bytes that a Writer laid: each call tells what was written, and leaves the rest. getId and getEntry of package txn. -/
import Derived.Test.YtkpdckpcnnmdkaaRqJ
import Derived.Test.YtkpdckpcnnmdkaaDblJ
import Derived.Test.YtkpdckpcnnmdkaaStorJ
import Derived.Test.YtkpdckpcnnmdkaaReaderJ
import Derived.Test.YtkpdckpcnnmdkaaDnAJ
namespace Go.Proofs.Ytkpdckpcnnmdkaa
open Go.RowKit
set_option maxRecDepth 8000

theorem bk_num4 (n : Int) : num (be4 n) = n := by
  simp only [num, be4, List.foldl_cons, List.foldl_nil]
  omega
theorem bk_num8 (n : Int) : num (be8 n) = n := by
  simp only [num, be8, be4, List.cons_append, List.nil_append, List.foldl_cons, List.foldl_nil]
  omega
theorem bk_txt (s : ByteArray) : strOfNums (txt s) = s := by
  unfold strOfNums txt
  rw [List.map_map]
  have : ((fun n : Int => UInt8.ofNat n.toNat) ∘ fun b : UInt8 => (b.toNat : Int)) = id := by
    funext b
    simp
  rw [this]
  simp
theorem bk_take {a b : List Int} {n : Nat} (h : a.length = n) : (a ++ b).take n = a := by rw [← h]; simp
theorem bk_drop {a b : List Int} {n : Nat} (h : a.length = n) : (a ++ b).drop n = b := by rw [← h]; simp
theorem bk_rdNum {n : Nat} {a b : List Int} (h : a.length = n) : rdNum n (a ++ b) 0 = ⟨num a, b, 0⟩ := by
  unfold rdNum
  rw [if_neg (by simp), if_neg (by rw [List.length_append]; omega), bk_take h, bk_drop h]
theorem bk_ahead {n : Nat} {b : List Int} (hn : n ≤ 2147483647) : ahead (be4 n ++ b) = n := by
  unfold ahead
  rw [bk_take (n := 4) rfl, bk_num4]
  unfold wrap32
  omega
theorem bk_rdBuf {most : Int} {ys b : List Int} (hl : ys.length ≤ 2147483647) (hm : (ys.length : Int) ≤ most) : rdBuf most ((be4 ys.length ++ ys) ++ b) 0 = (ys, ⟨0, b, 0⟩) := by
  have e5 : ((be4 ys.length ++ ys) ++ b).drop 4 = ys ++ b := by rw [List.append_assoc]; exact bk_drop rfl
  have ha : ahead ((be4 ys.length ++ ys) ++ b) = ys.length := by rw [List.append_assoc]; exact bk_ahead hl
  have hlen : ((be4 ys.length ++ ys) ++ b).length = 4 + ys.length + b.length := by rw [List.length_append, List.length_append]; rfl
  unfold rdBuf
  rw [if_neg (by simp), if_neg (by omega), ha, if_neg (by omega), if_neg (by rw [hlen]; omega), e5, Int.toNat_natCast, bk_take rfl, bk_drop rfl]

theorem Byts.right {a b : List Int} (h : Byts (a ++ b)) : Byts b := fun x hx => h x (List.mem_append.2 (.inr hx))

section
variable {g : Nat} {v : Value} {rest : List Int} {w : World}

theorem gI8 (x : Int) (h : IsR w g v ([x % 256] ++ rest) 0) (hb : Byts ([x % 256] ++ rest)) (h0 : -128 ≤ x) (h1 : x ≤ 127) :
    Calls Try.prog 33 #[.pointer (some ⟨g, 0, none⟩)] w fun e w' => e = .returned (.int .i8 x) ∧ ReadsTo w g v ⟨0, rest, 0⟩ w' := by
  refine (rInt8_any g v _ 0 w h hb).mono ?_
  rintro e w' ⟨rfl, hr⟩
  rw [bk_rdNum (n := 1) rfl] at hr ⊢
  have hw : IntKind.i8.wrap (num [x % 256]) = x := by
    have : num [x % 256] = x % 256 := by simp [num]
    rw [this]
    simp [IntKind.wrap, IntKind.bits, IntKind.signed]
    omega
  exact ⟨by simp only [hw], hr⟩

theorem gU32 (x : Int) (h : IsR w g v (be4 x ++ rest) 0) (hb : Byts (be4 x ++ rest)) :
    Calls Try.prog 62 #[.pointer (some ⟨g, 0, none⟩)] w fun e w' => e = .returned (.int .u32 x) ∧ ReadsTo w g v ⟨0, rest, 0⟩ w' := by
  refine (rUint32_any g v _ 0 w h hb).mono ?_
  rintro e w' ⟨rfl, hr⟩
  rw [bk_rdNum (n := 4) rfl] at hr ⊢
  exact ⟨by simp only [bk_num4], hr⟩

theorem gI64 (x : Int) (h : IsR w g v (be8 (up64 x) ++ rest) 0) (hb : Byts (be8 (up64 x) ++ rest)) (h0 : -9223372036854775808 ≤ x) (h1 : x ≤ 9223372036854775807) :
    Calls Try.prog 64 #[.pointer (some ⟨g, 0, none⟩)] w fun e w' => e = .returned (.int .i64 x) ∧ ReadsTo w g v ⟨0, rest, 0⟩ w' := by
  refine (rInt64_any g v _ 0 w h hb).mono ?_
  rintro e w' ⟨rfl, hr⟩
  rw [bk_rdNum (n := 8) rfl] at hr ⊢
  have hw : wrap64 (num (be8 (up64 x))) = x := by
    rw [bk_num8]
    unfold wrap64 up64
    omega
  exact ⟨by simp only [hw], hr⟩

/-- Two readings, one behind the other. -/
theorem ReadsTo.next {w1 w2 : World} {v1 : Value} {ys : List Int} (h1 : Kept w w1 (· = g)) (hv : ∀ k, v1.ownBlock = some k → v.ownBlock = some k) (h : ReadsTo w1 g v1 ⟨0, ys, 0⟩ w2) : ReadsTo w g v ⟨0, ys, 0⟩ w2 := by
  obtain ⟨v2, a, b, c⟩ := h
  exact ⟨v2, a, fun k e => hv k (b k e), h1.trans c (fun _ _ h => h)⟩

theorem ReadsTo.later {w1 w2 : World} {xs : List Int} (h : ReadsTo w g v ⟨0, xs, 0⟩ w1) (hb : Below w1.heap.size w1 w2) : ReadsTo w g v ⟨0, xs, 0⟩ w2 := by
  obtain ⟨v', a, b, c⟩ := h
  have hg := lt_of_block a.1
  refine ⟨v', ⟨(Below.kept hb).heap a.1 (by omega), a.2.below hb (Nat.le_refl _)⟩, b, c.trans ((Below.kept hb).mono (S' := fun _ => False) (fun k hk h => by omega)) (fun _ _ h => h.elim)⟩
end
end Go.Proofs.Ytkpdckpcnnmdkaa

/- What the statements' own first look 'works' answers: true; nothing that was there before is changed. -/
namespace Go.Proofs.Ytkpdckpcnnmdkaa
open Go.RowKit
set_option maxRecDepth 8000

theorem byts_lit {xs : List Int} (h : xs.all (fun x => decide (0 ≤ x ∧ x ≤ 255)) = true) : Byts xs := fun x hx => by
  have := List.all_eq_true.1 h x hx
  simpa using this

theorem below_writer {B : Nat} {w w' : World} {g : Nat} {v : Value} (h : Kept w w' (fun k => k = g ∨ v.ownBlock = some k)) (hB : B ≤ w.heap.size) (hg : B ≤ g) (hv : ∀ k, v.ownBlock = some k → B ≤ k) : Below B w w' := by
  refine h.below hB (fun k hk => ?_)
  rcases hk with hk | hk
  · omega
  · exact hv k hk

theorem below_reader {B : Nat} {w w' : World} {g : Nat} (h : Kept w w' (· = g)) (hB : B ≤ w.heap.size) (hg : B ≤ g) : Below B w w' :=
  h.below hB (fun k hk => by omega)

theorem works_e1 : rdNum 4 [255, 255, 255, 254, 9] 0 = ⟨4294967294, [9], 0⟩ := by simp [rdNum, num]
theorem works_e2 : down32 4294967294 = -2 := by rw [down32_is _ (by omega) (by omega)]; simp
theorem works_e3 : adler [97, 98, 99] = 38600999 := by decide

end Go.Proofs.Ytkpdckpcnnmdkaa