/- What the document's Acks' Of answers. -/
import Derived.Test.YtlnoighjdmjdeaaQwB
import Derived.Test.YtlnoighjdmjdeaaQuH
namespace Go.Proofs.Ytlnoighjdmjdeaa
open Go.RowKit Go.Shelf
set_option maxRecDepth 8000

theorem refOf_no {w : World} {B q r : Nat} {ws gs : List Int} {A : AcD} {bh ch bu cu : Nat} (ok : NewOk ws gs) (hI : IsDs w r ws gs) (hR : Ra w B q r ws.length A bh ch bu cu) (v : Int) (h0 : -128 ≤ v) (h1 : v ≤ 127) (hv : ¬ (0 ≤ v ∧ v < (ws.length : Int))) : Calls Try.prog 19 #[.pointer (some ⟨q, 0, none⟩), .int .i8 v] w fun e w' => e = .returned (.tuple #[zx 0 0, .bool false]) ∧ Below w.heap.size w w' := by
  have hz := hR.lt.1
  have hb0 : Below w.heap.size w (w.alloc (.cells #[.int .u32 0, .int .u32 0] 38)) := (one_alloc w _)
  have hR0 := hR.below hb0
  have g0 : (w.alloc (.cells #[.int .u32 0, .int .u32 0] 38)).cell? ⟨q, 0, none⟩ = some (.pointer (some ⟨r, 0, none⟩)) := hR0.c0
  have HS := refIs20 (hI.below hb0) ok v h0 h1
  rw [decide_eq_false hv] at HS
  have HSv : Hid (Calls Try.prog 39 #[.pointer (some ⟨r, 0, none⟩), .int .i8 v] (w.alloc (.cells #[.int .u32 0, .int .u32 0] 38)) fun e w' => e = .returned (.bool false) ∧ w' = (w.alloc (.cells #[.int .u32 0, .int .u32 0] 38))) := HS
  have HB : Hid (Below w.heap.size w (w.alloc (.cells #[.int .u32 0, .int .u32 0] 38)) ∧ (w.alloc (.cells #[.int .u32 0, .int .u32 0] 38)).heap[w.heap.size]? = some (.cells #[.int .u32 0, .int .u32 0] 38 (0, 0))) := ⟨hb0, heap_alloc_new _ _⟩
  clear HS hI hR hR0 ok hv hb0
  go_enter Try.func19, Try.ntmps19
  go_wp2_with fail
  refine Calls.mono HSv.out ?_
  rintro e1 w1 ⟨rfl, hw1⟩
  rw [hw1]
  clear hw1 w1 HSv
  go_wp2
  all_goals (refine bodyPost_ret (zx_ret Try.results19 _ _ w.heap.size 0 0 _ _ _ rfl rfl HB.out.2) rfl ?_; exact ⟨rfl, HB.out.1⟩)

theorem refOf_yes {w : World} {B q r i : Nat} {ws gs : List Int} {A : AcD} {bh ch bu cu : Nat} (ok : NewOk ws gs) (hI : IsDs w r ws gs) (hR : Ra w B q r ws.length A bh ch bu cu) (hi : i < ws.length) : Calls Try.prog 19 #[.pointer (some ⟨q, 0, none⟩), .int .i8 (i : Int)] w fun e w' => (A.so.testBit i = false → e = .returned (.tuple #[zx 0 0, .bool false])) ∧ (A.so.testBit i = true → e = .returned (.tuple #[zx (A.e i) (A.m i), .bool true])) ∧ Below w.heap.size w w' := by
  have hz := hR.lt.1
  have n7 := ok.l7
  have hi7 : i < 7 := by omega
  have hi0 : (0 : Int) ≤ (i : Int) := by omega
  have hi7' : (i : Int) < 7 := by omega
  have hin : (i : Int) < (ws.length : Int) := by omega
  have hwr : IntKind.i64.wrap (i : Int) = (i : Int) := by rw [IntKind.wrap_i64]; omega
  have hb0 : Below w.heap.size w (w.alloc (.cells #[.int .u32 0, .int .u32 0] 38)) := (one_alloc w _)
  have hR0 := hR.below hb0
  have HS := refIs20 (hI.below hb0) ok (i : Int) (by omega) (by omega)
  rw [decide_eq_true (show (0 : Int) ≤ (i : Int) ∧ (i : Int) < (ws.length : Int) by omega)] at HS
  have HSv : Hid (Calls Try.prog 39 #[.pointer (some ⟨r, 0, none⟩), .int .i8 (i : Int)] (w.alloc (.cells #[.int .u32 0, .int .u32 0] 38)) fun e w' => e = .returned (.bool true) ∧ w' = (w.alloc (.cells #[.int .u32 0, .int .u32 0] 38))) := HS
  have ce := hR0.ce hi
  have cm := hR0.cm hi
  have c2 := hR0.c2
  have nu := hR.nu
  have nh := hR.nh
  have c1 := hR0.c1
  have cb := hR0.ch hi
  have c0 := hR0.c0
  clear HS hI hR hR0 ok
  generalize ws.length = n at *
  cases hb : A.so.testBit i with
  | false =>
    rw [hb] at cb
    have g0 : (w.alloc (.cells #[.int .u32 0, .int .u32 0] 38)).cell? ⟨q, 0, none⟩ = some (.pointer (some ⟨r, 0, none⟩)) ∧ (w.alloc (.cells #[.int .u32 0, .int .u32 0] 38)).cell? ⟨q, 1, none⟩ = some (.slice (some ⟨bh, 0, none⟩) n ch) ∧ (w.alloc (.cells #[.int .u32 0, .int .u32 0] 38)).cell? ⟨bh, i, none⟩ = some (.bool false) := ⟨c0, c1, cb⟩
    have HB : Hid (Below w.heap.size w (w.alloc (.cells #[.int .u32 0, .int .u32 0] 38)) ∧ (w.alloc (.cells #[.int .u32 0, .int .u32 0] 38)).heap[w.heap.size]? = some (.cells #[.int .u32 0, .int .u32 0] 38 (0, 0))) := ⟨hb0, heap_alloc_new _ _⟩
    clear hb0 hb ce cm c0 c1 c2 cb
    go_enter Try.func19, Try.ntmps19
    go_wp2_with fail
    refine Calls.mono HSv.out ?_
    rintro e1 w1 ⟨rfl, hw1⟩
    rw [hw1]
    clear hw1 w1 HSv
    go_wp2
    all_goals (refine bodyPost_ret (zx_ret Try.results19 _ _ w.heap.size 0 0 _ _ _ rfl rfl HB.out.2) rfl ?_; exact ⟨fun _ => rfl, fun h => absurd h (by simp), HB.out.1⟩)
  | true =>
    rw [hb] at cb
    have g0 : (w.alloc (.cells #[.int .u32 0, .int .u32 0] 38)).cell? ⟨q, 0, none⟩ = some (.pointer (some ⟨r, 0, none⟩)) ∧ (w.alloc (.cells #[.int .u32 0, .int .u32 0] 38)).cell? ⟨q, 1, none⟩ = some (.slice (some ⟨bh, 0, none⟩) n ch) ∧ (w.alloc (.cells #[.int .u32 0, .int .u32 0] 38)).cell? ⟨bh, i, none⟩ = some (.bool true) := ⟨c0, c1, cb⟩
    have HB : Hid (∀ o, Below w.heap.size w (w.alloc o)) := fun o => (one_alloc w o)
    have HC : Hid (∀ o, (w.alloc o).heap[w.heap.size]? = some o) := fun o => heap_alloc_new w o
    clear hb0 hb c0 c1 cb
    go_enter Try.func19, Try.ntmps19
    go_wp2_with fail
    refine Calls.mono HSv.out ?_
    rintro e1 w1 ⟨rfl, hw1⟩
    rw [hw1]
    clear hw1 w1 HSv
    go_wp2
    all_goals (refine bodyPost_ret (zx_ret Try.results19 _ _ w.heap.size (A.e i) (A.m i) _ _ _ rfl rfl (HC.out _)) rfl ?_; exact ⟨fun h => absurd h (by simp), fun _ => rfl, HB.out _⟩)

/-- Of, of any number. -/
theorem refOf_gen {w : World} {B q r : Nat} {ws gs : List Int} {A : AcD} {bh ch bu cu : Nat} (ok : NewOk ws gs) (hI : IsDs w r ws gs) (hR : Ra w B q r ws.length A bh ch bu cu) (v : Int) (h0 : -128 ≤ v) (h1 : v ≤ 127) : Calls Try.prog 19 #[.pointer (some ⟨q, 0, none⟩), .int .i8 v] w fun e w' => e = .returned (.tuple #[zx (A.ofE (syD ws gs) v) (A.ofM (syD ws gs) v), .bool (A.isV (syD ws gs) v)]) ∧ Below w.heap.size w w' := by
  unfold AcD.ofE AcD.ofM AcD.isV
  have hn : (syD ws gs).n = ws.length := rfl
  rw [hn]
  by_cases t : 0 ≤ v ∧ v < (ws.length : Int)
  · obtain ⟨i, rfl⟩ := Int.eq_ofNat_of_zero_le t.1
    rw [decide_eq_true t, Int.toNat_natCast, Bool.true_and]
    refine Calls.mono (refOf_yes ok hI hR (show i < ws.length by omega)) fun e w' z => ⟨?_, z.2.2⟩
    cases b : A.so.testBit i with
    | true => rw [z.2.1 b]; rfl
    | false => rw [z.1 b]; rfl
  · rw [decide_eq_false t, Bool.false_and]
    exact refOf_no ok hI hR v h0 h1 t

end Go.Proofs.Ytlnoighjdmjdeaa
