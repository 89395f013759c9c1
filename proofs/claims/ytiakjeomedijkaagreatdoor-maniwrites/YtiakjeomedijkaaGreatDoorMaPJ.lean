/- What mayBe of package txn answers, for every request: by its bits, and by isBounded's answer. -/
import Derived.Test.YtiakjeomedijkaaGreatDoorWrTJ
import Derived.Test.YtiakjeomedijkaaGreatDoorProg
import Derived.Test.YtiakjeomedijkaaGreatDoorWriterJ
import Derived.Test.YtiakjeomedijkaaGreatDoorDbl3J
import Derived.Test.YtiakjeomedijkaaGreatDoorWrEJ
import Derived.Test.YtiakjeomedijkaaGreatDoorFrPJ
import Derived.Test.YtiakjeomedijkaaGreatDoorDkTJ
namespace Go.Proofs.YtiakjeomedijkaaGreatDoor
open Go.RowKit
set_option maxRecDepth 8000

theorem keep13 {W W' : World} {N : Nat} {l0 l1 r0 r1 r2 r3 r4 r5 r6 r7 r8 r9 r10 : Value} (hb : Below W.heap.size W W') (h : W.cell? ⟨N, 0, none⟩ = some l0 ∧ W.cell? ⟨N, 1, none⟩ = some l1 ∧ W.cell? ⟨(N + 1), 0, none⟩ = some r0 ∧ W.cell? ⟨(N + 1), 1, none⟩ = some r1 ∧ W.cell? ⟨(N + 1), 2, none⟩ = some r2 ∧ W.cell? ⟨(N + 1), 3, none⟩ = some r3 ∧ W.cell? ⟨(N + 1), 4, none⟩ = some r4 ∧ W.cell? ⟨(N + 1), 5, none⟩ = some r5 ∧ W.cell? ⟨(N + 1), 6, none⟩ = some r6 ∧ W.cell? ⟨(N + 1), 7, none⟩ = some r7 ∧ W.cell? ⟨(N + 1), 8, none⟩ = some r8 ∧ W.cell? ⟨(N + 1), 9, none⟩ = some r9 ∧ W.cell? ⟨(N + 1), 10, none⟩ = some r10) :
    W'.cell? ⟨N, 0, none⟩ = some l0 ∧ W'.cell? ⟨N, 1, none⟩ = some l1 ∧ W'.cell? ⟨(N + 1), 0, none⟩ = some r0 ∧ W'.cell? ⟨(N + 1), 1, none⟩ = some r1 ∧ W'.cell? ⟨(N + 1), 2, none⟩ = some r2 ∧ W'.cell? ⟨(N + 1), 3, none⟩ = some r3 ∧ W'.cell? ⟨(N + 1), 4, none⟩ = some r4 ∧ W'.cell? ⟨(N + 1), 5, none⟩ = some r5 ∧ W'.cell? ⟨(N + 1), 6, none⟩ = some r6 ∧ W'.cell? ⟨(N + 1), 7, none⟩ = some r7 ∧ W'.cell? ⟨(N + 1), 8, none⟩ = some r8 ∧ W'.cell? ⟨(N + 1), 9, none⟩ = some r9 ∧ W'.cell? ⟨(N + 1), 10, none⟩ = some r10 :=
  ⟨cell_later h.1 hb (Nat.le_refl _), cell_later h.2.1 hb (Nat.le_refl _), cell_later h.2.2.1 hb (Nat.le_refl _), cell_later h.2.2.2.1 hb (Nat.le_refl _), cell_later h.2.2.2.2.1 hb (Nat.le_refl _), cell_later h.2.2.2.2.2.1 hb (Nat.le_refl _), cell_later h.2.2.2.2.2.2.1 hb (Nat.le_refl _), cell_later h.2.2.2.2.2.2.2.1 hb (Nat.le_refl _), cell_later h.2.2.2.2.2.2.2.2.1 hb (Nat.le_refl _), cell_later h.2.2.2.2.2.2.2.2.2.1 hb (Nat.le_refl _), cell_later h.2.2.2.2.2.2.2.2.2.2.1 hb (Nat.le_refl _), cell_later h.2.2.2.2.2.2.2.2.2.2.2.1 hb (Nat.le_refl _), cell_later h.2.2.2.2.2.2.2.2.2.2.2.2 hb (Nat.le_refl _)⟩

end Go.Proofs.YtiakjeomedijkaaGreatDoor
/- What txn.Check answers where the zxid and the origin may be: by mayBe's answer. -/
namespace Go.Proofs.YtiakjeomedijkaaGreatDoor
open Go.RowKit
set_option maxRecDepth 8000

theorem keep16 {W W' : World} {N : Nat} {r0 r1 r2 r3 r4 r5 r6 r7 r8 r9 r10 r11 r12 r13 r14 r15 : Value} (hb : Below W.heap.size W W') (h : W.cell? ⟨N, 0, none⟩ = some r0 ∧ W.cell? ⟨N, 1, none⟩ = some r1 ∧ W.cell? ⟨N, 2, none⟩ = some r2 ∧ W.cell? ⟨N, 3, none⟩ = some r3 ∧ W.cell? ⟨N, 4, none⟩ = some r4 ∧ W.cell? ⟨N, 5, none⟩ = some r5 ∧ W.cell? ⟨N, 6, none⟩ = some r6 ∧ W.cell? ⟨N, 7, none⟩ = some r7 ∧ W.cell? ⟨N, 8, none⟩ = some r8 ∧ W.cell? ⟨N, 9, none⟩ = some r9 ∧ W.cell? ⟨N, 10, none⟩ = some r10 ∧ W.cell? ⟨N, 11, none⟩ = some r11 ∧ W.cell? ⟨N, 12, none⟩ = some r12 ∧ W.cell? ⟨N, 13, none⟩ = some r13 ∧ W.cell? ⟨N, 14, none⟩ = some r14 ∧ W.cell? ⟨N, 15, none⟩ = some r15) :
    W'.cell? ⟨N, 0, none⟩ = some r0 ∧ W'.cell? ⟨N, 1, none⟩ = some r1 ∧ W'.cell? ⟨N, 2, none⟩ = some r2 ∧ W'.cell? ⟨N, 3, none⟩ = some r3 ∧ W'.cell? ⟨N, 4, none⟩ = some r4 ∧ W'.cell? ⟨N, 5, none⟩ = some r5 ∧ W'.cell? ⟨N, 6, none⟩ = some r6 ∧ W'.cell? ⟨N, 7, none⟩ = some r7 ∧ W'.cell? ⟨N, 8, none⟩ = some r8 ∧ W'.cell? ⟨N, 9, none⟩ = some r9 ∧ W'.cell? ⟨N, 10, none⟩ = some r10 ∧ W'.cell? ⟨N, 11, none⟩ = some r11 ∧ W'.cell? ⟨N, 12, none⟩ = some r12 ∧ W'.cell? ⟨N, 13, none⟩ = some r13 ∧ W'.cell? ⟨N, 14, none⟩ = some r14 ∧ W'.cell? ⟨N, 15, none⟩ = some r15 :=
  ⟨cell_later h.1 hb (Nat.le_refl _), cell_later h.2.1 hb (Nat.le_refl _), cell_later h.2.2.1 hb (Nat.le_refl _), cell_later h.2.2.2.1 hb (Nat.le_refl _), cell_later h.2.2.2.2.1 hb (Nat.le_refl _), cell_later h.2.2.2.2.2.1 hb (Nat.le_refl _), cell_later h.2.2.2.2.2.2.1 hb (Nat.le_refl _), cell_later h.2.2.2.2.2.2.2.1 hb (Nat.le_refl _), cell_later h.2.2.2.2.2.2.2.2.1 hb (Nat.le_refl _), cell_later h.2.2.2.2.2.2.2.2.2.1 hb (Nat.le_refl _), cell_later h.2.2.2.2.2.2.2.2.2.2.1 hb (Nat.le_refl _), cell_later h.2.2.2.2.2.2.2.2.2.2.2.1 hb (Nat.le_refl _), cell_later h.2.2.2.2.2.2.2.2.2.2.2.2.1 hb (Nat.le_refl _), cell_later h.2.2.2.2.2.2.2.2.2.2.2.2.2.1 hb (Nat.le_refl _), cell_later h.2.2.2.2.2.2.2.2.2.2.2.2.2.2.1 hb (Nat.le_refl _), cell_later h.2.2.2.2.2.2.2.2.2.2.2.2.2.2.2 hb (Nat.le_refl _)⟩

end Go.Proofs.YtiakjeomedijkaaGreatDoor
/- A row of cells that is stored over, cell by cell; a result that lies in a variable. No Go function is walked here. -/
namespace Go.Proofs.YtiakjeomedijkaaGreatDoor
open Go.RowKit
set_option maxRecDepth 8000

theorem heap_setR {w : World} {b i : Nat} {cs : Array Value} {t : TypeId} {fr : Nat × Nat} (c : Value) (h : w.heap[b]? = some (.cells cs t fr)) : (w.setCell ⟨b, i, none⟩ c).heap[b]? = some (.cells (cs.setIfInBounds i c) t fr) := by
  rw [setCell_eq_setRow w b i cs t fr c h]
  exact setRow_heap w b cs _ t fr h

theorem stored11 {U : World} {b : Nat} {t : TypeId} {d0 d1 d2 d3 d4 d5 d6 d7 d8 d9 d10 : Value} (c0 c1 c2 c3 c4 c5 c6 c7 c8 c9 c10 : Value) (hbox : U.heap[b]? = some (.cells #[d0, d1, d2, d3, d4, d5, d6, d7, d8, d9, d10] t (0, 0))) :
    (((((((((((U.setCell ⟨b, 0, none⟩ c0).setCell ⟨b, 1, none⟩ c1).setCell ⟨b, 2, none⟩ c2).setCell ⟨b, 3, none⟩ c3).setCell ⟨b, 4, none⟩ c4).setCell ⟨b, 5, none⟩ c5).setCell ⟨b, 6, none⟩ c6).setCell ⟨b, 7, none⟩ c7).setCell ⟨b, 8, none⟩ c8).setCell ⟨b, 9, none⟩ c9).setCell ⟨b, 10, none⟩ c10).heap[b]? = some (.cells #[c0, c1, c2, c3, c4, c5, c6, c7, c8, c9, c10] t (0, 0)) ∧ Kept U (((((((((((U.setCell ⟨b, 0, none⟩ c0).setCell ⟨b, 1, none⟩ c1).setCell ⟨b, 2, none⟩ c2).setCell ⟨b, 3, none⟩ c3).setCell ⟨b, 4, none⟩ c4).setCell ⟨b, 5, none⟩ c5).setCell ⟨b, 6, none⟩ c6).setCell ⟨b, 7, none⟩ c7).setCell ⟨b, 8, none⟩ c8).setCell ⟨b, 9, none⟩ c9).setCell ⟨b, 10, none⟩ c10) (fun k => k = b) := by
  refine ⟨?_, ?_⟩
  · have hrow := (heap_setR (i := 10) c10 (heap_setR (i := 9) c9 (heap_setR (i := 8) c8 (heap_setR (i := 7) c7 (heap_setR (i := 6) c6 (heap_setR (i := 5) c5 (heap_setR (i := 4) c4 (heap_setR (i := 3) c3 (heap_setR (i := 2) c2 (heap_setR (i := 1) c1 (heap_setR (i := 0) c0 hbox)))))))))))
    have e : (((((((((((#[d0, d1, d2, d3, d4, d5, d6, d7, d8, d9, d10].setIfInBounds 0 c0).setIfInBounds 1 c1).setIfInBounds 2 c2).setIfInBounds 3 c3).setIfInBounds 4 c4).setIfInBounds 5 c5).setIfInBounds 6 c6).setIfInBounds 7 c7).setIfInBounds 8 c8).setIfInBounds 9 c9).setIfInBounds 10 c10) = #[c0, c1, c2, c3, c4, c5, c6, c7, c8, c9, c10] := by simp
    rw [e] at hrow
    exact hrow
  · exact (Kept.setCell (Kept.setCell (Kept.setCell (Kept.setCell (Kept.setCell (Kept.setCell (Kept.setCell (Kept.setCell (Kept.setCell (Kept.setCell (Kept.setCell (Kept.refl U (fun k => k = b)) ⟨b, 0, none⟩ c0 (fun _ => rfl)) ⟨b, 1, none⟩ c1 (fun _ => rfl)) ⟨b, 2, none⟩ c2 (fun _ => rfl)) ⟨b, 3, none⟩ c3 (fun _ => rfl)) ⟨b, 4, none⟩ c4 (fun _ => rfl)) ⟨b, 5, none⟩ c5 (fun _ => rfl)) ⟨b, 6, none⟩ c6 (fun _ => rfl)) ⟨b, 7, none⟩ c7 (fun _ => rfl)) ⟨b, 8, none⟩ c8 (fun _ => rfl)) ⟨b, 9, none⟩ c9 (fun _ => rfl)) ⟨b, 10, none⟩ c10 (fun _ => rfl))

theorem stored16 {U : World} {b : Nat} {t : TypeId} {d0 d1 d2 d3 d4 d5 d6 d7 d8 d9 d10 d11 d12 d13 d14 d15 : Value} (c0 c1 c2 c3 c4 c5 c6 c7 c8 c9 c10 c11 c12 c13 c14 c15 : Value) (hbox : U.heap[b]? = some (.cells #[d0, d1, d2, d3, d4, d5, d6, d7, d8, d9, d10, d11, d12, d13, d14, d15] t (0, 0))) :
    ((((((((((((((((U.setCell ⟨b, 0, none⟩ c0).setCell ⟨b, 1, none⟩ c1).setCell ⟨b, 2, none⟩ c2).setCell ⟨b, 3, none⟩ c3).setCell ⟨b, 4, none⟩ c4).setCell ⟨b, 5, none⟩ c5).setCell ⟨b, 6, none⟩ c6).setCell ⟨b, 7, none⟩ c7).setCell ⟨b, 8, none⟩ c8).setCell ⟨b, 9, none⟩ c9).setCell ⟨b, 10, none⟩ c10).setCell ⟨b, 11, none⟩ c11).setCell ⟨b, 12, none⟩ c12).setCell ⟨b, 13, none⟩ c13).setCell ⟨b, 14, none⟩ c14).setCell ⟨b, 15, none⟩ c15).heap[b]? = some (.cells #[c0, c1, c2, c3, c4, c5, c6, c7, c8, c9, c10, c11, c12, c13, c14, c15] t (0, 0)) ∧ Kept U ((((((((((((((((U.setCell ⟨b, 0, none⟩ c0).setCell ⟨b, 1, none⟩ c1).setCell ⟨b, 2, none⟩ c2).setCell ⟨b, 3, none⟩ c3).setCell ⟨b, 4, none⟩ c4).setCell ⟨b, 5, none⟩ c5).setCell ⟨b, 6, none⟩ c6).setCell ⟨b, 7, none⟩ c7).setCell ⟨b, 8, none⟩ c8).setCell ⟨b, 9, none⟩ c9).setCell ⟨b, 10, none⟩ c10).setCell ⟨b, 11, none⟩ c11).setCell ⟨b, 12, none⟩ c12).setCell ⟨b, 13, none⟩ c13).setCell ⟨b, 14, none⟩ c14).setCell ⟨b, 15, none⟩ c15) (fun k => k = b) := by
  refine ⟨?_, ?_⟩
  · have hrow := (heap_setR (i := 15) c15 (heap_setR (i := 14) c14 (heap_setR (i := 13) c13 (heap_setR (i := 12) c12 (heap_setR (i := 11) c11 (heap_setR (i := 10) c10 (heap_setR (i := 9) c9 (heap_setR (i := 8) c8 (heap_setR (i := 7) c7 (heap_setR (i := 6) c6 (heap_setR (i := 5) c5 (heap_setR (i := 4) c4 (heap_setR (i := 3) c3 (heap_setR (i := 2) c2 (heap_setR (i := 1) c1 (heap_setR (i := 0) c0 hbox))))))))))))))))
    have e : ((((((((((((((((#[d0, d1, d2, d3, d4, d5, d6, d7, d8, d9, d10, d11, d12, d13, d14, d15].setIfInBounds 0 c0).setIfInBounds 1 c1).setIfInBounds 2 c2).setIfInBounds 3 c3).setIfInBounds 4 c4).setIfInBounds 5 c5).setIfInBounds 6 c6).setIfInBounds 7 c7).setIfInBounds 8 c8).setIfInBounds 9 c9).setIfInBounds 10 c10).setIfInBounds 11 c11).setIfInBounds 12 c12).setIfInBounds 13 c13).setIfInBounds 14 c14).setIfInBounds 15 c15) = #[c0, c1, c2, c3, c4, c5, c6, c7, c8, c9, c10, c11, c12, c13, c14, c15] := by simp
    rw [e] at hrow
    exact hrow
  · exact (Kept.setCell (Kept.setCell (Kept.setCell (Kept.setCell (Kept.setCell (Kept.setCell (Kept.setCell (Kept.setCell (Kept.setCell (Kept.setCell (Kept.setCell (Kept.setCell (Kept.setCell (Kept.setCell (Kept.setCell (Kept.setCell (Kept.refl U (fun k => k = b)) ⟨b, 0, none⟩ c0 (fun _ => rfl)) ⟨b, 1, none⟩ c1 (fun _ => rfl)) ⟨b, 2, none⟩ c2 (fun _ => rfl)) ⟨b, 3, none⟩ c3 (fun _ => rfl)) ⟨b, 4, none⟩ c4 (fun _ => rfl)) ⟨b, 5, none⟩ c5 (fun _ => rfl)) ⟨b, 6, none⟩ c6 (fun _ => rfl)) ⟨b, 7, none⟩ c7 (fun _ => rfl)) ⟨b, 8, none⟩ c8 (fun _ => rfl)) ⟨b, 9, none⟩ c9 (fun _ => rfl)) ⟨b, 10, none⟩ c10 (fun _ => rfl)) ⟨b, 11, none⟩ c11 (fun _ => rfl)) ⟨b, 12, none⟩ c12 (fun _ => rfl)) ⟨b, 13, none⟩ c13 (fun _ => rfl)) ⟨b, 14, none⟩ c14 (fun _ => rfl)) ⟨b, 15, none⟩ c15 (fun _ => rfl))

theorem resCell1 {fn : Func} {p : Tmp} {ty : TypeId} (h : fn.results = #[.cell p ty]) (tmps : Array Value) (P : Program) (w : World) :
    (results fn tmps).run P w = ((asAddr (tmps.getD p undef)).run P w).andThen fun a w₁ => (loadVar ty a).run P w₁ := by
  simp only [results, h]
  simp [Sem.run_bind, Result.andThen]

theorem rq_size : (Tryz.prog.info? 134).map (·.size) = some 11 := by kernel_rfl
theorem tx_size : (Tryz.prog.info? 142).map (·.size) = some 16 := by kernel_rfl
end Go.Proofs.YtiakjeomedijkaaGreatDoor

/- A Reader at bytes that a Writer laid: each call tells what was written, and leaves the rest. getId and getEntry of package txn. -/
namespace Go.Proofs.YtiakjeomedijkaaGreatDoor
open Go.RowKit
set_option maxRecDepth 8000

theorem bk_num4 (n : Int) : num (be4 n) = n := by
  simp only [num, be4, List.foldl_cons, List.foldl_nil]
  omega
theorem bk_num8 (n : Int) : num (be8 n) = n := by
  simp only [num, be8, be4, List.cons_append, List.nil_append, List.foldl_cons, List.foldl_nil]
  omega
theorem bk_txt (s : ByteArray) : strOfNums (txt s) = s := by
  unfold strOfNums txt
  rw [List.map_map]
  have : ((fun n : Int => UInt8.ofNat n.toNat) ∘ fun b : UInt8 => (b.toNat : Int)) = id := by
    funext b
    simp
  rw [this]
  simp
theorem bk_take {a b : List Int} {n : Nat} (h : a.length = n) : (a ++ b).take n = a := by rw [← h]; simp
theorem bk_drop {a b : List Int} {n : Nat} (h : a.length = n) : (a ++ b).drop n = b := by rw [← h]; simp
theorem bk_rdNum {n : Nat} {a b : List Int} (h : a.length = n) : rdNum n (a ++ b) 0 = ⟨num a, b, 0⟩ := by
  unfold rdNum
  rw [if_neg (by simp), if_neg (by rw [List.length_append]; omega), bk_take h, bk_drop h]
theorem bk_ahead {n : Nat} {b : List Int} (hn : n ≤ 2147483647) : ahead (be4 n ++ b) = n := by
  unfold ahead
  rw [bk_take (n := 4) rfl, bk_num4]
  unfold wrap32
  omega
theorem bk_rdBuf {most : Int} {ys b : List Int} (hl : ys.length ≤ 2147483647) (hm : (ys.length : Int) ≤ most) : rdBuf most ((be4 ys.length ++ ys) ++ b) 0 = (ys, ⟨0, b, 0⟩) := by
  have e5 : ((be4 ys.length ++ ys) ++ b).drop 4 = ys ++ b := by rw [List.append_assoc]; exact bk_drop rfl
  have ha : ahead ((be4 ys.length ++ ys) ++ b) = ys.length := by rw [List.append_assoc]; exact bk_ahead hl
  have hlen : ((be4 ys.length ++ ys) ++ b).length = 4 + ys.length + b.length := by rw [List.length_append, List.length_append]; rfl
  unfold rdBuf
  rw [if_neg (by simp), if_neg (by omega), ha, if_neg (by omega), if_neg (by rw [hlen]; omega), e5, Int.toNat_natCast, bk_take rfl, bk_drop rfl]

theorem Byts.right {a b : List Int} (h : Byts (a ++ b)) : Byts b := fun x hx => h x (List.mem_append.2 (.inr hx))

section
variable {g : Nat} {v : Value} {rest : List Int} {w : World}

theorem gI8 (x : Int) (h : IsR w g v ([x % 256] ++ rest) 0) (hb : Byts ([x % 256] ++ rest)) (h0 : -128 ≤ x) (h1 : x ≤ 127) :
    Calls Tryz.prog 43 #[.pointer (some ⟨g, 0, none⟩)] w fun e w' => e = .returned (.int .i8 x) ∧ ReadsTo w g v ⟨0, rest, 0⟩ w' := by
  refine (rInt8_any g v _ 0 w h hb).mono ?_
  rintro e w' ⟨rfl, hr⟩
  rw [bk_rdNum (n := 1) rfl] at hr ⊢
  have hw : IntKind.i8.wrap (num [x % 256]) = x := by
    have : num [x % 256] = x % 256 := by simp [num]
    rw [this]
    simp [IntKind.wrap, IntKind.bits, IntKind.signed]
    omega
  exact ⟨by simp only [hw], hr⟩

theorem gU32 (x : Int) (h : IsR w g v (be4 x ++ rest) 0) (hb : Byts (be4 x ++ rest)) :
    Calls Tryz.prog 89 #[.pointer (some ⟨g, 0, none⟩)] w fun e w' => e = .returned (.int .u32 x) ∧ ReadsTo w g v ⟨0, rest, 0⟩ w' := by
  refine (rUint32_any g v _ 0 w h hb).mono ?_
  rintro e w' ⟨rfl, hr⟩
  rw [bk_rdNum (n := 4) rfl] at hr ⊢
  exact ⟨by simp only [bk_num4], hr⟩

theorem gI64 (x : Int) (h : IsR w g v (be8 (up64 x) ++ rest) 0) (hb : Byts (be8 (up64 x) ++ rest)) (h0 : -9223372036854775808 ≤ x) (h1 : x ≤ 9223372036854775807) :
    Calls Tryz.prog 91 #[.pointer (some ⟨g, 0, none⟩)] w fun e w' => e = .returned (.int .i64 x) ∧ ReadsTo w g v ⟨0, rest, 0⟩ w' := by
  refine (rInt64_any g v _ 0 w h hb).mono ?_
  rintro e w' ⟨rfl, hr⟩
  rw [bk_rdNum (n := 8) rfl] at hr ⊢
  have hw : wrap64 (num (be8 (up64 x))) = x := by
    rw [bk_num8]
    unfold wrap64 up64
    omega
  exact ⟨by simp only [hw], hr⟩

/-- Two readings, one behind the other. -/
theorem ReadsTo.next {w1 w2 : World} {v1 : Value} {ys : List Int} (h1 : Kept w w1 (· = g)) (hv : ∀ k, v1.ownBlock = some k → v.ownBlock = some k) (h : ReadsTo w1 g v1 ⟨0, ys, 0⟩ w2) : ReadsTo w g v ⟨0, ys, 0⟩ w2 := by
  obtain ⟨v2, a, b, c⟩ := h
  exact ⟨v2, a, fun k e => hv k (b k e), h1.trans c (fun _ _ h => h)⟩

theorem ReadsTo.later {w1 w2 : World} {xs : List Int} (h : ReadsTo w g v ⟨0, xs, 0⟩ w1) (hb : Below w1.heap.size w1 w2) : ReadsTo w g v ⟨0, xs, 0⟩ w2 := by
  obtain ⟨v', a, b, c⟩ := h
  have hg := lt_of_block a.1
  refine ⟨v', ⟨(Below.kept hb).heap a.1 (by omega), a.2.below hb (Nat.le_refl _)⟩, b, c.trans ((Below.kept hb).mono (S' := fun _ => False) (fun k hk h => by omega)) (fun _ _ h => h.elim)⟩
end
end Go.Proofs.YtiakjeomedijkaaGreatDoor

/- Frames in which one byte is turned, none of a length: the frame that it lies in is no more whole. No Go function is walked here. -/
namespace Go.Proofs.YtiakjeomedijkaaGreatDoor
open Go.RowKit
set_option maxRecDepth 8000

theorem sumSet (xs : List Int) (k : Nat) (y : Int) (h : k < xs.length) : (xs.set k y).sum = xs.sum - xs.getD k 0 + y := by
  induction xs generalizing k with
  | nil => simp at h
  | cons x xs ih =>
    cases k with
    | zero => simp; omega
    | succ k =>
      have := ih k (by simpa using h)
      simp [List.set_cons_succ] at this ⊢
      omega

theorem adlLow (xs : List Int) : (adl xs).1 = (1 + xs.sum) % 65521 := by
  suffices h : ∀ s : Int × Int, (xs.foldl adlStep s).1 % 65521 = (s.1 + xs.sum) % 65521 by
    have h1 := h (1, 0)
    have h2 := adl_bd xs
    unfold adl at h2 ⊢
    simp only at h1
    omega
  induction xs with
  | nil => intro s; simp
  | cons x xs ih =>
    intro s
    rw [List.foldl_cons, ih, List.sum_cons]
    simp only [adlStep]
    omega

theorem adler_turn (xs : List Int) (k : Nat) (y : Int) (hk : k < xs.length) (hb : Byts xs) (h0 : 0 ≤ y) (h1 : y ≤ 255) (hne : y ≠ xs.getD k 0) : adler xs ≠ adler (xs.set k y) := by
  have hx := hb.nth k
  have hs := sumSet xs k y hk
  have l1 := adlLow xs
  have l2 := adlLow (xs.set k y)
  have b1 := adl_bd xs
  have b2 := adl_bd (xs.set k y)
  unfold adler
  intro e
  have : (adl xs).1 = (adl (xs.set k y)).1 := by omega
  rw [l1, l2, hs] at this
  omega

theorem bodyLen_turn (b rest : List Int) (k : Nat) (y : Int) (hs : isSz b.length = true) (hb : Byts b) (h4 : 4 ≤ k) (hk : k < b.length + 9) (h0 : 0 ≤ y) (h1 : y ≤ 255) (hne : y ≠ (frameL b ++ rest).getD k 0) :
    bodyLen ((frameL b ++ rest).set k y) = 0 := by
  obtain ⟨zs, hz⟩ : ∃ zs, zs = frameL b ++ rest := ⟨_, rfl⟩
  have t4 : zs.take 4 = be4 b.length := by
    rw [hz]
    unfold frameL headL
    simp only [List.append_assoc]
    exact takeF (be4L _)
  have t8 : zs.take 8 = headL b := by
    rw [hz]
    unfold frameL
    rw [List.append_assoc]
    exact takeF (headL_len b)
  have d8 : zs.drop 8 = b ++ ([66] ++ rest) := by
    rw [hz]
    unfold frameL
    rw [List.append_assoc, dropF (headL_len b), List.append_assoc]
  have hl : zs.length = b.length + 9 + rest.length := by rw [hz, List.length_append, frameL_len]
  have hm : zs.getD (8 + b.length) 0 = 66 := by
    rw [hz]
    unfold frameL
    rw [List.getD_eq_getElem?_getD, List.append_assoc, List.getElem?_append_right (by rw [headL_len]; omega), headL_len, List.append_assoc, List.getElem?_append_right (by omega)]
    have e : 8 + b.length - 8 - b.length = 0 := by omega
    rw [e]; rfl
  rw [← hz] at hne ⊢
  have s4 : (zs.set k y).take 4 = be4 b.length := by
    rw [List.take_set_of_le h4, t4]
  unfold bodyLen
  rw [List.length_set, if_neg (by omega)]
  simp only
  rw [s4, num4, if_neg (by rw [hs]; simp; omega)]
  simp only [Int.toNat_natCast]
  rw [if_pos]
  by_cases c1 : k < 8
  · refine .inr ?_
    rw [List.drop_set_of_lt c1, d8, takeF rfl]
    intro e
    rw [← t8] at e
    have := congrArg (fun l : List Int => l.getD k 0) e
    simp only [List.getD_eq_getElem?_getD, List.getElem?_take, if_pos c1, List.getElem?_set_self (show k < zs.length by omega)] at this
    rw [List.getD_eq_getElem?_getD] at hne
    exact hne this
  · by_cases c2 : k < 8 + b.length
    · refine .inr ?_
      rw [List.take_set_of_le (by omega), t8, List.drop_set, if_neg c1, d8, List.set_append_left _ _ (by omega), takeF (by rw [List.length_set])]
      have hne' : y ≠ b.getD (k - 8) 0 := by
        have e : zs.getD k 0 = b.getD (k - 8) 0 := by
          have : zs.getD k 0 = (zs.drop 8).getD (k - 8) 0 := by
            simp only [List.getD_eq_getElem?_getD, List.getElem?_drop]
            rw [show 8 + (k - 8) = k by omega]
          rw [this, d8, List.getD_eq_getElem?_getD, List.getElem?_append_left (by omega), ← List.getD_eq_getElem?_getD]
        rw [← e]; exact hne
      have ht := adler_turn b (k - 8) y (by omega) hb h0 h1 hne'
      intro e
      unfold headL at e
      rw [List.length_set] at e
      have e2 := List.append_cancel_left e
      have := congrArg num e2
      rw [num4, num4] at this
      exact ht this
    · refine .inl ?_
      have ek : k = 8 + b.length := by omega
      subst ek
      rw [List.getD_eq_getElem?_getD, List.getElem?_set_self (by omega)]
      rw [hm] at hne
      exact hne

theorem bodies_turned : ∀ (l : List (List Int)) (n k : Nat) (y : Int), (∀ b ∈ l, isSz b.length = true ∧ Byts b) → n < l.length → pos (l.take n) + 4 ≤ k → k < pos (l.take (n + 1)) → 0 ≤ y → y ≤ 255 → y ≠ (framesL l).getD k 0 → Bodies ((framesL l).set k y) (l.take n)
  | [], n, k, y, _, hn, _, _, _, _, _ => by simp at hn
  | b :: l, 0, k, y, hs, _, hp, hk, h0, h1, hne => by
    simp only [List.take_succ_cons, List.take_zero, pos, Nat.add_zero, Nat.zero_add] at hp hk
    exact bodies_nil (bodyLen_turn b (framesL l) k y (hs b (by simp)).1 (hs b (by simp)).2 hp hk h0 h1 hne)
  | b :: l, n + 1, k, y, hs, hn, hp, hk, h0, h1, hne => by
    simp only [List.take_succ_cons, pos] at hp hk
    have hge : (frameL b).length ≤ k := by rw [frameL_len]; omega
    have hne2 : y ≠ (framesL l).getD (k - (b.length + 9)) 0 := by
      simp only [framesL, List.getD_eq_getElem?_getD] at hne ⊢
      rw [List.getElem?_append_right hge, frameL_len] at hne
      exact hne
    have ih := bodies_turned l n (k - (b.length + 9)) y (fun x hx => hs x (by simp [hx])) (by simpa using hn) (by omega) (by omega) h0 h1 hne2
    have e : (framesL (b :: l)).set k y = frameL b ++ (framesL l).set (k - (b.length + 9)) y := by
      simp only [framesL]
      rw [List.set_append_right _ _ hge, frameL_len]
    rw [List.take_succ_cons, e]
    exact bodies_cons (frameAt_front b _ (hs b (by simp)).1) (by rw [dropF (frameL_len b)]; exact ih)

end Go.Proofs.YtiakjeomedijkaaGreatDoor

/- A manifest as data, its bytes, and what a Put does to a disk: data alone; no Go function is walked here. -/
namespace Go.Proofs.YtiakjeomedijkaaGreatDoor
open Go.RowKit Go.Shelf
set_option maxRecDepth 8000

/-- A manifest. -/
structure MaD where
  boot : Int
  acc : Int
  cur : Int
  snap : Int
  log : Int

abbrev MaD.val (m : MaD) : Value := .agg #[.int .u32 m.boot, .int .u32 m.acc, .int .u32 m.cur, .int .i64 m.snap, .int .i64 m.log]

/-- Its numbers lie where their types say. -/
structure MaD.Fits (m : MaD) : Prop where
  b0 : 0 ≤ m.boot
  b1 : m.boot < 4294967296
  a0 : 0 ≤ m.acc
  a1 : m.acc < 4294967296
  c0 : 0 ≤ m.cur
  c1 : m.cur < 4294967296
  s0 : -9223372036854775808 ≤ m.snap
  s1 : m.snap ≤ 9223372036854775807
  l0 : -9223372036854775808 ≤ m.log
  l1 : m.log ≤ 9223372036854775807

/-- May it be? -/
def mayM (m : MaD) : Bool := decide (m.cur ≤ m.acc) && (decide (m.acc ≤ 2147483647) && (decide (0 ≤ m.snap) && decide (0 ≤ m.log)))

/-- The bytes of its body. -/
def maB (m : MaD) : List Int := [1] ++ (be4 m.boot ++ (be4 m.acc ++ (be4 m.cur ++ (be8 (up64 m.snap) ++ be8 (up64 m.log)))))

theorem maB_len (m : MaD) : (maB m).length = 29 := by simp [maB, be4, be8]

abbrev manN : ByteArray := ⟨#[109, 97, 110, 105, 102, 101, 115, 116]⟩
abbrev newN : ByteArray := ⟨#[109, 97, 110, 105, 102, 101, 115, 116, 46, 110, 101, 119]⟩

def thenK (r : Int × DkD) (f : DkD → Int × DkD) : Int × DkD := if r.1 = 0 then f r.2 else r

/-- What the writes of a Put do. -/
def putK (D : DkD) (bs : List Int) : Int × DkD :=
  thenK (if hasF D.files newN then D.act (D.errO newN) (D.files.eraseIdx (dropI D.files newN)) else (0, D)) fun D1 =>
  thenK (D1.act (D1.errA newN bs.length) (appF D1.files newN bs)) fun D2 =>
  thenK (D2.act (D2.errO newN) (updF D2.files newN durF)) fun D3 =>
  D3.act (D3.errR newN manN) (renF D3.files newN manN)
end Go.Proofs.YtiakjeomedijkaaGreatDoor
