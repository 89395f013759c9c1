/- A row of cells that is stored over, cell by cell; a result that lies in a variable. No Go function is walked here. -/
import Derived.Test.YtgaepncccfipeaaDoorProg
import Derived.Test.YtgaepncccfipeaaDoorWriterJ
import Derived.Test.YtgaepncccfipeaaDoorZxJ
import Derived.Test.YtgaepncccfipeaaDoorDblJ
import Derived.Test.YtgaepncccfipeaaDoorWrEJ
import Derived.Test.YtgaepncccfipeaaDoorChk5J
namespace Go.Proofs.YtgaepncccfipeaaDoor
open Go.RowKit
set_option maxRecDepth 8000

theorem heap_setR {w : World} {b i : Nat} {cs : Array Value} {t : TypeId} {fr : Nat × Nat} (c : Value) (h : w.heap[b]? = some (.cells cs t fr)) : (w.setCell ⟨b, i, none⟩ c).heap[b]? = some (.cells (cs.setIfInBounds i c) t fr) := by
  rw [setCell_eq_setRow w b i cs t fr c h]
  exact setRow_heap w b cs _ t fr h

theorem stored11 {U : World} {b : Nat} {t : TypeId} {d0 d1 d2 d3 d4 d5 d6 d7 d8 d9 d10 : Value} (c0 c1 c2 c3 c4 c5 c6 c7 c8 c9 c10 : Value) (hbox : U.heap[b]? = some (.cells #[d0, d1, d2, d3, d4, d5, d6, d7, d8, d9, d10] t (0, 0))) :
    (((((((((((U.setCell ⟨b, 0, none⟩ c0).setCell ⟨b, 1, none⟩ c1).setCell ⟨b, 2, none⟩ c2).setCell ⟨b, 3, none⟩ c3).setCell ⟨b, 4, none⟩ c4).setCell ⟨b, 5, none⟩ c5).setCell ⟨b, 6, none⟩ c6).setCell ⟨b, 7, none⟩ c7).setCell ⟨b, 8, none⟩ c8).setCell ⟨b, 9, none⟩ c9).setCell ⟨b, 10, none⟩ c10).heap[b]? = some (.cells #[c0, c1, c2, c3, c4, c5, c6, c7, c8, c9, c10] t (0, 0)) ∧ Kept U (((((((((((U.setCell ⟨b, 0, none⟩ c0).setCell ⟨b, 1, none⟩ c1).setCell ⟨b, 2, none⟩ c2).setCell ⟨b, 3, none⟩ c3).setCell ⟨b, 4, none⟩ c4).setCell ⟨b, 5, none⟩ c5).setCell ⟨b, 6, none⟩ c6).setCell ⟨b, 7, none⟩ c7).setCell ⟨b, 8, none⟩ c8).setCell ⟨b, 9, none⟩ c9).setCell ⟨b, 10, none⟩ c10) (fun k => k = b) := by
  refine ⟨?_, ?_⟩
  · have hrow := (heap_setR (i := 10) c10 (heap_setR (i := 9) c9 (heap_setR (i := 8) c8 (heap_setR (i := 7) c7 (heap_setR (i := 6) c6 (heap_setR (i := 5) c5 (heap_setR (i := 4) c4 (heap_setR (i := 3) c3 (heap_setR (i := 2) c2 (heap_setR (i := 1) c1 (heap_setR (i := 0) c0 hbox)))))))))))
    have e : (((((((((((#[d0, d1, d2, d3, d4, d5, d6, d7, d8, d9, d10].setIfInBounds 0 c0).setIfInBounds 1 c1).setIfInBounds 2 c2).setIfInBounds 3 c3).setIfInBounds 4 c4).setIfInBounds 5 c5).setIfInBounds 6 c6).setIfInBounds 7 c7).setIfInBounds 8 c8).setIfInBounds 9 c9).setIfInBounds 10 c10) = #[c0, c1, c2, c3, c4, c5, c6, c7, c8, c9, c10] := by simp
    rw [e] at hrow
    exact hrow
  · exact (Kept.setCell (Kept.setCell (Kept.setCell (Kept.setCell (Kept.setCell (Kept.setCell (Kept.setCell (Kept.setCell (Kept.setCell (Kept.setCell (Kept.setCell (Kept.refl U (fun k => k = b)) ⟨b, 0, none⟩ c0 (fun _ => rfl)) ⟨b, 1, none⟩ c1 (fun _ => rfl)) ⟨b, 2, none⟩ c2 (fun _ => rfl)) ⟨b, 3, none⟩ c3 (fun _ => rfl)) ⟨b, 4, none⟩ c4 (fun _ => rfl)) ⟨b, 5, none⟩ c5 (fun _ => rfl)) ⟨b, 6, none⟩ c6 (fun _ => rfl)) ⟨b, 7, none⟩ c7 (fun _ => rfl)) ⟨b, 8, none⟩ c8 (fun _ => rfl)) ⟨b, 9, none⟩ c9 (fun _ => rfl)) ⟨b, 10, none⟩ c10 (fun _ => rfl))

theorem stored16 {U : World} {b : Nat} {t : TypeId} {d0 d1 d2 d3 d4 d5 d6 d7 d8 d9 d10 d11 d12 d13 d14 d15 : Value} (c0 c1 c2 c3 c4 c5 c6 c7 c8 c9 c10 c11 c12 c13 c14 c15 : Value) (hbox : U.heap[b]? = some (.cells #[d0, d1, d2, d3, d4, d5, d6, d7, d8, d9, d10, d11, d12, d13, d14, d15] t (0, 0))) :
    ((((((((((((((((U.setCell ⟨b, 0, none⟩ c0).setCell ⟨b, 1, none⟩ c1).setCell ⟨b, 2, none⟩ c2).setCell ⟨b, 3, none⟩ c3).setCell ⟨b, 4, none⟩ c4).setCell ⟨b, 5, none⟩ c5).setCell ⟨b, 6, none⟩ c6).setCell ⟨b, 7, none⟩ c7).setCell ⟨b, 8, none⟩ c8).setCell ⟨b, 9, none⟩ c9).setCell ⟨b, 10, none⟩ c10).setCell ⟨b, 11, none⟩ c11).setCell ⟨b, 12, none⟩ c12).setCell ⟨b, 13, none⟩ c13).setCell ⟨b, 14, none⟩ c14).setCell ⟨b, 15, none⟩ c15).heap[b]? = some (.cells #[c0, c1, c2, c3, c4, c5, c6, c7, c8, c9, c10, c11, c12, c13, c14, c15] t (0, 0)) ∧ Kept U ((((((((((((((((U.setCell ⟨b, 0, none⟩ c0).setCell ⟨b, 1, none⟩ c1).setCell ⟨b, 2, none⟩ c2).setCell ⟨b, 3, none⟩ c3).setCell ⟨b, 4, none⟩ c4).setCell ⟨b, 5, none⟩ c5).setCell ⟨b, 6, none⟩ c6).setCell ⟨b, 7, none⟩ c7).setCell ⟨b, 8, none⟩ c8).setCell ⟨b, 9, none⟩ c9).setCell ⟨b, 10, none⟩ c10).setCell ⟨b, 11, none⟩ c11).setCell ⟨b, 12, none⟩ c12).setCell ⟨b, 13, none⟩ c13).setCell ⟨b, 14, none⟩ c14).setCell ⟨b, 15, none⟩ c15) (fun k => k = b) := by
  refine ⟨?_, ?_⟩
  · have hrow := (heap_setR (i := 15) c15 (heap_setR (i := 14) c14 (heap_setR (i := 13) c13 (heap_setR (i := 12) c12 (heap_setR (i := 11) c11 (heap_setR (i := 10) c10 (heap_setR (i := 9) c9 (heap_setR (i := 8) c8 (heap_setR (i := 7) c7 (heap_setR (i := 6) c6 (heap_setR (i := 5) c5 (heap_setR (i := 4) c4 (heap_setR (i := 3) c3 (heap_setR (i := 2) c2 (heap_setR (i := 1) c1 (heap_setR (i := 0) c0 hbox))))))))))))))))
    have e : ((((((((((((((((#[d0, d1, d2, d3, d4, d5, d6, d7, d8, d9, d10, d11, d12, d13, d14, d15].setIfInBounds 0 c0).setIfInBounds 1 c1).setIfInBounds 2 c2).setIfInBounds 3 c3).setIfInBounds 4 c4).setIfInBounds 5 c5).setIfInBounds 6 c6).setIfInBounds 7 c7).setIfInBounds 8 c8).setIfInBounds 9 c9).setIfInBounds 10 c10).setIfInBounds 11 c11).setIfInBounds 12 c12).setIfInBounds 13 c13).setIfInBounds 14 c14).setIfInBounds 15 c15) = #[c0, c1, c2, c3, c4, c5, c6, c7, c8, c9, c10, c11, c12, c13, c14, c15] := by simp
    rw [e] at hrow
    exact hrow
  · exact (Kept.setCell (Kept.setCell (Kept.setCell (Kept.setCell (Kept.setCell (Kept.setCell (Kept.setCell (Kept.setCell (Kept.setCell (Kept.setCell (Kept.setCell (Kept.setCell (Kept.setCell (Kept.setCell (Kept.setCell (Kept.setCell (Kept.refl U (fun k => k = b)) ⟨b, 0, none⟩ c0 (fun _ => rfl)) ⟨b, 1, none⟩ c1 (fun _ => rfl)) ⟨b, 2, none⟩ c2 (fun _ => rfl)) ⟨b, 3, none⟩ c3 (fun _ => rfl)) ⟨b, 4, none⟩ c4 (fun _ => rfl)) ⟨b, 5, none⟩ c5 (fun _ => rfl)) ⟨b, 6, none⟩ c6 (fun _ => rfl)) ⟨b, 7, none⟩ c7 (fun _ => rfl)) ⟨b, 8, none⟩ c8 (fun _ => rfl)) ⟨b, 9, none⟩ c9 (fun _ => rfl)) ⟨b, 10, none⟩ c10 (fun _ => rfl)) ⟨b, 11, none⟩ c11 (fun _ => rfl)) ⟨b, 12, none⟩ c12 (fun _ => rfl)) ⟨b, 13, none⟩ c13 (fun _ => rfl)) ⟨b, 14, none⟩ c14 (fun _ => rfl)) ⟨b, 15, none⟩ c15 (fun _ => rfl))

theorem resCell1 {fn : Func} {p : Tmp} {ty : TypeId} (h : fn.results = #[.cell p ty]) (tmps : Array Value) (P : Program) (w : World) :
    (results fn tmps).run P w = ((asAddr (tmps.getD p undef)).run P w).andThen fun a w₁ => (loadVar ty a).run P w₁ := by
  simp only [results, h]
  simp [Sem.run_bind, Result.andThen]

theorem rq_size : (Tryd.prog.info? 33).map (·.size) = some 11 := by kernel_rfl
theorem tx_size : (Tryd.prog.info? 35).map (·.size) = some 16 := by kernel_rfl
end Go.Proofs.YtgaepncccfipeaaDoor

/- A Reader at bytes that a Writer laid: each call tells what was written, and leaves the rest. getId and getEntry of package txn. -/
namespace Go.Proofs.YtgaepncccfipeaaDoor
open Go.RowKit
set_option maxRecDepth 8000

theorem bk_num4 (n : Int) : num (be4 n) = n := by
  simp only [num, be4, List.foldl_cons, List.foldl_nil]
  omega
theorem bk_num8 (n : Int) : num (be8 n) = n := by
  simp only [num, be8, be4, List.cons_append, List.nil_append, List.foldl_cons, List.foldl_nil]
  omega
theorem bk_txt (s : ByteArray) : strOfNums (txt s) = s := by
  unfold strOfNums txt
  rw [List.map_map]
  have : ((fun n : Int => UInt8.ofNat n.toNat) ∘ fun b : UInt8 => (b.toNat : Int)) = id := by
    funext b
    simp
  rw [this]
  simp
theorem bk_take {a b : List Int} {n : Nat} (h : a.length = n) : (a ++ b).take n = a := by rw [← h]; simp
theorem bk_drop {a b : List Int} {n : Nat} (h : a.length = n) : (a ++ b).drop n = b := by rw [← h]; simp
theorem bk_rdNum {n : Nat} {a b : List Int} (h : a.length = n) : rdNum n (a ++ b) 0 = ⟨num a, b, 0⟩ := by
  unfold rdNum
  rw [if_neg (by simp), if_neg (by rw [List.length_append]; omega), bk_take h, bk_drop h]
theorem bk_ahead {n : Nat} {b : List Int} (hn : n ≤ 2147483647) : ahead (be4 n ++ b) = n := by
  unfold ahead
  rw [bk_take (n := 4) rfl, bk_num4]
  unfold wrap32
  omega
theorem bk_rdBuf {most : Int} {ys b : List Int} (hl : ys.length ≤ 2147483647) (hm : (ys.length : Int) ≤ most) : rdBuf most ((be4 ys.length ++ ys) ++ b) 0 = (ys, ⟨0, b, 0⟩) := by
  have e5 : ((be4 ys.length ++ ys) ++ b).drop 4 = ys ++ b := by rw [List.append_assoc]; exact bk_drop rfl
  have ha : ahead ((be4 ys.length ++ ys) ++ b) = ys.length := by rw [List.append_assoc]; exact bk_ahead hl
  have hlen : ((be4 ys.length ++ ys) ++ b).length = 4 + ys.length + b.length := by rw [List.length_append, List.length_append]; rfl
  unfold rdBuf
  rw [if_neg (by simp), if_neg (by omega), ha, if_neg (by omega), if_neg (by rw [hlen]; omega), e5, Int.toNat_natCast, bk_take rfl, bk_drop rfl]

theorem Byts.right {a b : List Int} (h : Byts (a ++ b)) : Byts b := fun x hx => h x (List.mem_append.2 (.inr hx))

section
variable {g : Nat} {v : Value} {rest : List Int} {w : World}

theorem gI8 (x : Int) (h : IsR w g v ([x % 256] ++ rest) 0) (hb : Byts ([x % 256] ++ rest)) (h0 : -128 ≤ x) (h1 : x ≤ 127) :
    Calls Tryd.prog 25 #[.pointer (some ⟨g, 0, none⟩)] w fun e w' => e = .returned (.int .i8 x) ∧ ReadsTo w g v ⟨0, rest, 0⟩ w' := by
  refine (rInt8_any g v _ 0 w h hb).mono ?_
  rintro e w' ⟨rfl, hr⟩
  rw [bk_rdNum (n := 1) rfl] at hr ⊢
  have hw : IntKind.i8.wrap (num [x % 256]) = x := by
    have : num [x % 256] = x % 256 := by simp [num]
    rw [this]
    simp [IntKind.wrap, IntKind.bits, IntKind.signed]
    omega
  exact ⟨by simp only [hw], hr⟩

theorem gU32 (x : Int) (h : IsR w g v (be4 x ++ rest) 0) (hb : Byts (be4 x ++ rest)) :
    Calls Tryd.prog 24 #[.pointer (some ⟨g, 0, none⟩)] w fun e w' => e = .returned (.int .u32 x) ∧ ReadsTo w g v ⟨0, rest, 0⟩ w' := by
  refine (rUint32_any g v _ 0 w h hb).mono ?_
  rintro e w' ⟨rfl, hr⟩
  rw [bk_rdNum (n := 4) rfl] at hr ⊢
  exact ⟨by simp only [bk_num4], hr⟩

theorem gI32 (x : Int) (h : IsR w g v (be4 (up32 x) ++ rest) 0) (hb : Byts (be4 (up32 x) ++ rest)) (h0 : -2147483648 ≤ x) (h1 : x ≤ 2147483647) :
    Calls Tryd.prog 59 #[.pointer (some ⟨g, 0, none⟩)] w fun e w' => e = .returned (.int .i32 x) ∧ ReadsTo w g v ⟨0, rest, 0⟩ w' := by
  refine (rInt32_any g v _ 0 w h hb).mono ?_
  rintro e w' ⟨rfl, hr⟩
  rw [bk_rdNum (n := 4) rfl] at hr ⊢
  have hw : down32 (num (be4 (up32 x))) = x := by
    rw [bk_num4, down32_is _ (by unfold up32; omega) (by unfold up32; omega)]
    unfold up32
    split <;> omega
  exact ⟨by simp only [hw], hr⟩

theorem gI64 (x : Int) (h : IsR w g v (be8 (up64 x) ++ rest) 0) (hb : Byts (be8 (up64 x) ++ rest)) (h0 : -9223372036854775808 ≤ x) (h1 : x ≤ 9223372036854775807) :
    Calls Tryd.prog 26 #[.pointer (some ⟨g, 0, none⟩)] w fun e w' => e = .returned (.int .i64 x) ∧ ReadsTo w g v ⟨0, rest, 0⟩ w' := by
  refine (rInt64_any g v _ 0 w h hb).mono ?_
  rintro e w' ⟨rfl, hr⟩
  rw [bk_rdNum (n := 8) rfl] at hr ⊢
  have hw : wrap64 (num (be8 (up64 x))) = x := by
    rw [bk_num8]
    unfold wrap64 up64
    omega
  exact ⟨by simp only [hw], hr⟩

theorem gBool (b : Bool) (h : IsR w g v ([b2i b] ++ rest) 0) (hb : Byts ([b2i b] ++ rest)) :
    Calls Tryd.prog 60 #[.pointer (some ⟨g, 0, none⟩)] w fun e w' => e = .returned (.bool b) ∧ ReadsTo w g v ⟨0, rest, 0⟩ w' := by
  refine (rBool_any g v _ 0 w h hb).mono ?_
  rintro e w' ⟨rfl, hr⟩
  have e1 : rdBool ([b2i b] ++ rest) 0 = ⟨b2i b, rest, 0⟩ := by cases b <;> simp [rdBool, b2i]
  rw [e1] at hr ⊢
  exact ⟨by cases b <;> rfl, hr⟩

theorem gText (s : ByteArray) (most : Int) (h : IsR w g v (txtB s ++ rest) 0) (hb : Byts (txtB s ++ rest)) (hl : s.size ≤ 2147483647) (hm : (s.size : Int) ≤ most) :
    Calls Tryd.prog 55 #[.pointer (some ⟨g, 0, none⟩), .int .i64 most] w fun e w' => e = .returned (.string s) ∧ ReadsTo w g v ⟨0, rest, 0⟩ w' := by
  refine (rText_any g v _ 0 w most h hb).mono ?_
  rintro e w' ⟨rfl, hr⟩
  have e1 : rdBuf most (txtB s ++ rest) 0 = (txt s, ⟨0, rest, 0⟩) := bk_rdBuf (by rw [txt_len]; exact hl) (by rw [txt_len]; exact hm)
  rw [e1] at hr ⊢
  exact ⟨by simp only [bk_txt], hr⟩

theorem gBuf (ys : List Int) (most : Int) (h : IsR w g v ((be4 ys.length ++ ys) ++ rest) 0) (hb : Byts ((be4 ys.length ++ ys) ++ rest)) (hl : ys.length ≤ 2147483647) (hm : (ys.length : Int) ≤ most) :
    Calls Tryd.prog 86 #[.pointer (some ⟨g, 0, none⟩), .int .i64 most] w fun e w' => ∃ u, e = .returned u ∧ Cut w' v u ys ∧ ReadsTo w g v ⟨0, rest, 0⟩ w' := by
  refine (rBuffer_any g v _ 0 w most h hb).mono ?_
  rintro e w' ⟨u, rfl, hc, hr⟩
  rw [bk_rdBuf hl hm] at hc hr
  exact ⟨u, rfl, hc, hr⟩

/-- Two readings, one behind the other. -/
theorem ReadsTo.next {w1 w2 : World} {v1 : Value} {ys : List Int} (h1 : Kept w w1 (· = g)) (hv : ∀ k, v1.ownBlock = some k → v.ownBlock = some k) (h : ReadsTo w1 g v1 ⟨0, ys, 0⟩ w2) : ReadsTo w g v ⟨0, ys, 0⟩ w2 := by
  obtain ⟨v2, a, b, c⟩ := h
  exact ⟨v2, a, fun k e => hv k (b k e), h1.trans c (fun _ _ h => h)⟩

theorem ReadsTo.later {w1 w2 : World} {xs : List Int} (h : ReadsTo w g v ⟨0, xs, 0⟩ w1) (hb : Below w1.heap.size w1 w2) : ReadsTo w g v ⟨0, xs, 0⟩ w2 := by
  obtain ⟨v', a, b, c⟩ := h
  have hg := lt_of_block a.1
  refine ⟨v', ⟨(Below.kept hb).heap a.1 (by omega), a.2.below hb (Nat.le_refl _)⟩, b, c.trans ((Below.kept hb).mono (S' := fun _ => False) (fun k hk h => by omega)) (fun _ _ h => h.elim)⟩
end
end Go.Proofs.YtgaepncccfipeaaDoor

/- getId and getEntry of package txn at bytes that were laid. -/
namespace Go.Proofs.YtgaepncccfipeaaDoor
open Go.RowKit
set_option maxRecDepth 8000

/-- A cell of a block that is none of the Reader's is stored. -/
theorem ReadsTo.aside {w w1 w2 : World} {g n : Nat} {v : Value} {xs : List Int} (h : ReadsTo w g v ⟨0, xs, 0⟩ w1) (hk : Kept w1 w2 (fun k => k = n)) (hn : ∀ k, k = n → w.heap.size ≤ k) (hg : g ≠ n) (hv : ∀ k, v.ownBlock = some k → k ≠ n) : ReadsTo w g v ⟨0, xs, 0⟩ w2 := by
  obtain ⟨v', a, b, c⟩ := h
  exact ⟨v', a.kept hk hg (fun k e => hv k (b k e)), b, c.trans hk (fun k hk' e => by have := hn k e; omega)⟩

set_option maxHeartbeats 1000000 in
theorem getId_bk (l0 l1 : Int) (g : Nat) (v : Value) (x : IdD) (rest : List Int) (w : World) (h : IsR w g v (idB x ++ rest) 0) (hb : Byts (idB x ++ rest)) (h0 : x.scheme.size ≤ 24) (h1 : x.name.size ≤ 24) :
    Calls Tryd.prog 62 #[lay l0 l1, .pointer (some ⟨g, 0, none⟩)] w fun e w' => e = .returned (.agg #[.string x.scheme, .string x.name]) ∧ ReadsTo w g v ⟨0, rest, 0⟩ w' := by
  have eb : idB x ++ rest = txtB x.scheme ++ (txtB x.name ++ rest) := by simp [idB]
  rw [eb] at h hb
  have H : Hid (IsR w g v (txtB x.scheme ++ (txtB x.name ++ rest)) 0 ∧ Byts (txtB x.scheme ++ (txtB x.name ++ rest)) ∧ g < w.heap.size) := ⟨h, hb, lt_of_block h.1⟩
  have HVL : Hid (∀ k, v.ownBlock = some k → k ≠ w.heap.size + 1) := fun k e => by have := h.2.lt (by simp [txtB, be4]) k e; omega
  clear h hb eb
  obtain ⟨V, eV⟩ : ∃ V, V = (w.alloc (.cells #[.int .i8 l0, .int .u16 l1] 55)).alloc (.cells #[.string ⟨#[]⟩, .string ⟨#[]⟩] 81) := ⟨_, rfl⟩
  have HV : Hid (Kept w V (fun _ => False) ∧ V.heap[w.heap.size + 1]? = some (.cells #[.string ⟨#[]⟩, .string ⟨#[]⟩] 81 (0, 0))) := by
    subst eV
    exact ⟨((Kept.refl w _).alloc _).alloc _, by have := heap_alloc_new (w.alloc (.cells #[.int .i8 l0, .int .u16 l1] 55)) (.cells #[.string ⟨#[]⟩, .string ⟨#[]⟩] 81); simpa using this⟩
  have HE : Hid _ := eV
  clear eV
  go_enter Tryd.func62, Tryd.ntmps62
  go_wp2_with fail
  rw [← HE.out]
  clear HE
  refine (gText x.scheme 24 (H.out.1.kept HV.out.1 (fun h => h) (fun _ _ h => h)) H.out.2.1 (by omega) (by omega)).mono ?_
  rintro e w1 ⟨rfl, hr⟩
  obtain ⟨v1, a1, a2, a3⟩ := hr
  have H1 : Hid (IsR w1 g v1 (txtB x.name ++ rest) 0 ∧ (∀ k, v1.ownBlock = some k → v.ownBlock = some k) ∧ Kept w w1 (· = g) ∧ w1.heap[w.heap.size + 1]? = some (.cells #[.string ⟨#[]⟩, .string ⟨#[]⟩] 81 (0, 0))) := ⟨a1, a2, (HV.out.1.mono (fun _ _ h => h.elim)).trans a3 (fun _ _ h => h), a3.heap HV.out.2 (by have := H.out.2.2; omega)⟩
  clear a1 a2 a3
  go_wp2_with fail
  refine (gText x.name 24 H1.out.1 H.out.2.1.right (by omega) (by omega)).mono ?_
  rintro e w2 ⟨rfl, hr⟩
  have H3 : Hid (∀ k, v.ownBlock = some k → k ≠ w.heap.size + 1) := HVL
  have H2 : Hid (ReadsTo w g v ⟨0, rest, 0⟩ w2) := ReadsTo.next H1.out.2.2.1 H1.out.2.1 hr
  obtain ⟨v2, _, _, a3⟩ := hr
  have hrow := a3.heap H1.out.2.2.2 (by have := H.out.2.2; omega)
  have f0 := frozen_of_row w2 _ 0 _ _ hrow
  have f1 := frozen_of_row w2 _ 1 _ _ hrow
  have c0 : w2.cell? ⟨w.heap.size + 1, 0, none⟩ = some (.string ⟨#[]⟩) := by rw [cell_of_row _ _ _ _ _ _ hrow]; rfl
  have c1 : w2.cell? ⟨w.heap.size + 1, 1, none⟩ = some (.string ⟨#[]⟩) := by rw [cell_of_row _ _ _ _ _ _ hrow]; rfl
  clear a3
  go_wp2_with fail
  have hrow2 := heap_setR (i := 1) (.string x.name) (heap_setR (i := 0) (.string x.scheme) hrow)
  have hk : Kept w2 ((w2.setCell ⟨w.heap.size + 1, 0, none⟩ (.string x.scheme)).setCell ⟨w.heap.size + 1, 1, none⟩ (.string x.name)) (fun k => k = w.heap.size + 1) := ((Kept.refl w2 (fun k => k = w.heap.size + 1)).setCell ⟨w.heap.size + 1, 0, none⟩ _ (fun _ => rfl)).setCell ⟨w.heap.size + 1, 1, none⟩ _ (fun _ => rfl)
  have hrd : ReadsTo w g v ⟨0, rest, 0⟩ ((w2.setCell ⟨w.heap.size + 1, 0, none⟩ (.string x.scheme)).setCell ⟨w.heap.size + 1, 1, none⟩ (.string x.name)) := H2.out.aside hk (fun k e => by have := H.out.2.2; omega) (by have := H.out.2.2; omega) H3.out
  refine bodyPost_ret (v := .agg #[.string x.scheme, .string x.name]) ?_ rfl ⟨rfl, hrd⟩
  have hld := run_loadVar_row (P := Tryd.prog) _ _ _ 81 _ _ _ hrow2 Tryd.underlying81 rfl (by kernel_rfl)
  rw [resCell1 Tryd.results62]
  show ((asAddr (.pointer (some ⟨w.heap.size + 1, 0, none⟩))).run Tryd.prog _).andThen _ = _
  simp only [asAddr, Sem.run_pure, Result.andThen_ok, hld]
  rfl

set_option maxHeartbeats 1000000 in
theorem getEntry_bk (l0 l1 : Int) (g : Nat) (v : Value) (x : EnD) (rest : List Int) (w : World) (h : IsR w g v (enB x ++ rest) 0) (hb : Byts (enB x ++ rest)) (hp0 : -128 ≤ x.perms) (hp1 : x.perms ≤ 127) (h0 : x.id.scheme.size ≤ 24) (h1 : x.id.name.size ≤ 24) :
    Calls Tryd.prog 58 #[lay l0 l1, .pointer (some ⟨g, 0, none⟩)] w fun e w' => e = .returned (.agg #[.int .i8 x.perms, .string x.id.scheme, .string x.id.name]) ∧ ReadsTo w g v ⟨0, rest, 0⟩ w' := by
  have eb : enB x ++ rest = [x.perms % 256] ++ (idB x.id ++ rest) := by simp [enB]
  rw [eb] at h hb
  have H : Hid (IsR w g v ([x.perms % 256] ++ (idB x.id ++ rest)) 0 ∧ Byts ([x.perms % 256] ++ (idB x.id ++ rest)) ∧ g < w.heap.size) := ⟨h, hb, lt_of_block h.1⟩
  have HVL : Hid (∀ k, v.ownBlock = some k → k ≠ w.heap.size + 1) := fun k e => by have := h.2.lt (by simp) k e; omega
  clear h hb eb
  obtain ⟨V, eV⟩ : ∃ V, V = (w.alloc (.cells #[.int .i8 l0, .int .u16 l1] 55)).alloc (.cells #[.int .i8 0, .string ⟨#[]⟩, .string ⟨#[]⟩] 83) := ⟨_, rfl⟩
  have HV : Hid (Kept w V (fun _ => False) ∧ V.heap[w.heap.size + 1]? = some (.cells #[.int .i8 0, .string ⟨#[]⟩, .string ⟨#[]⟩] 83 (0, 0)) ∧ V.heap[w.heap.size]? = some (.cells #[.int .i8 l0, .int .u16 l1] 55 (0, 0))) := by
    subst eV
    exact ⟨((Kept.refl w _).alloc _).alloc _, by have := heap_alloc_new (w.alloc (.cells #[.int .i8 l0, .int .u16 l1] 55)) (.cells #[.int .i8 0, .string ⟨#[]⟩, .string ⟨#[]⟩] 83); simpa using this, by rw [Below.heap_alloc _ _ _ (by simp)]; exact heap_alloc_new _ _⟩
  have HE : Hid _ := eV
  clear eV
  go_enter Tryd.func58, Tryd.ntmps58
  go_wp2_with fail
  rw [← HE.out]
  clear HE
  refine (gI8 x.perms (H.out.1.kept HV.out.1 (fun h => h) (fun _ _ h => h)) H.out.2.1 hp0 hp1).mono ?_
  rintro e w1 ⟨rfl, hr⟩
  obtain ⟨v1, a1, a2, a3⟩ := hr
  have H1 : Hid (IsR w1 g v1 (idB x.id ++ rest) 0 ∧ (∀ k, v1.ownBlock = some k → v.ownBlock = some k) ∧ Kept w w1 (· = g) ∧ w1.heap[w.heap.size + 1]? = some (.cells #[.int .i8 0, .string ⟨#[]⟩, .string ⟨#[]⟩] 83 (0, 0))) := ⟨a1, a2, (HV.out.1.mono (fun _ _ h => h.elim)).trans a3 (fun _ _ h => h), a3.heap HV.out.2.1 (by have := H.out.2.2; omega)⟩
  have hlr := a3.heap HV.out.2.2 (by have := H.out.2.2; omega)
  have d0 : w1.cell? ⟨w.heap.size, 0, none⟩ = some (.int .i8 l0) := by rw [cell_of_row _ _ _ _ _ _ hlr]; rfl
  have d1 : w1.cell? ⟨w.heap.size, 1, none⟩ = some (.int .u16 l1) := by rw [cell_of_row _ _ _ _ _ _ hlr]; rfl
  clear a1 a2 a3 hlr
  go_wp2_with fail
  refine (getId_bk l0 l1 g v1 x.id rest w1 H1.out.1 H.out.2.1.right h0 h1).mono ?_
  rintro e w2 ⟨rfl, hr⟩
  have H2 : Hid (ReadsTo w g v ⟨0, rest, 0⟩ w2) := ReadsTo.next H1.out.2.2.1 H1.out.2.1 hr
  obtain ⟨v2, _, _, a3⟩ := hr
  have hrow := a3.heap H1.out.2.2.2 (by have := H.out.2.2; omega)
  have f0 := frozen_of_row w2 _ 0 _ _ hrow
  have f1 := frozen_of_row w2 _ 1 _ _ hrow
  have f2 := frozen_of_row w2 _ 2 _ _ hrow
  have c0 : w2.cell? ⟨w.heap.size + 1, 0, none⟩ = some (.int .i8 0) := by rw [cell_of_row _ _ _ _ _ _ hrow]; rfl
  have c1 : w2.cell? ⟨w.heap.size + 1, 1, none⟩ = some (.string ⟨#[]⟩) := by rw [cell_of_row _ _ _ _ _ _ hrow]; rfl
  have c2 : w2.cell? ⟨w.heap.size + 1, 2, none⟩ = some (.string ⟨#[]⟩) := by rw [cell_of_row _ _ _ _ _ _ hrow]; rfl
  clear a3 d0 d1
  go_wp2_with fail
  have hrow2 := heap_setR (i := 2) (.string x.id.name) (heap_setR (i := 1) (.string x.id.scheme) (heap_setR (i := 0) (.int .i8 x.perms) hrow))
  have hk : Kept w2 (((w2.setCell ⟨w.heap.size + 1, 0, none⟩ (.int .i8 x.perms)).setCell ⟨w.heap.size + 1, 1, none⟩ (.string x.id.scheme)).setCell ⟨w.heap.size + 1, 2, none⟩ (.string x.id.name)) (fun k => k = w.heap.size + 1) := (((Kept.refl w2 (fun k => k = w.heap.size + 1)).setCell ⟨w.heap.size + 1, 0, none⟩ _ (fun _ => rfl)).setCell ⟨w.heap.size + 1, 1, none⟩ _ (fun _ => rfl)).setCell ⟨w.heap.size + 1, 2, none⟩ _ (fun _ => rfl)
  have hrd : ReadsTo w g v ⟨0, rest, 0⟩ (((w2.setCell ⟨w.heap.size + 1, 0, none⟩ (.int .i8 x.perms)).setCell ⟨w.heap.size + 1, 1, none⟩ (.string x.id.scheme)).setCell ⟨w.heap.size + 1, 2, none⟩ (.string x.id.name)) := H2.out.aside hk (fun k e => by have := H.out.2.2; omega) (by have := H.out.2.2; omega) HVL.out
  refine bodyPost_ret (v := .agg #[.int .i8 x.perms, .string x.id.scheme, .string x.id.name]) ?_ rfl ⟨rfl, hrd⟩
  have hld := run_loadVar_row (P := Tryd.prog) _ _ _ 83 _ _ _ hrow2 Tryd.underlying83 rfl (by kernel_rfl)
  rw [resCell1 Tryd.results58]
  show ((asAddr (.pointer (some ⟨w.heap.size + 1, 0, none⟩))).run Tryd.prog _).andThen _ = _
  simp only [asAddr, Sem.run_pure, Result.andThen_ok, hld]
  rfl
end Go.Proofs.YtgaepncccfipeaaDoor
