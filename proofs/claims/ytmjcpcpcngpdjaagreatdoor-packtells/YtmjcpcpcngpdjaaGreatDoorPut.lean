/- What put of the statements does with a Writer: it puts one value's bytes, and answers the document's. -/
import Derived.Test.YtmjcpcpcngpdjaaGreatDoorRefAll
import Derived.Test.YtmjcpcpcngpdjaaGreatDoorWide
import Derived.Test.YtmjcpcpcngpdjaaGreatDoorLeafSum
namespace Go.Proofs.YtmjcpcpcngpdjaaGreatDoor
open Go.RowKit
set_option maxRecDepth 8000

/-- A call as the statements write it. -/
abbrev opv (kind on n : Int) (x : Nat) (s : ByteArray) (b : Value) : Value := .agg #[.int .i64 kind, .int .i64 on, .int .i64 n, .float .f64 x, .string s, b]
abbrev opc (kind on n : Int) (x : Nat) (s : ByteArray) (b : Value) : Obj := .cells #[.int .i64 kind, .int .i64 on, .int .i64 n, .float .f64 x, .string s, b] 57

/-- What put leaves: the document's bytes in new memory, and the Writer with them. -/
def PutTo (w : World) (g : Nat) (v : Value) (xs ys : List Int) (u : Value) (w' : World) : Prop := Sees w' u ys ∧ (∀ k, u.ownBlock = some k → w.heap.size ≤ k) ∧ Puts w g v (xs ++ ys) w'

/-- Behind the Writer's call and the document's own bytes. -/
theorem putTo_mk {w w1 w2 : World} {o : Obj} {g : Nat} {v u : Value} {xs ys : List Int} (hp : Puts (w.alloc o) g v (xs ++ ys) w1) (ho : Owns w2 w1.heap.size u ys) (hb : Below w1.heap.size w1 w2) : PutTo w g v xs ys u w2 := by
  obtain ⟨v', h1, h2, h3⟩ := hp
  have hs := h3.size
  simp at hs
  have hp2 : Puts w1 g v' (xs ++ ys) w2 := by
    refine ⟨v', h1.kept (Below.kept hb) (fun h => ?_) (fun k hk h => ?_), .inl rfl, (Below.kept hb).mono (fun k hk h => ?_)⟩
    · have := lt_of_block h1.1; omega
    · have := (h1.2.lt k hk).2; omega
    · omega
  refine ⟨Sees.own ho, fun k hk => ?_, ?_⟩
  · have := (ho.lt k hk).1; omega
  · exact Puts.of_alloc (Puts.next h2 h3 hp2)

theorem box_kept {w w1 : World} {o : Obj} {g : Nat} {v : Value} {xs zs : List Int} (h : IsW w g v xs) (hp : Puts (w.alloc o) g v zs w1) : w1.heap[w.heap.size]? = some o := by
  obtain ⟨v', _, _, h3⟩ := hp
  refine h3.heap (heap_alloc_new w o) (fun hs => ?_)
  rcases hs with hs | hs
  · have := lt_of_block h.1; omega
  · have := (h.2.lt _ hs).2; omega

section
variable {w : World} {b : Nat} {kind on n : Int} {x : Nat} {s : ByteArray} {u : Value}
theorem opc0 (h : w.heap[b]? = some (opc kind on n x s u)) : w.cell? ⟨b, 0, none⟩ = some (.int .i64 kind) := by rw [cell_of_row w b 0 _ _ _ h]; rfl
theorem opc2 (h : w.heap[b]? = some (opc kind on n x s u)) : w.cell? ⟨b, 2, none⟩ = some (.int .i64 n) := by rw [cell_of_row w b 2 _ _ _ h]; rfl
theorem opc3 (h : w.heap[b]? = some (opc kind on n x s u)) : w.cell? ⟨b, 3, none⟩ = some (.float .f64 x) := by rw [cell_of_row w b 3 _ _ _ h]; rfl
theorem opc4 (h : w.heap[b]? = some (opc kind on n x s u)) : w.cell? ⟨b, 4, none⟩ = some (.string s) := by rw [cell_of_row w b 4 _ _ _ h]; rfl
theorem opc5 (h : w.heap[b]? = some (opc kind on n x s u)) : w.cell? ⟨b, 5, none⟩ = some u := by rw [cell_of_row w b 5 _ _ _ h]; rfl
end

theorem wrap8_is (n : Int) : IntKind.i8.wrap n = if 128 ≤ n % 256 then n % 256 - 256 else n % 256 := by simp [IntKind.wrap, IntKind.bits, IntKind.signed]
theorem wrap8_bd (n : Int) : -128 ≤ IntKind.i8.wrap n ∧ IntKind.i8.wrap n ≤ 127 := by
  rw [wrap8_is]
  by_cases c : 128 ≤ n % 256
  · rw [if_pos c]; omega
  · rw [if_neg c]; omega

section
variable (g : Nat) (v : Value) (xs : List Int) (on n : Int) (x : Nat) (s : ByteArray) (ao : Option Addr) (l cap : Nat) (w : World)

set_option maxHeartbeats 400000 in
theorem put_bool (h : IsW w g v xs) (hb : (xs ++ [b2i (bits .and .i64 n 1 == 1)]).length ≤ 140737488355328) :
    Calls Tryz.prog 7 #[.pointer (some ⟨g, 0, none⟩), opv 1 on n x s (.slice ao l cap)] w fun e w' => ∃ u, e = .returned (.tuple #[u, .bool true]) ∧ PutTo w g v xs [b2i (bits .and .i64 n 1 == 1)] u w' := by
  have H : Hid (IsW w g v xs) := h
  clear h
  go_enter Tryz.func7, Tryz.ntmps7
  go_wp2_with fail
  refine (wBool_any g v xs (bits .and .i64 n 1 == 1) _ (H.out.alloc _) (by simp at hb; omega)).mono ?_
  rintro e w1 ⟨rfl, hp⟩
  have hbox := box_kept H.out hp
  have hc := opc2 hbox
  have HP : Hid (Puts (w.alloc (opc 1 on n x s (.slice ao l cap))) g v (xs ++ [b2i (bits .and .i64 n 1 == 1)]) w1) := hp
  clear hp hbox
  go_wp2_with fail
  refine (refBool_any (bits .and .i64 n 1 == 1) _).mono ?_
  rintro e w2 ⟨u, rfl, ho, hb2⟩
  have HR : Hid (PutTo w g v xs [b2i (bits .and .i64 n 1 == 1)] u w2) := putTo_mk HP.out ho hb2
  clear ho hb2
  go_wp2
  go_ret2
  exact ⟨_, rfl, HR.out⟩

set_option maxHeartbeats 400000 in
theorem put_int8 (h : IsW w g v xs) (hb : (xs ++ [IntKind.i8.wrap n % 256]).length ≤ 140737488355328) :
    Calls Tryz.prog 7 #[.pointer (some ⟨g, 0, none⟩), opv 2 on n x s (.slice ao l cap)] w fun e w' => ∃ u, e = .returned (.tuple #[u, .bool true]) ∧ PutTo w g v xs [IntKind.i8.wrap n % 256] u w' := by
  have H : Hid (IsW w g v xs) := h
  clear h
  go_enter Tryz.func7, Tryz.ntmps7
  go_wp2_with fail
  refine (wInt8_any g v xs (IntKind.i8.wrap n) _ (H.out.alloc _) (by simp at hb; omega)).mono ?_
  rintro e w1 ⟨rfl, hp⟩
  have hbox := box_kept H.out hp
  have hc := opc2 hbox
  have HP : Hid (Puts (w.alloc (opc 2 on n x s (.slice ao l cap))) g v (xs ++ [IntKind.i8.wrap n % 256]) w1) := hp
  clear hp hbox
  go_wp2_with fail
  refine (refInt8_any (IntKind.i8.wrap n) _ (wrap8_bd n).1 (wrap8_bd n).2).mono ?_
  rintro e w2 ⟨u, rfl, ho, hb2⟩
  have HR : Hid (PutTo w g v xs [IntKind.i8.wrap n % 256] u w2) := putTo_mk HP.out ho hb2
  clear ho hb2
  go_wp2
  go_ret2
  exact ⟨_, rfl, HR.out⟩

set_option maxHeartbeats 400000 in
theorem put_int32 (h : IsW w g v xs) (hb : (xs ++ (be4 (up32 (wrap32 n)))).length ≤ 140737488355328) :
    Calls Tryz.prog 7 #[.pointer (some ⟨g, 0, none⟩), opv 3 on n x s (.slice ao l cap)] w fun e w' => ∃ u, e = .returned (.tuple #[u, .bool true]) ∧ PutTo w g v xs (be4 (up32 (wrap32 n))) u w' := by
  have H : Hid (IsW w g v xs) := h
  clear h
  go_enter Tryz.func7, Tryz.ntmps7
  go_wp2_with fail
  refine (wInt32_any g v xs (wrap32 n) _ (H.out.alloc _) (by simp [be4] at hb; omega)).mono ?_
  rintro e w1 ⟨rfl, hp⟩
  have hbox := box_kept H.out hp
  have hc := opc2 hbox
  have HP : Hid (Puts (w.alloc (opc 3 on n x s (.slice ao l cap))) g v (xs ++ (be4 (up32 (wrap32 n)))) w1) := hp
  clear hp hbox
  go_wp2_with fail
  refine (refInt32_any (wrap32 n) _ (by unfold wrap32; omega) (by unfold wrap32; omega)).mono ?_
  rintro e w2 ⟨u, rfl, ho, hb2⟩
  have HR : Hid (PutTo w g v xs (be4 (up32 (wrap32 n))) u w2) := putTo_mk HP.out ho hb2
  clear ho hb2
  go_wp2
  go_ret2
  exact ⟨_, rfl, HR.out⟩

set_option maxHeartbeats 400000 in
theorem put_uint32 (h : IsW w g v xs) (hb : (xs ++ (be4 (n % 4294967296))).length ≤ 140737488355328) :
    Calls Tryz.prog 7 #[.pointer (some ⟨g, 0, none⟩), opv 4 on n x s (.slice ao l cap)] w fun e w' => ∃ u, e = .returned (.tuple #[u, .bool true]) ∧ PutTo w g v xs (be4 (n % 4294967296)) u w' := by
  have H : Hid (IsW w g v xs) := h
  clear h
  go_enter Tryz.func7, Tryz.ntmps7
  go_wp2_with fail
  refine (wUint32_any g v xs (n % 4294967296) _ (H.out.alloc _) (by omega) (by omega) (by simp [be4] at hb; omega)).mono ?_
  rintro e w1 ⟨rfl, hp⟩
  have hbox := box_kept H.out hp
  have hc := opc2 hbox
  have HP : Hid (Puts (w.alloc (opc 4 on n x s (.slice ao l cap))) g v (xs ++ (be4 (n % 4294967296))) w1) := hp
  clear hp hbox
  go_wp2_with fail
  refine (refUint32_any (n % 4294967296) _ (by omega) (by omega)).mono ?_
  rintro e w2 ⟨u, rfl, ho, hb2⟩
  have HR : Hid (PutTo w g v xs (be4 (n % 4294967296)) u w2) := putTo_mk HP.out ho hb2
  clear ho hb2
  go_wp2
  go_ret2
  exact ⟨_, rfl, HR.out⟩

set_option maxHeartbeats 400000 in
theorem put_int64 (h : IsW w g v xs) (hn0 : -9223372036854775808 ≤ n) (hn1 : n ≤ 9223372036854775807) (hb : (xs ++ (be8 (up64 n))).length ≤ 140737488355328) :
    Calls Tryz.prog 7 #[.pointer (some ⟨g, 0, none⟩), opv 5 on n x s (.slice ao l cap)] w fun e w' => ∃ u, e = .returned (.tuple #[u, .bool true]) ∧ PutTo w g v xs (be8 (up64 n)) u w' := by
  have H : Hid (IsW w g v xs) := h
  clear h
  go_enter Tryz.func7, Tryz.ntmps7
  go_wp2_with fail
  refine (wInt64_any g v xs n _ (H.out.alloc _) (by simp [be8, be4] at hb; omega)).mono ?_
  rintro e w1 ⟨rfl, hp⟩
  have hbox := box_kept H.out hp
  have hc := opc2 hbox
  have HP : Hid (Puts (w.alloc (opc 5 on n x s (.slice ao l cap))) g v (xs ++ (be8 (up64 n))) w1) := hp
  clear hp hbox
  go_wp2_with fail
  refine (refInt64_any n _ hn0 hn1).mono ?_
  rintro e w2 ⟨u, rfl, ho, hb2⟩
  have HR : Hid (PutTo w g v xs (be8 (up64 n)) u w2) := putTo_mk HP.out ho hb2
  clear ho hb2
  go_wp2
  go_ret2
  exact ⟨_, rfl, HR.out⟩

set_option maxHeartbeats 400000 in
theorem put_float (h : IsW w g v xs) (hx : x < 18446744073709551616) (hb : (xs ++ (be8 (bitsOf x))).length ≤ 140737488355328) :
    Calls Tryz.prog 7 #[.pointer (some ⟨g, 0, none⟩), opv 6 on n x s (.slice ao l cap)] w fun e w' => ∃ u, e = .returned (.tuple #[u, .bool true]) ∧ PutTo w g v xs (be8 (bitsOf x)) u w' := by
  have H : Hid (IsW w g v xs) := h
  clear h
  go_enter Tryz.func7, Tryz.ntmps7
  go_wp2_with fail
  refine (wFloat_any g v xs x _ (H.out.alloc _) hx (by simp [be8, be4] at hb; omega)).mono ?_
  rintro e w1 ⟨rfl, hp⟩
  have hbox := box_kept H.out hp
  have hc := opc3 hbox
  have HP : Hid (Puts (w.alloc (opc 6 on n x s (.slice ao l cap))) g v (xs ++ (be8 (bitsOf x))) w1) := hp
  clear hp hbox
  go_wp2_with fail
  refine (refFloat_any x _ hx).mono ?_
  rintro e w2 ⟨u, rfl, ho, hb2⟩
  have HR : Hid (PutTo w g v xs (be8 (bitsOf x)) u w2) := putTo_mk HP.out ho hb2
  clear ho hb2
  go_wp2
  go_ret2
  exact ⟨_, rfl, HR.out⟩

set_option maxHeartbeats 400000 in
theorem put_text (h : IsW w g v xs) (hl : s.size ≤ 2147483647) (hb : (xs ++ (be4 (txt s).length ++ txt s)).length ≤ 140737488355328) :
    Calls Tryz.prog 7 #[.pointer (some ⟨g, 0, none⟩), opv 7 on n x s (.slice ao l cap)] w fun e w' => ∃ u, e = .returned (.tuple #[u, .bool true]) ∧ PutTo w g v xs (be4 (txt s).length ++ txt s) u w' := by
  have H : Hid (IsW w g v xs) := h
  clear h
  go_enter Tryz.func7, Tryz.ntmps7
  go_wp2_with fail
  refine (wText_any g v xs s _ (H.out.alloc _) hl (by simp [be4, txt_len] at hb; omega)).mono ?_
  rintro e w1 ⟨rfl, hp⟩
  have hbox := box_kept H.out hp
  have hc := opc4 hbox
  have HP : Hid (Puts (w.alloc (opc 7 on n x s (.slice ao l cap))) g v (xs ++ (be4 (txt s).length ++ txt s)) w1) := hp
  clear hp hbox
  go_wp2_with fail
  refine (refText_any s _ hl).mono ?_
  rintro e w2 ⟨u, rfl, ho, hb2⟩
  have HR : Hid (PutTo w g v xs (be4 (txt s).length ++ txt s) u w2) := putTo_mk HP.out ho hb2
  clear ho hb2
  go_wp2
  go_ret2
  exact ⟨_, rfl, HR.out⟩

end
end Go.Proofs.YtmjcpcpcngpdjaaGreatDoor
