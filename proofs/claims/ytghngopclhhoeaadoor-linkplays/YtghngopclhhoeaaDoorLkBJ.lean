/- What link.copies answers. -/
import Derived.Test.YtghngopclhhoeaaDoorLkAJ
import Derived.Laws.CopyRow
import Derived.Deep.CutRange
import Derived.Laws.CopyOwn
import Derived.Laws.MakeOwn
namespace Go.Proofs.YtghngopclhhoeaaDoor
open Go.RowKit
set_option maxRecDepth 8000
set_option linter.unusedSimpArgs false

/-- How many bytes all have. -/
def totB : List MsD → Nat
  | [] => 0
  | m :: r => m.bs.length + totB r
def allB : List MsD → List Int
  | [] => []
  | m :: r => m.bs ++ allB r
theorem allB_len : ∀ l, (allB l).length = totB l
  | [] => rfl
  | m :: r => by simp [allB, totB, allB_len r]
theorem totB_app : ∀ l m, totB (l ++ m) = totB l + totB m
  | [], m => by simp [totB]
  | x :: r, m => by simp [totB, totB_app r m]; omega
theorem allB_app : ∀ l m, allB (l ++ m) = allB l ++ allB m
  | [], m => by simp [allB]
  | x :: r, m => by simp [allB, allB_app r m]
/-- The same messages, their bytes one behind the other in one block. -/
def outL (R : Nat) : Nat → List MsD → List MsD
  | _, [] => []
  | s, m :: r => { m with g := R, off := s, c := m.bs.length } :: outL R (s + m.bs.length) r
theorem outL_len (R : Nat) : ∀ s l, (outL R s l).length = l.length
  | _, [] => rfl
  | s, m :: r => by simp [outL, outL_len R _ r]
theorem outL_app (R : Nat) : ∀ s l m, outL R s (l ++ [m]) = outL R s l ++ [{ m with g := R, off := s + totB l, c := m.bs.length }]
  | s, [], m => by simp [outL, totB]
  | s, x :: r, m => by simp [outL, totB, outL_app R _ r m, Nat.add_assoc]
theorem take_atL {α : Type} {l : List α} {i : Nat} {x : α} (h : l[i]? = some x) : l.take (i + 1) = l.take i ++ [x] := by
  rw [List.take_add_one, h]; rfl
theorem totB_le {B : Nat} : ∀ {l : List MsD}, (∀ m ∈ l, m.bs.length ≤ B) → totB l ≤ l.length * B
  | [], _ => by simp [totB]
  | m :: r, h => by
    have := totB_le (l := r) (fun x hx => h x (by simp [hx]))
    have := h m (by simp)
    simp only [totB, List.length_cons, Nat.add_mul, Nat.one_mul]
    omega
theorem totB_take (l : List MsD) (k : Nat) : totB (l.take k) ≤ totB l := by
  have := totB_app (l.take k) (l.drop k)
  rw [List.take_append_drop] at this
  omega

theorem setAtL {V : World} {O : Nat} {L : List Value} {T : TypeId} (h : V.heap[O]? = some (.cells L.toArray T (0, 0))) (i : Nat) (a : Value) : (V.setCell ⟨O, i, none⟩ a).heap[O]? = some (.cells (L.set i a).toArray T (0, 0)) := by
  rw [setCell_eq_setRow V O i _ T (0, 0) a h, setRow_heap V O _ _ T (0, 0) h, List.setIfInBounds_toArray]
theorem set_at4 {A Y : List Value} {k : Nat} (hA : A.length = k) (j : Nat) (a : Value) : (A ++ Y).set (k + j) a = A ++ Y.set j a := by
  subst hA
  rw [List.set_append_right _ _ (by omega), Nat.add_sub_cancel_left]
theorem set4L {V : World} {O k : Nat} {A Y : List Value} {T : TypeId} {y0 y1 y2 y3 : Value} (h : V.heap[O]? = some (.cells (A ++ y0 :: y1 :: y2 :: y3 :: Y).toArray T (0, 0))) (hA : A.length = k) (a b c d : Value) :
    ((((V.setCell ⟨O, k, none⟩ a).setCell ⟨O, k + 1, none⟩ b).setCell ⟨O, k + 2, none⟩ c).setCell ⟨O, k + 3, none⟩ d).heap[O]? = some (.cells (A ++ a :: b :: c :: d :: Y).toArray T (0, 0)) ∧ Kept V ((((V.setCell ⟨O, k, none⟩ a).setCell ⟨O, k + 1, none⟩ b).setCell ⟨O, k + 2, none⟩ c).setCell ⟨O, k + 3, none⟩ d) (· = O) := by
  have k1 := Kept.setCell (S := (· = O)) (Kept.refl V (· = O)) ⟨O, k, none⟩ a (fun _ => rfl)
  have k2 := Kept.setCell (S := (· = O)) k1 ⟨O, k + 1, none⟩ b (fun _ => rfl)
  have k3 := Kept.setCell (S := (· = O)) k2 ⟨O, k + 2, none⟩ c (fun _ => rfl)
  have k4 := Kept.setCell (S := (· = O)) k3 ⟨O, k + 3, none⟩ d (fun _ => rfl)
  refine ⟨?_, k4⟩
  have h1 := setAtL h k a
  have e1 := set_at4 (Y := y0 :: y1 :: y2 :: y3 :: Y) hA 0 a
  rw [Nat.add_zero] at e1
  rw [e1] at h1
  have h2 := setAtL h1 (k + 1) b
  rw [set_at4 hA] at h2
  have h3 := setAtL h2 (k + 2) c
  rw [set_at4 hA] at h3
  have h4 := setAtL h3 (k + 3) d
  rw [set_at4 hA] at h4
  exact h4
theorem set1L {V : World} {O k : Nat} {A Y : List Value} {T : TypeId} {y0 y1 y2 y3 : Value} (h : V.heap[O]? = some (.cells (A ++ y0 :: y1 :: y2 :: y3 :: Y).toArray T (0, 0))) (hA : A.length = k) (c : Value) :
    (V.setCell ⟨O, k + 2, none⟩ c).heap[O]? = some (.cells (A ++ y0 :: y1 :: c :: y3 :: Y).toArray T (0, 0)) ∧ Kept V (V.setCell ⟨O, k + 2, none⟩ c) (· = O) := by
  refine ⟨?_, Kept.setCell (S := (· = O)) (Kept.refl V (· = O)) ⟨O, k + 2, none⟩ c (fun _ => rfl)⟩
  have h1 := setAtL h (k + 2) c
  rw [set_at4 hA] at h1
  exact h1

/-- How far copies has come with its second loop. -/
structure CpI (w wr : World) (R O : Nat) (l : List MsD) (k : Nat) : Prop where
  bel : Below w.heap.size w wr
  lo : w.heap.size ≤ R
  lo2 : w.heap.size ≤ O
  ne : R ≠ O
  room : ∃ Z : List Value, wr.heap[R]? = some (.cells ((allB (l.take k)).map (Value.int .u8) ++ Z).toArray 5 (0, 0)) ∧ Z.length = totB l - totB (l.take k)
  out : ∃ Z : List Value, wr.heap[O]? = some (.cells (msFlat (outL R 0 (l.take k)) ++ Z).toArray 72 (0, 0)) ∧ Z.length = (l.length - k) * 4
theorem CpI.below {w wr w' : World} {R O : Nat} {l : List MsD} {k : Nat} (h : CpI w wr R O l k) (hB : Below wr.heap.size wr w') : CpI w w' R O l k := by
  obtain ⟨Z, h1, h2⟩ := h.room
  obtain ⟨Y, h3, h4⟩ := h.out
  exact ⟨h.bel.trans (hB.mono h.bel.size), h.lo, h.lo2, h.ne, ⟨Z, boxL h1 hB, h2⟩, ⟨Y, boxL h3 hB, h4⟩⟩

theorem sees_at {w : World} {g off c : Nat} {xs : List Int} (h : Sees w (.slice (some ⟨g, off, none⟩) xs.length c) xs) : ∀ i, i < xs.length → w.cell? ⟨g, off + i, none⟩ = some (.int .u8 (xs.getD i 0)) := by
  obtain ⟨ao, cap, e, _, _, _, h3⟩ := h
  rcases h3 with rfl | ⟨b, o, rfl, h3⟩
  · intro i hi; simp at hi
  · simp only [Value.slice.injEq, Option.some.injEq, Addr.mk.injEq, and_true] at e
    obtain ⟨⟨rfl, rfl⟩, _⟩ := e
    exact h3

theorem put_midL {α : Type} (A B Z : List α) (s : Nat) (hs : A.length = s) : (A ++ Z).take s ++ B ++ (A ++ Z).drop (s + B.length) = A ++ B ++ Z.drop B.length := by
  subst hs
  rw [List.take_left, List.drop_append]
  simp

/-- The bytes of one more, copied. -/
theorem CpI.copied {w V : World} {R O : Nat} {l : List MsD} {k : Nat} {m : MsD} (h : CpI w V R O l k) (hm : l[k]? = some m) (hs : Sees V m.v m.bs) (T s : Nat) (hT : T = totB l) (hss : s = totB (l.take k)) :
    ∃ V1, (∀ ty, (Builtin.copy_ #[39, 39] ty #[.slice (some ⟨R, s, none⟩) (T - s) (T - s), .slice (some ⟨m.g, m.off, none⟩) m.bs.length m.c]).run Tryd.prog V = .ok (.int .i64 m.bs.length) V1) ∧ (∃ Z : List Value, V1.heap[R]? = some (.cells ((allB (l.take (k + 1))).map (Value.int .u8) ++ Z).toArray 5 (0, 0)) ∧ Z.length = totB l - totB (l.take (k + 1))) ∧ Kept V V1 (· = R) := by
  obtain ⟨Z, h1, h2⟩ := h.room
  obtain ⟨i0, hi, hz0, hz1, hz2⟩ := infoXl Tryd.infoByte
  have hsz : (Tryd.prog.info? 5).map (·.size) = some 1 := by rw [hi]; simp [hz1]
  have ht := totB_app (l.take k) [m]
  rw [← take_atL hm] at ht
  simp only [totB, Nat.add_zero] at ht
  have hle := totB_take l (k + 1)
  have hln : (allB (l.take k)).length = s := by rw [allB_len, hss]
  have hrun := fun ty => run_copy_row (P := Tryd.prog) V 39 39 ty 5 R s (T - s) (T - s) ⟨m.g, m.off, none⟩ m.bs.length m.c _ 5 (m.bs.map (Value.int .u8)) Tryd.underlying39 hsz h1 (by rw [List.length_map]; exact (Nat.min_eq_left (by omega)).symm) (news_at (sees_at hs)) (by rw [List.size_toArray, List.length_append, List.length_map, List.length_map, hln, h2]; omega) (ints_oneCell .u8 m.bs)
  simp only [List.length_map] at hrun
  refine ⟨_, hrun, ⟨Z.drop m.bs.length, ?_, ?_⟩, ⟨rfl, rfl, rfl, by simp [World.setRow], fun k _ hn => setRow_other V R k _ hn⟩⟩
  · rw [setRow_heap V R _ _ _ _ h1, take_atL hm, allB_app]
    congr 2
    simp only [List.toList_toArray, allB, List.append_nil, List.map_append]
    have := put_midL ((allB (l.take k)).map (Value.int .u8)) (m.bs.map (Value.int .u8)) Z s (by rw [List.length_map, hln])
    rw [List.length_map] at this
    exact congrArg List.toArray this
  · rw [List.length_drop, h2]; omega

set_option maxHeartbeats 1000000 in
theorem copies_any {w : World} {v : Value} {l : List MsD} (h : SM w v l) (hl : l.length ≤ 100000000) (hb : ∀ m ∈ l, m.bs.length ≤ 8192) (h1b : ∀ m ∈ l, 1 ≤ m.bs.length) :
    Calls Tryd.prog 57 #[v] w fun e w' => ∃ R O, e = .returned (.slice (some ⟨O, 0, none⟩) l.length l.length) ∧ w.heap.size ≤ R ∧ w.heap.size ≤ O ∧ w'.heap[O]? = some (.cells (msFlat (outL R 0 l)).toArray 72 (0, 0)) ∧ w'.heap[R]? = some (.cells ((allB l).map (Value.int .u8)).toArray 5 (0, 0)) ∧ Below w.heap.size w w' := by
  have htot := totB_le hb
  obtain ⟨ao, cap, rfl, hlc, hse, hat⟩ := h
  have HT : Hid (totB l ≤ 1000000000000) := by have := Nat.mul_le_mul_right 8192 hl; exact (by omega : totB l ≤ 1000000000000)
  clear htot
  go_enter Tryd.func57, Tryd.ntmps57
  go_wp2
  go_loopw [3, 13] (fun s i wr => ∃ k : Nat, k ≤ l.length ∧ i = .int .i64 k ∧ s = .int .i64 (totB (l.take k)) ∧ Below w.heap.size w wr) (fun _ i _ => l.length - (intOf i).toNat)
  case atStart => exact ⟨0, Nat.zero_le _, rfl, rfl, Below.refl _ _⟩
  case round =>
    obtain ⟨k, hk, rfl, rfl, hbel⟩ := hrel
    by_cases hlt : k < l.length
    · obtain ⟨m, hm⟩ : ∃ m, l[k]? = some m := ⟨_, List.getElem?_eq_getElem hlt⟩
      obtain ⟨b, off, rfl, hcs⟩ := hat (fun e => by subst e; simp at hlt)
      obtain ⟨q0, q1, q2, q3⟩ := (hcs k m hm).below hbel
      have hz := q0
      have HQ : Hid (totB (l.take (k + 1)) = totB (l.take k) + m.bs.length) := by rw [take_atL hm, totB_app]; rfl
      have e1 : IntKind.i64.wrap ((totB (l.take k) : Int) + (m.bs.length : Int)) = ((totB (l.take k) + m.bs.length : Nat) : Int) := by
        have := totB_take l (k + 1)
        have := HT.out
        have := HQ.out
        rw [IntKind.wrap_i64]
        omega
      go_wp2
      refine ⟨⟨k + 1, hlt, rfl, ?_, ?_⟩, ?_⟩
      · rw [HQ.out]; rfl
      · exact hbel.alloc hbel.size _
      · simp [intOf]; omega
    · have hkl : k = l.length := by omega
      subst hkl
      rw [List.take_length]
      have hT := HT.out
      clear hk hlt
      obtain ⟨i0, hi, hz0, hz1, hz2⟩ := infoXl Tryd.infoByte
      obtain ⟨i1, gi, gz0, gz1, gz2⟩ := infoXl Tryd.infoMs
      obtain ⟨T, hTT⟩ : ∃ T, T = totB l := ⟨_, rfl⟩
      rw [← hTT] at hT ⊢
      have HTT : Hid (T = totB l) := hTT
      clear hTT
      have hmk := run_make (w := wr) (P := Tryd.prog) 39 5 i0 _ Tryd.underlying39 hi hz0 .i64 .i64 T T (by omega) (Int.le_refl _) (by rw [hz2]; omega) (by omega)
      simp only [Int.toNat_natCast, hz1] at hmk
      obtain ⟨Z1, hZ1⟩ : ∃ Z, Z = madeCells (Value.int .u8 0).cells (T * 1) := ⟨_, rfl⟩
      rw [← hZ1] at hmk
      have hZs1 : Z1.size = T := by rw [hZ1]; have := size_madeCells (Value.int .u8 0).cells (T * 1); omega
      have hmk2 := run_make (w := wr.alloc (.cells Z1 5)) (P := Tryd.prog) 35 72 i1 _ Tryd.underlying35 gi gz0 .i64 .i64 l.length l.length (by omega) (Int.le_refl _) (by rw [gz2]; omega) (by omega)
      simp only [Int.toNat_natCast, gz1] at hmk2
      obtain ⟨Z2, hZ2⟩ : ∃ Z, Z = madeCells (Value.agg #[.int .i8 0, .int .i8 0, .slice none 0 0, .bool false]).cells (l.length * 4) := ⟨_, rfl⟩
      rw [← hZ2] at hmk2
      have hZs2 : Z2.size = l.length * 4 := by rw [hZ2]; exact size_madeCells _ _
      have HI : Hid (CpI w ((wr.alloc (.cells Z1 5)).alloc (.cells Z2 72)) wr.heap.size (wr.heap.size + 1) l 0) := by
        have B1 := oneL wr (.cells Z1 5)
        have B2 := oneL (wr.alloc (.cells Z1 5)) (.cells Z2 72)
        have hs : (wr.alloc (.cells Z1 5)).heap.size = wr.heap.size + 1 := World.size_alloc _ _
        have := hbel.size
        refine ⟨(hbel.trans (B1.mono this)).trans (B2.mono (by omega)), this, by omega, by omega, ⟨Z1.toList, ?_, ?_⟩, ⟨Z2.toList, ?_, ?_⟩⟩
        · have := boxL (heap_alloc_new wr (.cells Z1 5)) B2
          simpa [allB] using this
        · have := HTT.out; simp [totB]; omega
        · have := heap_alloc_new (wr.alloc (.cells Z1 5)) (.cells Z2 72)
          rw [hs] at this
          simpa [msFlat, outL] using this
        · simp; omega
      have hR : wr.heap.size < ((wr.alloc (.cells Z1 5)).alloc (.cells Z2 72)).heap.size := by simp; omega
      clear hZs1 hZs2 hZ1 hZ2 hi hz0 hz1 hz2 gi gz0 gz1 gz2 hbel
      go_wp2
      clear hmk hmk2
      obtain ⟨R, hR0⟩ : ∃ R, R = wr.heap.size := ⟨_, rfl⟩
      obtain ⟨O, hO0⟩ : ∃ O, O = wr.heap.size + 1 := ⟨_, rfl⟩
      obtain ⟨U, hU⟩ : ∃ U, U = (wr.alloc (.cells Z1 5)).alloc (.cells Z2 72) := ⟨_, rfl⟩
      rw [← hU, ← hO0, ← hR0] at HI
      rw [← hU, ← hO0, ← hR0]
      clear hU hR hR0 hO0 Z1 Z2 hT
      have HA : Hid (∀ m ∈ l, Sees w m.v m.bs) := hse
      go_loopw [6, 30] (fun v i wr => ∃ k : Nat, k ≤ l.length ∧ i = .int .i64 k ∧ (∃ so, v = .slice (some ⟨R, so, none⟩) (T - totB (l.take k)) (T - totB (l.take k)) ∧ (so = totB (l.take k) ∨ T - totB (l.take k) = 0)) ∧ CpI w wr R O l k) (fun _ i _ => l.length - (intOf i).toNat)
      case atStart => exact ⟨0, Nat.zero_le _, rfl, ⟨0, rfl, .inl rfl⟩, HI.out⟩
      case round =>
        clear HI
        obtain ⟨k, hk, rfl, ⟨so, rfl, hso⟩, hI⟩ := hrel
        by_cases hlt : k < l.length
        · obtain ⟨m, hm⟩ : ∃ m, l[k]? = some m := ⟨_, List.getElem?_eq_getElem hlt⟩
          have hm1 := h1b m (List.mem_of_getElem? hm)
          have ht := totB_app (l.take k) [m]
          rw [← take_atL hm] at ht
          simp only [totB, Nat.add_zero] at ht
          have hle := totB_take l (k + 1)
          have hTT := HTT.out
          have s2 : m.bs.length ≤ T - totB (l.take k) := by omega
          obtain rfl : so = totB (l.take k) := by rcases hso with h | h
                                                  · exact h
                                                  · omega
          obtain ⟨b, off, rfl, hcs⟩ := hat (fun e => by subst e; simp at hlt)
          obtain ⟨q0, q1, q2, q3⟩ := (hcs k m hm).below hI.bel
          have hse2 := (HA.out m (List.mem_of_getElem? hm)).below hI.bel (Nat.le_refl _)
          have hI1 := hI.below (oneL wr (.cells m.cs.toArray 72))
          obtain ⟨V1, hcp, hroom, hkc⟩ := hI1.copied hm (hse2.below (oneL wr (.cells m.cs.toArray 72)) (Nat.le_refl _)) T (totB (l.take k)) HTT.out rfl
          have hbx := heap_alloc_new wr (.cells m.cs.toArray 72)
          have hXR : wr.heap.size ≠ R := fun e => by
            obtain ⟨Z, h1, _⟩ := hI.room
            have := lt_of_block h1
            omega
          have hbx1 := hkc.heap hbx hXR
          obtain ⟨Y, hY, hYl⟩ := hI1.out
          have hY1 := hkc.heap hY (Ne.symm hI1.ne)
          have d0 := cell_of_row V1 wr.heap.size 0 _ _ _ hbx1
          have d1 := cell_of_row V1 wr.heap.size 1 _ _ _ hbx1
          have d2 := cell_of_row V1 wr.heap.size 2 _ _ _ hbx1
          have d3 := cell_of_row V1 wr.heap.size 3 _ _ _ hbx1
          simp only [List.getElem?_toArray, List.getElem?_cons_zero, List.getElem?_cons_succ] at d0 d1 d2 d3
          obtain ⟨y0, y1, y2, y3, Y', rfl⟩ : ∃ y0 y1 y2 y3 Y', Y = y0 :: y1 :: y2 :: y3 :: Y' := by
            match Y, hYl with
            | y0 :: y1 :: y2 :: y3 :: Y', _ => exact ⟨_, _, _, _, _, rfl⟩
            | [], h => simp at h; omega
            | [_], h => simp at h; omega
            | [_, _], h => simp at h; omega
            | [_, _, _], h => simp at h; omega
          have hfl : (msFlat (outL R 0 (l.take k))).length = k * 4 := by rw [msFlat_len, outL_len, List.length_take]; congr 1; omega
          have hget : ∀ j, (msFlat (outL R 0 (l.take k)) ++ y0 :: y1 :: y2 :: y3 :: Y').toArray[k * 4 + j]? = (y0 :: y1 :: y2 :: y3 :: Y')[j]? := fun j => by
            rw [List.getElem?_toArray, List.getElem?_append_right (by omega), hfl]
            congr 1; omega
          have o0 : V1.cell? ⟨O, k * 4, none⟩ = some y0 := by rw [cell_of_row V1 O _ _ _ _ hY1]; exact hget 0
          have o1 : V1.cell? ⟨O, k * 4 + 1, none⟩ = some y1 := by rw [cell_of_row V1 O _ _ _ _ hY1]; exact hget 1
          have o2 : V1.cell? ⟨O, k * 4 + 2, none⟩ = some y2 := by rw [cell_of_row V1 O _ _ _ _ hY1]; exact hget 2
          have o3 : V1.cell? ⟨O, k * 4 + 3, none⟩ = some y3 := by rw [cell_of_row V1 O _ _ _ _ hY1]; exact hget 3
          have f0 := fun j => frozen_of_row V1 O j _ _ hY1
          have HQ : Hid (totB (l.take (k + 1)) = totB (l.take k) + m.bs.length) := ht
          clear hso hm1
          clear hTT hle ht
          obtain ⟨hS4, hK4⟩ := set4L hY1 hfl (.int .i8 m.f) (.int .i8 m.t) m.v (.bool m.sp)
          have HW : Hid (CpI w wr R O l k ∧ Kept (wr.alloc (.cells m.cs.toArray 72)) V1 (· = R) ∧ (∃ Z : List Value, V1.heap[R]? = some (.cells ((allB (l.take (k + 1))).map (Value.int .u8) ++ Z).toArray 5 (0, 0)) ∧ Z.length = totB l - totB (l.take (k + 1))) ∧ l[k]? = some m ∧ (msFlat (outL R 0 (l.take k))).length = k * 4 ∧ (y0 :: y1 :: y2 :: y3 :: Y').length = (l.length - k) * 4) := ⟨hI, hkc, hroom, hm, hfl, hYl⟩
          clear hI hI1 hbx hbx1 hget hse2 hcs hat hse hkc hroom hm hY hY1
          go_upto_region 14 with fail
          obtain ⟨V2, hV2⟩ : ∃ V2, V2 = (((V1.setCell ⟨O, k * 4, none⟩ (.int .i8 m.f)).setCell ⟨O, k * 4 + 1, none⟩ (.int .i8 m.t)).setCell ⟨O, k * 4 + 2, none⟩ (.slice (some ⟨m.g, m.off, none⟩) m.bs.length m.c)).setCell ⟨O, k * 4 + 3, none⟩ (.bool m.sp) := ⟨_, rfl⟩
          rw [← hV2] at hS4 hK4 ⊢
          have p2 : V2.cell? ⟨O, k * 4 + 2, none⟩ = some (.slice (some ⟨m.g, m.off, none⟩) m.bs.length m.c) := by
            rw [cell_of_row V2 O _ _ _ _ hS4, List.getElem?_toArray, List.getElem?_append_right (by omega), hfl, Nat.add_sub_cancel_left]; rfl
          have fr := frozen_of_row V2 O (k * 4 + 2) _ _ hS4
          have HE : Hid (CpI w (V2.drew.setCell ⟨O, k * 4 + 2, none⟩ (.slice (some ⟨R, totB (l.take k), none⟩) m.bs.length m.bs.length)) R O l (k + 1)) := by
            obtain ⟨g0, g1, ⟨Z, g2, g3⟩, g4, g5, g6⟩ := HW.out
            obtain ⟨hS1, hK1⟩ := set1L (V := V2.drew) hS4 g5 (.slice (some ⟨R, totB (l.take k), none⟩) m.bs.length m.bs.length)
            have hne := g0.ne
            refine ⟨?_, g0.lo, g0.lo2, g0.ne, ⟨Z, hK1.heap (w := V2.drew) (hK4.heap g2 hne) hne, g3⟩, ⟨Y', ?_, by simp at g6; omega⟩⟩
            · have hb := g0.bel.size
              have k1 : Kept w V1 (fun k => w.heap.size ≤ k) := ((Below.kept g0.bel).trans (Below.kept (oneL wr _)) (fun _ _ h => by omega)).trans g1 (fun _ _ e => by rw [e]; exact g0.lo)
              have k2 := k1.trans hK4 (fun _ _ e => by rw [e]; exact g0.lo2)
              have k3 : Kept w V2.drew (fun k => w.heap.size ≤ k) := k2.drewN 1
              exact (k3.trans hK1 (fun _ _ e => by rw [e]; exact g0.lo2)).below (Nat.le_refl _) (fun _ h => h)
            · rw [hS1, take_atL g4, outL_app, msFlat_app]
              simp [msFlat]
          clear hS4 hK4 hV2 HW hfl hYl o0 o1 o2 o3 d0 d1 d2 d3 q0 q1 q2 q3 hcp f0 hXR
          refine wp_region_held_drew (S := (fun _ => True)) (by kernel_rfl) ?_ (fun hHeld => ?_)
          · trivial
          refine wpAnyH_take (i := 0) (oi := { dst := some 43, op := Op.move (Operand.tmp 7), type := 35, pos := "link.go:115", after := #[], guard := none }) (v := ?_) rfl (by kernel_rfl) (by kernel_rfl) (by kernel_rfl) (fun _ _ _ h => h) (Or.inl ⟨by rfl, ?_⟩) (by assumption) ?_
          rotate_left
          · (intro w hSw; (try dsimp only at hSw); go_simp) <;> with_reducible rfl
          try simp only [Act.put, List.setIfInBounds_toArray, List.set_cons_zero, List.set_cons_succ]
          refine wpAnyH_take (i := 1) (oi := { dst := some 44, op := Op.move (Operand.tmp 8), type := 3, pos := "link.go:115", after := #[], guard := none }) (v := ?_) rfl (by kernel_rfl) (by kernel_rfl) (by kernel_rfl) (fun _ _ _ h => h) (Or.inl ⟨by rfl, ?_⟩) (by assumption) ?_
          rotate_left
          · (intro w hSw; (try dsimp only at hSw); go_simp) <;> with_reducible rfl
          try simp only [Act.put, List.setIfInBounds_toArray, List.set_cons_zero, List.set_cons_succ]
          refine wpAnyH_take (i := 2) (oi := { dst := some 45, op := Op.move (Operand.tmp 6), type := 39, pos := "link.go:115", after := #[], guard := none }) (v := ?_) rfl (by kernel_rfl) (by kernel_rfl) (by kernel_rfl) (fun _ _ _ h => h) (Or.inl ⟨by rfl, ?_⟩) (by assumption) ?_
          rotate_left
          · (intro w hSw; (try dsimp only at hSw); go_simp) <;> with_reducible rfl
          try simp only [Act.put, List.setIfInBounds_toArray, List.set_cons_zero, List.set_cons_succ]
          refine wpAnyH_take (i := 3) (oi := { dst := some 46, op := Op.move (Operand.tmp 10), type := 3, pos := "link.go:115", after := #[], guard := none }) (v := ?_) rfl (by kernel_rfl) (by kernel_rfl) (by kernel_rfl) (fun _ _ _ h => h) (Or.inl ⟨by rfl, ?_⟩) (by assumption) ?_
          rotate_left
          · (intro w hSw; (try dsimp only at hSw); go_simp) <;> with_reducible rfl
          try simp only [Act.put, List.setIfInBounds_toArray, List.set_cons_zero, List.set_cons_succ]
          refine wpAnyH_take (i := 4) (oi := { dst := some 47, op := Op.move (Operand.tmp 10), type := 3, pos := "link.go:115", after := #[], guard := none }) (v := ?_) rfl (by kernel_rfl) (by kernel_rfl) (by kernel_rfl) (fun _ _ _ h => h) (Or.inl ⟨by rfl, ?_⟩) (by assumption) ?_
          rotate_left
          · (intro w hSw; (try dsimp only at hSw); go_simp) <;> with_reducible rfl
          try simp only [Act.put, List.setIfInBounds_toArray, List.set_cons_zero, List.set_cons_succ]
          refine wpAnyH_take (i := 5) (oi := { dst := some 48, op := Op.slice 39 (Operand.tmp 45) none (some (Operand.tmp 46)) (some (Operand.tmp 47)), type := 39, pos := "link.go:115", after := #[{ on := 2, ground := Ground.data }, { on := 3, ground := Ground.data }, { on := 4, ground := Ground.data }], guard := none }) (v := ?_) rfl (by kernel_rfl) (by kernel_rfl) (by kernel_rfl) (fun _ _ _ h => h) (Or.inl ⟨by rfl, ?_⟩) (by assumption) ?_
          rotate_left
          · (intro w hSw; (try dsimp only at hSw); go_simp) <;> with_reducible rfl
          try simp only [Act.put, List.setIfInBounds_toArray, List.set_cons_zero, List.set_cons_succ]
          refine wpAnyH_take (i := 6) (oi := { dst := some 49, op := Op.move (Operand.tmp 6), type := 39, pos := "link.go:115", after := #[], guard := none }) (v := ?_) rfl (by kernel_rfl) (by kernel_rfl) (by kernel_rfl) (fun _ _ _ h => h) (Or.inl ⟨by rfl, ?_⟩) (by assumption) ?_
          rotate_left
          · (intro w hSw; (try dsimp only at hSw); go_simp) <;> with_reducible rfl
          try simp only [Act.put, List.setIfInBounds_toArray, List.set_cons_zero, List.set_cons_succ]
          refine wpAnyH_take (i := 7) (oi := { dst := some 50, op := Op.move (Operand.tmp 10), type := 3, pos := "link.go:115", after := #[], guard := none }) (v := ?_) rfl (by kernel_rfl) (by kernel_rfl) (by kernel_rfl) (fun _ _ _ h => h) (Or.inl ⟨by rfl, ?_⟩) (by assumption) ?_
          rotate_left
          · (intro w hSw; (try dsimp only at hSw); go_simp) <;> with_reducible rfl
          try simp only [Act.put, List.setIfInBounds_toArray, List.set_cons_zero, List.set_cons_succ]
          refine wpAnyH_take (i := 8) (oi := { dst := some 51, op := Op.slice 39 (Operand.tmp 49) (some (Operand.tmp 50)) none none, type := 39, pos := "link.go:115", after := #[{ on := 6, ground := Ground.data }, { on := 7, ground := Ground.data }], guard := none }) (v := ?_) rfl (by kernel_rfl) (by kernel_rfl) (by kernel_rfl) (fun _ _ _ h => h) (Or.inl ⟨by rfl, ?_⟩) (by assumption) ?_
          rotate_left
          · (intro w hSw; (try dsimp only at hSw); go_simp) <;> with_reducible rfl
          try simp only [Act.put, List.setIfInBounds_toArray, List.set_cons_zero, List.set_cons_succ]
          refine wpAnyH_take (i := 9) (oi := { dst := some 52, op := Op.indexAddr 35 (Operand.tmp 43) (Operand.tmp 44), type := 0, pos := "link.go:115", after := #[{ on := 0, ground := Ground.data }, { on := 1, ground := Ground.data }, { on := 0, ground := Ground.phase }, { on := 1, ground := Ground.phase }, { on := 2, ground := Ground.phase }, { on := 3, ground := Ground.phase }, { on := 4, ground := Ground.phase }, { on := 5, ground := Ground.phase }, { on := 6, ground := Ground.textOnly Departure.lateStores }, { on := 7, ground := Ground.textOnly Departure.lateStores }, { on := 8, ground := Ground.textOnly Departure.lateStoresUnsure }], guard := none }) (v := ?_) rfl (by kernel_rfl) (by kernel_rfl) (by kernel_rfl) (fun _ _ _ h => h) (Or.inl ⟨by rfl, ?_⟩) (by assumption) ?_
          rotate_left
          · (intro w hSw; (try dsimp only at hSw); go_simp) <;> with_reducible rfl
          try simp only [Act.put, List.setIfInBounds_toArray, List.set_cons_zero, List.set_cons_succ]
          refine wpAnyH_take (i := 10) (oi := { dst := some 53, op := Op.fieldAddr 72 (Operand.tmp 52) 2, type := 0, pos := "link.go:115", after := #[{ on := 9, ground := Ground.data }, { on := 0, ground := Ground.phase }, { on := 1, ground := Ground.phase }, { on := 2, ground := Ground.phase }, { on := 3, ground := Ground.phase }, { on := 4, ground := Ground.phase }, { on := 5, ground := Ground.phase }, { on := 6, ground := Ground.textOnly Departure.lateStores }, { on := 7, ground := Ground.textOnly Departure.lateStores }, { on := 8, ground := Ground.textOnly Departure.lateStoresUnsure }], guard := none }) (v := ?_) rfl (by kernel_rfl) (by kernel_rfl) (by kernel_rfl) (fun _ _ _ h => h) (Or.inl ⟨by rfl, ?_⟩) (by assumption) ?_
          rotate_left
          · (intro w hSw; (try dsimp only at hSw); go_simp) <;> with_reducible rfl
          try simp only [Act.put, List.setIfInBounds_toArray, List.set_cons_zero, List.set_cons_succ]
          refine wpAnyH_ready (rs := [11]) (by kernel_rfl) (by simp) ?_
          refine AllReadyH.cons (o := { dst := none, op := Op.store 39 (Operand.tmp 53) (Operand.tmp 48), type := 0, pos := "link.go:115", after := #[{ on := 10, ground := Ground.data }, { on := 5, ground := Ground.data }, { on := 0, ground := Ground.phase }, { on := 1, ground := Ground.phase }, { on := 2, ground := Ground.phase }, { on := 3, ground := Ground.phase }, { on := 4, ground := Ground.phase }, { on := 5, ground := Ground.phase }, { on := 6, ground := Ground.textOnly Departure.lateStores }, { on := 7, ground := Ground.textOnly Departure.lateStores }, { on := 8, ground := Ground.textOnly Departure.lateStoresUnsure }], guard := none }) rfl (fun K hK => ?_) AllReadyH.nil
          go_simp
          trace_state
          refine hK.out _ _ trivial (fun hHeld => ?_)
          clear hK K
          refine wpAnyH_take (i := 12) (oi := { dst := some 6, op := Op.assign (Operand.tmp 51), type := 39, pos := "link.go:115", after := #[{ on := 8, ground := Ground.data }, { on := 11, ground := Ground.chain }, { on := 0, ground := Ground.phase }, { on := 1, ground := Ground.phase }, { on := 2, ground := Ground.phase }, { on := 3, ground := Ground.phase }, { on := 4, ground := Ground.phase }, { on := 5, ground := Ground.phase }, { on := 6, ground := Ground.phase }, { on := 7, ground := Ground.phase }, { on := 8, ground := Ground.phase }, { on := 9, ground := Ground.phase }, { on := 10, ground := Ground.phase }, { on := 11, ground := Ground.phase }], guard := none }) (v := ?_) rfl (by kernel_rfl) (by kernel_rfl) (by kernel_rfl) (fun _ _ _ h => h) (Or.inl ⟨by rfl, ?_⟩) (by assumption) ?_
          rotate_left
          · (intro w hSw; (try dsimp only at hSw); go_simp) <;> with_reducible rfl
          try simp only [Act.put, List.setIfInBounds_toArray, List.set_cons_zero, List.set_cons_succ]
          refine wpAnyH_done (by kernel_rfl) ?_ _
          clear hHeld
          go_wp2
          refine ⟨⟨k + 1, hlt, rfl, ?_, HE.out⟩, ?_⟩
          · rw [HQ.out, ← Nat.sub_sub]
            by_cases hq : T - totB (l.take k) = m.bs.length
            · exact ⟨_, by rw [if_pos hq], .inr (by omega)⟩
            · exact ⟨_, by rw [if_neg hq], .inl rfl⟩
          · simp [intOf]; omega
        · have hkl : k = l.length := by omega
          subst hkl
          have HE : Hid (w.heap.size ≤ R ∧ w.heap.size ≤ O ∧ wr.heap[O]? = some (.cells (msFlat (outL R 0 l)).toArray 72 (0, 0)) ∧ wr.heap[R]? = some (.cells ((allB l).map (Value.int .u8)).toArray 5 (0, 0)) ∧ Below w.heap.size w wr) := by
            obtain ⟨Z, h1, h2⟩ := hI.room
            obtain ⟨Y, h3, h4⟩ := hI.out
            rw [List.take_length] at h1 h2 h3
            obtain rfl : Z = [] := List.eq_nil_of_length_eq_zero (by omega)
            obtain rfl : Y = [] := List.eq_nil_of_length_eq_zero (by omega)
            rw [List.append_nil] at h1 h3
            exact ⟨hI.lo, hI.lo2, h3, h1, hI.bel⟩
          clear hI hat hse hso hk hlt
          go_wp2
          all_goals (go_ret; exact ⟨R, O, rfl, HE.out⟩)
end Go.Proofs.YtghngopclhhoeaaDoor
