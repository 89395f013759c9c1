/- Lists of entries and of ids in memory; whether one holds a given entry or id. -/
import Derived.Test.YtjakjbfeaiempaaDoorChecked
import Derived.Test.YtjakjbfeaiempaaDoorMemJ
import Derived.Test.YtjakjbfeaiempaaDoorBaseJ
import Derived.DeepKeys
import Derived.Deep.RegionHeld
import Derived.Shelf.Abstract
import Derived.Deep.AppendLies
namespace Go.Proofs.YtjakjbfeaiempaaDoor
open Go.RowKit Go.Shelf
set_option maxRecDepth 8000

theorem eqIdG (k : Nat) (a b c d : ByteArray) (w : World) : (Op.equalIn (k + 1 + 1) 37 (.agg #[.string a, .string b]) (.agg #[.string c, .string d])).run Tryd.prog w = .ok ((a.toList == c.toList) && (b.toList == d.toList)) w := by
  have hu : Tryd.prog.underlying 37 = some (.struct (Tryd.prog.fieldsOf 37)) := by kernel_rfl
  have hp : Tryd.prog.stoodInHeld 37 = false := by kernel_rfl
  have u3 := Tryd.underlying9
  have a3 := Tryd.isAgg9
  have z3 := Tryd.sizeOf9
  rw [run_equalIn_agg w (k + 1) _ _ _ hu hp]
  simp only [Program.fieldsOf, Tryd.underlying37]
  go_simp
  by_cases h1 : a.toList = c.toList <;> by_cases h2 : b.toList = d.toList <;> simp [h1, h2]

theorem eqIdV (a b c d : ByteArray) (w : World) : (binOp .eql 37 (.agg #[.string a, .string b]) (.agg #[.string c, .string d])).run Tryd.prog w = .ok (.bool ((a.toList == c.toList) && (b.toList == d.toList))) w := by
  rw [run_eql_struct, show (10000 : Nat) = 9998 + 1 + 1 from rfl, eqIdG 9998 a b c d w]
  rfl

theorem eqEnV (p q : Int) (a b c d : ByteArray) (w : World) : (binOp .eql 39 (.agg #[.int .i8 p, .string a, .string b]) (.agg #[.int .i8 q, .string c, .string d])).run Tryd.prog w = .ok (.bool ((p == q) && ((a.toList == c.toList) && (b.toList == d.toList)))) w := by
  have hu : Tryd.prog.underlying 39 = some (.struct (Tryd.prog.fieldsOf 39)) := by kernel_rfl
  have hp : Tryd.prog.stoodInHeld 39 = false := by kernel_rfl
  have hin : ∀ w, (Op.equalIn 9999 37 (.agg #[.string a, .string b]) (.agg #[.string c, .string d])).run Tryd.prog w = .ok ((a.toList == c.toList) && (b.toList == d.toList)) w := eqIdG 9997 a b c d
  have u4 := Tryd.underlying35
  have a4 := Tryd.isAgg35
  have z4 := Tryd.sizeOf35
  have a5 := Tryd.isAgg37
  have z5 := Tryd.sizeOf37
  rw [run_eql_struct, show (10000 : Nat) = 9999 + 1 from rfl, run_equalIn_agg w 9999 _ _ _ hu hp]
  simp only [Program.fieldsOf, Tryd.underlying39]
  clear hu hp
  go_simp
  by_cases h0 : p = q <;> by_cases h1 : a.toList = c.toList <;> by_cases h2 : b.toList = d.toList <;> simp [h0, h1, h2]

/-- An entry, an id: their cells. -/
abbrev EnT := Int × ByteArray × ByteArray
abbrev IdT := ByteArray × ByteArray
abbrev enCs (x : EnT) : Array Value := #[.int .i8 x.1, .string x.2.1, .string x.2.2]
abbrev idCs (x : IdT) : Array Value := #[.string x.1, .string x.2]
def enEq (x y : EnT) : Bool := (x.1 == y.1) && ((x.2.1.toList == y.2.1.toList) && (x.2.2.toList == y.2.2.toList))
def idEq (x y : IdT) : Bool := (x.1.toList == y.1.toList) && (x.2.toList == y.2.toList)

theorem ifE (y x : EnT) (w : World) : (if y.1 = x.1 then if y.2.1.toList = x.2.1.toList then if y.2.2.toList = x.2.2.toList then Result.ok (Next.value (Value.bool true)) w else Result.ok (Next.value (Value.bool false)) w else Result.ok (Next.value (Value.bool false)) w else Result.ok (Next.value (Value.bool false)) w) = Result.ok (Next.value (Value.bool (enEq y x))) w := by
  unfold enEq
  by_cases h0 : y.1 = x.1 <;> by_cases h1 : y.2.1.toList = x.2.1.toList <;> by_cases h2 : y.2.2.toList = x.2.2.toList <;> simp [h0, h1, h2]

theorem ifI (y x : IdT) (w : World) : (if y.1.toList = x.1.toList then if y.2.toList = x.2.toList then Result.ok (Next.value (Value.bool true)) w else Result.ok (Next.value (Value.bool false)) w else Result.ok (Next.value (Value.bool false)) w) = Result.ok (Next.value (Value.bool (idEq y x))) w := by
  unfold idEq
  by_cases h1 : y.1.toList = x.1.toList <;> by_cases h2 : y.2.toList = x.2.toList <;> simp [h1, h2]

/-- A list of entries in memory. -/
def SE (w : World) (v : Value) (l : List EnT) : Prop := ∃ ao cap, v = .slice ao l.length cap ∧ l.length ≤ cap ∧ (l ≠ [] → ∃ b off, ao = some ⟨b, off, none⟩ ∧ ∀ i x, l[i]? = some x → w.cell? ⟨b, off + i * 3, none⟩ = some (.int .i8 x.1) ∧ w.cell? ⟨b, off + i * 3 + 1, none⟩ = some (.string x.2.1) ∧ w.cell? ⟨b, off + i * 3 + 2, none⟩ = some (.string x.2.2))
/-- A list of ids in memory. -/
def SI (w : World) (v : Value) (l : List IdT) : Prop := ∃ ao cap, v = .slice ao l.length cap ∧ l.length ≤ cap ∧ (l ≠ [] → ∃ b off, ao = some ⟨b, off, none⟩ ∧ ∀ i x, l[i]? = some x → w.cell? ⟨b, off + i * 2, none⟩ = some (.string x.1) ∧ w.cell? ⟨b, off + i * 2 + 1, none⟩ = some (.string x.2))

theorem cell_below {w w' : World} {a : Addr} {v : Value} (hB : Below w.heap.size w w') (h : w.cell? a = some v) : w'.cell? a = some v := by
  have hl : a.block < w.heap.size := World.block_lt_of_cell? w a h
  unfold World.cell? at h ⊢
  rw [hB.block _ hl]
  exact h

theorem SE.below {w w' : World} {v : Value} {l : List EnT} (h : SE w v l) (hB : Below w.heap.size w w') : SE w' v l := by
  obtain ⟨ao, cap, h1, h2, h3⟩ := h
  refine ⟨ao, cap, h1, h2, fun hn => ?_⟩
  obtain ⟨b, off, h4, h5⟩ := h3 hn
  exact ⟨b, off, h4, fun i x hx => ⟨cell_below hB (h5 i x hx).1, cell_below hB (h5 i x hx).2.1, cell_below hB (h5 i x hx).2.2⟩⟩

theorem SI.below {w w' : World} {v : Value} {l : List IdT} (h : SI w v l) (hB : Below w.heap.size w w') : SI w' v l := by
  obtain ⟨ao, cap, h1, h2, h3⟩ := h
  refine ⟨ao, cap, h1, h2, fun hn => ?_⟩
  obtain ⟨b, off, h4, h5⟩ := h3 hn
  exact ⟨b, off, h4, fun i x hx => ⟨cell_below hB (h5 i x hx).1, cell_below hB (h5 i x hx).2⟩⟩

set_option maxHeartbeats 1000000 in
theorem indexE (v : Value) (l : List EnT) (y : EnT) (w : World) (h : SE w v l) (hlen : l.length ≤ 1000) : Calls Tryd.prog 51 #[v, .agg (enCs y)] w fun e w' => (∃ r : Int, e = .returned (.int .i64 r) ∧ decide (0 ≤ r) = l.any (fun x => enEq y x)) ∧ Below w.heap.size w w' := by
  obtain ⟨ao, cap, rfl, hcap, hc⟩ := h
  have HC0 : Hid (l ≠ [] → ∃ b off, ao = some ⟨b, off, none⟩ ∧ ∀ i x, l[i]? = some x → w.cell? ⟨b, off + i * 3, none⟩ = some (.int .i8 x.1) ∧ w.cell? ⟨b, off + i * 3 + 1, none⟩ = some (.string x.2.1) ∧ w.cell? ⟨b, off + i * 3 + 2, none⟩ = some (.string x.2.2)) := hc
  have HB0 : Hid (Below w.heap.size w (w.alloc (.cells (enCs y) 39))) := (Below.refl _ w).alloc (Nat.le_refl _) _
  have HY : Hid (∀ V, Below (w.heap.size + 1) (w.alloc (.cells (enCs y) 39)) V → V.heap[w.heap.size]? = some (.cells (enCs y) 39 (0, 0)) ∧ Below w.heap.size w V) := fun V hV => ⟨(hV.block _ (by omega)).trans (heap_alloc_new w _), HB0.out.trans (hV.mono (by omega))⟩
  clear hc
  go_enter Tryd.func51, Tryd.ntmps51
  go_wp2
  go_loopw [8] (fun vi wr => ∃ i : Nat, i ≤ l.length ∧ vi = .int .i64 (i : Int) ∧ Hid ((l.take i).any (fun x => enEq y x) = false) ∧ Hid (Below (w.heap.size + 1) (w.alloc (.cells (enCs y) 39)) wr)) (fun vi _ => l.length - (intOf vi).toNat)
  case atStart => exact ⟨0, by omega, rfl, by show _ = _; simp, Below.refl _ _⟩
  case round =>
    obtain ⟨i, hi, rfl, HA, HW⟩ := hrel
    by_cases hlt : i < l.length
    · have hd : decide ((i : Int) < (l.length : Int)) = true := by simp; omega
      obtain ⟨b, off, hao, hcx⟩ := HC0.out (fun e => by rw [e] at hlt; simp at hlt)
      obtain ⟨x, hx⟩ : ∃ x, l[i]? = some x := ⟨_, List.getElem?_eq_getElem hlt⟩
      obtain ⟨hY, hBw⟩ := HY.out wr HW.out
      have HC : Hid (wr.drew.cell? ⟨w.heap.size, 0, none⟩ = some (.int .i8 y.1) ∧ wr.drew.cell? ⟨w.heap.size, 1, none⟩ = some (.string y.2.1) ∧ wr.drew.cell? ⟨w.heap.size, 2, none⟩ = some (.string y.2.2) ∧ wr.drew.cell? ⟨b, off + i * 3, none⟩ = some (.int .i8 x.1) ∧ wr.drew.cell? ⟨b, off + i * 3 + 1, none⟩ = some (.string x.2.1) ∧ wr.drew.cell? ⟨b, off + i * 3 + 2, none⟩ = some (.string x.2.2)) := ⟨cell_of_row wr w.heap.size 0 _ _ _ hY, cell_of_row wr w.heap.size 1 _ _ _ hY, cell_of_row wr w.heap.size 2 _ _ _ hY, cell_below (w' := wr) hBw (hcx i x hx).1, cell_below (w' := wr) hBw (hcx i x hx).2.1, cell_below (w' := wr) hBw (hcx i x hx).2.2⟩
      have HN : Hid ((l.take (i + 1)).any (fun x => enEq y x) = enEq y x) := by
        show _ = _
        rw [List.take_add_one, hx, List.any_append, HA.out]
        simp
      have HX : Hid (l[i]? = some x) := hx
      have HWd : Hid (Below (w.heap.size + 1) (w.alloc (.cells (enCs y) 39)) wr.drew) := ⟨HW.out.os, HW.out.tape, HW.out.output, HW.out.size, HW.out.block⟩
      subst hao
      clear hcx hY hBw hx
      go_wp2_with fail
      refine wp_region_held_drew (S := fun w' => w'.cell? ⟨w.heap.size, 0, none⟩ = some (.int .i8 y.1) ∧ w'.cell? ⟨w.heap.size, 1, none⟩ = some (.string y.2.1) ∧ w'.cell? ⟨w.heap.size, 2, none⟩ = some (.string y.2.2) ∧ w'.cell? ⟨b, off + i * 3, none⟩ = some (.int .i8 x.1) ∧ w'.cell? ⟨b, off + i * 3 + 1, none⟩ = some (.string x.2.1) ∧ w'.cell? ⟨b, off + i * 3 + 2, none⟩ = some (.string x.2.2)) (by kernel_rfl) ?_ (fun hHeld => ?_)
      · exact HC.out
      refine wpAnyH_take (i := 0) (oi := { dst := some 11, op := Op.load 39 (Operand.tmp 3), type := 39, pos := "slices.go:98", after := #[], guard := none }) (v := ?_) rfl (by kernel_rfl) (by kernel_rfl) (by kernel_rfl) (fun _ _ _ h => h) (Or.inl ⟨by rfl, ?_⟩) (by assumption) ?_
      rotate_left
      · (intro w hSw; (try dsimp only at hSw); go_simp) <;> with_reducible rfl
      try simp only [Act.put, List.setIfInBounds_toArray, List.set_cons_zero, List.set_cons_succ]
      refine wpAnyH_take (i := 1) (oi := { dst := some 12, op := Op.move (Operand.tmp 0), type := 22, pos := "slices.go:98", after := #[], guard := none }) (v := ?_) rfl (by kernel_rfl) (by kernel_rfl) (by kernel_rfl) (fun _ _ _ h => h) (Or.inl ⟨by rfl, ?_⟩) (by assumption) ?_
      rotate_left
      · (intro w hSw; (try dsimp only at hSw); go_simp) <;> with_reducible rfl
      try simp only [Act.put, List.setIfInBounds_toArray, List.set_cons_zero, List.set_cons_succ]
      refine wpAnyH_take (i := 2) (oi := { dst := some 13, op := Op.move (Operand.tmp 5), type := 3, pos := "slices.go:98", after := #[], guard := none }) (v := ?_) rfl (by kernel_rfl) (by kernel_rfl) (by kernel_rfl) (fun _ _ _ h => h) (Or.inl ⟨by rfl, ?_⟩) (by assumption) ?_
      rotate_left
      · (intro w hSw; (try dsimp only at hSw); go_simp) <;> with_reducible rfl
      try simp only [Act.put, List.setIfInBounds_toArray, List.set_cons_zero, List.set_cons_succ]
      refine wpAnyH_take (i := 3) (oi := { dst := some 14, op := Op.indexAddr 22 (Operand.tmp 12) (Operand.tmp 13), type := 0, pos := "slices.go:98", after := #[{ on := 1, ground := Ground.data }, { on := 2, ground := Ground.data }], guard := none }) (v := ?_) rfl (by kernel_rfl) (by kernel_rfl) (by kernel_rfl) (fun _ _ _ h => h) (Or.inl ⟨by rfl, ?_⟩) (by assumption) ?_
      rotate_left
      · (intro w hSw; (try dsimp only at hSw); go_simp; (first | rfl | skip) <;> with_reducible rfl)
      try simp only [Act.put, List.setIfInBounds_toArray, List.set_cons_zero, List.set_cons_succ]
      refine wpAnyH_take (i := 4) (oi := { dst := some 15, op := Op.load 39 (Operand.tmp 14), type := 39, pos := "slices.go:98", after := #[{ on := 3, ground := Ground.data }], guard := none }) (v := ?_) rfl (by kernel_rfl) (by kernel_rfl) (by kernel_rfl) (fun _ _ _ h => h) (Or.inl ⟨by rfl, ?_⟩) (by assumption) ?_
      rotate_left
      · (intro w hSw; (try dsimp only at hSw); go_simp) <;> with_reducible rfl
      try simp only [Act.put, List.setIfInBounds_toArray, List.set_cons_zero, List.set_cons_succ]
      refine wpAnyH_take (i := 5) (oi := { dst := some 16, op := Op.binOp BinOp.eql 39 (Operand.tmp 11) (Operand.tmp 15) 39, type := 4, pos := "slices.go:98", after := #[{ on := 0, ground := Ground.data }, { on := 4, ground := Ground.data }], guard := none }) (v := ?_) rfl (by kernel_rfl) (by kernel_rfl) (by kernel_rfl) (fun _ _ _ h => h) (Or.inl ⟨by rfl, ?_⟩) (by assumption) ?_
      rotate_left
      · (intro w hSw; (try dsimp only at hSw); go_simp; exact ifE y x w)
      try simp only [Act.put, List.setIfInBounds_toArray, List.set_cons_zero, List.set_cons_succ]
      refine wpAnyH_done (by kernel_rfl) ?_ _
      have HBw : Hid (Below w.heap.size w wr.drew) := (HY.out wr.drew HWd.out).2
      cases he : enEq y x
      · have HNf : Hid ((l.take (i + 1)).any (fun x => enEq y x) = false) := HN.out.trans he
        clear HN he
        go_wp2
        go_roundw
        case rel => exact ⟨i + 1, by omega, by simp, HNf, HWd⟩
        case measure => simp [intOf]; omega
      · have HT : Hid (l.any (fun x => enEq y x) = true) := by
          show _ = _
          rw [List.any_eq_true]
          exact ⟨x, List.mem_of_getElem? HX.out, he⟩
        clear HN he
        go_wp2
        all_goals (go_ret; exact ⟨⟨i, rfl, by rw [HT.out]; simp⟩, HBw.out⟩)
    · have hd : decide ((i : Int) < (l.length : Int)) = false := by simp; omega
      have HE : Hid (l.any (fun x => enEq y x) = false) := by
        have := HA.out
        rw [List.take_of_length_le (by omega)] at this
        exact this
      have HBw : Hid (Below w.heap.size w wr) := (HY.out wr HW.out).2
      go_wp2
      all_goals (go_ret; exact ⟨⟨-1, rfl, by rw [HE.out]; rfl⟩, HBw.out⟩)

set_option maxHeartbeats 1000000 in
theorem indexI (v : Value) (l : List IdT) (y : IdT) (w : World) (h : SI w v l) (hlen : l.length ≤ 1000) : Calls Tryd.prog 52 #[v, .agg (idCs y)] w fun e w' => (∃ r : Int, e = .returned (.int .i64 r) ∧ decide (0 ≤ r) = l.any (fun x => idEq y x)) ∧ Below w.heap.size w w' := by
  obtain ⟨ao, cap, rfl, hcap, hc⟩ := h
  have HC0 : Hid (l ≠ [] → ∃ b off, ao = some ⟨b, off, none⟩ ∧ ∀ i x, l[i]? = some x → w.cell? ⟨b, off + i * 2, none⟩ = some (.string x.1) ∧ w.cell? ⟨b, off + i * 2 + 1, none⟩ = some (.string x.2)) := hc
  have HB0 : Hid (Below w.heap.size w (w.alloc (.cells (idCs y) 37))) := (Below.refl _ w).alloc (Nat.le_refl _) _
  have HY : Hid (∀ V, Below (w.heap.size + 1) (w.alloc (.cells (idCs y) 37)) V → V.heap[w.heap.size]? = some (.cells (idCs y) 37 (0, 0)) ∧ Below w.heap.size w V) := fun V hV => ⟨(hV.block _ (by omega)).trans (heap_alloc_new w _), HB0.out.trans (hV.mono (by omega))⟩
  clear hc
  go_enter Tryd.func52, Tryd.ntmps52
  go_wp2
  go_loopw [8] (fun vi wr => ∃ i : Nat, i ≤ l.length ∧ vi = .int .i64 (i : Int) ∧ Hid ((l.take i).any (fun x => idEq y x) = false) ∧ Hid (Below (w.heap.size + 1) (w.alloc (.cells (idCs y) 37)) wr)) (fun vi _ => l.length - (intOf vi).toNat)
  case atStart => exact ⟨0, by omega, rfl, by show _ = _; simp, Below.refl _ _⟩
  case round =>
    obtain ⟨i, hi, rfl, HA, HW⟩ := hrel
    by_cases hlt : i < l.length
    · have hd : decide ((i : Int) < (l.length : Int)) = true := by simp; omega
      obtain ⟨b, off, hao, hcx⟩ := HC0.out (fun e => by rw [e] at hlt; simp at hlt)
      obtain ⟨x, hx⟩ : ∃ x, l[i]? = some x := ⟨_, List.getElem?_eq_getElem hlt⟩
      obtain ⟨hY, hBw⟩ := HY.out wr HW.out
      have HC : Hid (wr.drew.cell? ⟨w.heap.size, 0, none⟩ = some (.string y.1) ∧ wr.drew.cell? ⟨w.heap.size, 1, none⟩ = some (.string y.2) ∧ wr.drew.cell? ⟨b, off + i * 2, none⟩ = some (.string x.1) ∧ wr.drew.cell? ⟨b, off + i * 2 + 1, none⟩ = some (.string x.2)) := ⟨cell_of_row wr w.heap.size 0 _ _ _ hY, cell_of_row wr w.heap.size 1 _ _ _ hY, cell_below (w' := wr) hBw (hcx i x hx).1, cell_below (w' := wr) hBw (hcx i x hx).2⟩
      have HN : Hid ((l.take (i + 1)).any (fun x => idEq y x) = idEq y x) := by
        show _ = _
        rw [List.take_add_one, hx, List.any_append, HA.out]
        simp
      have HX : Hid (l[i]? = some x) := hx
      have HWd : Hid (Below (w.heap.size + 1) (w.alloc (.cells (idCs y) 37)) wr.drew) := ⟨HW.out.os, HW.out.tape, HW.out.output, HW.out.size, HW.out.block⟩
      subst hao
      clear hcx hY hBw hx
      go_wp2_with fail
      refine wp_region_held_drew (S := fun w' => w'.cell? ⟨w.heap.size, 0, none⟩ = some (.string y.1) ∧ w'.cell? ⟨w.heap.size, 1, none⟩ = some (.string y.2) ∧ w'.cell? ⟨b, off + i * 2, none⟩ = some (.string x.1) ∧ w'.cell? ⟨b, off + i * 2 + 1, none⟩ = some (.string x.2)) (by kernel_rfl) ?_ (fun hHeld => ?_)
      · exact HC.out
      refine wpAnyH_take (i := 0) (oi := { dst := some 11, op := Op.load 37 (Operand.tmp 3), type := 37, pos := "slices.go:98", after := #[], guard := none }) (v := ?_) rfl (by kernel_rfl) (by kernel_rfl) (by kernel_rfl) (fun _ _ _ h => h) (Or.inl ⟨by rfl, ?_⟩) (by assumption) ?_
      rotate_left
      · (intro w hSw; (try dsimp only at hSw); go_simp) <;> with_reducible rfl
      try simp only [Act.put, List.setIfInBounds_toArray, List.set_cons_zero, List.set_cons_succ]
      refine wpAnyH_take (i := 1) (oi := { dst := some 12, op := Op.move (Operand.tmp 0), type := 23, pos := "slices.go:98", after := #[], guard := none }) (v := ?_) rfl (by kernel_rfl) (by kernel_rfl) (by kernel_rfl) (fun _ _ _ h => h) (Or.inl ⟨by rfl, ?_⟩) (by assumption) ?_
      rotate_left
      · (intro w hSw; (try dsimp only at hSw); go_simp) <;> with_reducible rfl
      try simp only [Act.put, List.setIfInBounds_toArray, List.set_cons_zero, List.set_cons_succ]
      refine wpAnyH_take (i := 2) (oi := { dst := some 13, op := Op.move (Operand.tmp 5), type := 3, pos := "slices.go:98", after := #[], guard := none }) (v := ?_) rfl (by kernel_rfl) (by kernel_rfl) (by kernel_rfl) (fun _ _ _ h => h) (Or.inl ⟨by rfl, ?_⟩) (by assumption) ?_
      rotate_left
      · (intro w hSw; (try dsimp only at hSw); go_simp) <;> with_reducible rfl
      try simp only [Act.put, List.setIfInBounds_toArray, List.set_cons_zero, List.set_cons_succ]
      refine wpAnyH_take (i := 3) (oi := { dst := some 14, op := Op.indexAddr 23 (Operand.tmp 12) (Operand.tmp 13), type := 0, pos := "slices.go:98", after := #[{ on := 1, ground := Ground.data }, { on := 2, ground := Ground.data }], guard := none }) (v := ?_) rfl (by kernel_rfl) (by kernel_rfl) (by kernel_rfl) (fun _ _ _ h => h) (Or.inl ⟨by rfl, ?_⟩) (by assumption) ?_
      rotate_left
      · (intro w hSw; (try dsimp only at hSw); go_simp; (first | rfl | skip) <;> with_reducible rfl)
      try simp only [Act.put, List.setIfInBounds_toArray, List.set_cons_zero, List.set_cons_succ]
      refine wpAnyH_take (i := 4) (oi := { dst := some 15, op := Op.load 37 (Operand.tmp 14), type := 37, pos := "slices.go:98", after := #[{ on := 3, ground := Ground.data }], guard := none }) (v := ?_) rfl (by kernel_rfl) (by kernel_rfl) (by kernel_rfl) (fun _ _ _ h => h) (Or.inl ⟨by rfl, ?_⟩) (by assumption) ?_
      rotate_left
      · (intro w hSw; (try dsimp only at hSw); go_simp) <;> with_reducible rfl
      try simp only [Act.put, List.setIfInBounds_toArray, List.set_cons_zero, List.set_cons_succ]
      refine wpAnyH_take (i := 5) (oi := { dst := some 16, op := Op.binOp BinOp.eql 37 (Operand.tmp 11) (Operand.tmp 15) 37, type := 4, pos := "slices.go:98", after := #[{ on := 0, ground := Ground.data }, { on := 4, ground := Ground.data }], guard := none }) (v := ?_) rfl (by kernel_rfl) (by kernel_rfl) (by kernel_rfl) (fun _ _ _ h => h) (Or.inl ⟨by rfl, ?_⟩) (by assumption) ?_
      rotate_left
      · (intro w hSw; (try dsimp only at hSw); go_simp; exact ifI y x w)
      try simp only [Act.put, List.setIfInBounds_toArray, List.set_cons_zero, List.set_cons_succ]
      refine wpAnyH_done (by kernel_rfl) ?_ _
      have HBw : Hid (Below w.heap.size w wr.drew) := (HY.out wr.drew HWd.out).2
      cases he : idEq y x
      · have HNf : Hid ((l.take (i + 1)).any (fun x => idEq y x) = false) := HN.out.trans he
        clear HN he
        go_wp2
        go_roundw
        case rel => exact ⟨i + 1, by omega, by simp, HNf, HWd⟩
        case measure => simp [intOf]; omega
      · have HT : Hid (l.any (fun x => idEq y x) = true) := by
          show _ = _
          rw [List.any_eq_true]
          exact ⟨x, List.mem_of_getElem? HX.out, he⟩
        clear HN he
        go_wp2
        all_goals (go_ret; exact ⟨⟨i, rfl, by rw [HT.out]; simp⟩, HBw.out⟩)
    · have hd : decide ((i : Int) < (l.length : Int)) = false := by simp; omega
      have HE : Hid (l.any (fun x => idEq y x) = false) := by
        have := HA.out
        rw [List.take_of_length_le (by omega)] at this
        exact this
      have HBw : Hid (Below w.heap.size w wr) := (HY.out wr HW.out).2
      go_wp2
      all_goals (go_ret; exact ⟨⟨-1, rfl, by rw [HE.out]; rfl⟩, HBw.out⟩)

theorem containsE (v : Value) (l : List EnT) (y : EnT) (w : World) (h : SE w v l) (hlen : l.length ≤ 1000) : Calls Tryd.prog 36 #[v, .agg (enCs y)] w fun e w' => e = .returned (.bool (l.any (fun x => enEq y x))) ∧ Below w.heap.size w w' := by
  have hB : Below w.heap.size w (w.alloc (.cells (enCs y) 39)) := (Below.refl _ w).alloc (Nat.le_refl _) _
  obtain ⟨b, hb⟩ : ∃ b : Bool, b = l.any (fun x => enEq y x) := ⟨_, rfl⟩
  have HI : Hid (Calls Tryd.prog 51 #[v, .agg (enCs y)] (w.alloc (.cells (enCs y) 39)) fun e w' => ∃ r : Int, e = .returned (.int .i64 r) ∧ decide (0 ≤ r) = b ∧ Hid (Below w.heap.size w w')) := by
    rw [hb]
    exact (indexE v l y _ (h.below hB) hlen).mono (fun e w' hh => by obtain ⟨⟨r, h1, h2⟩, h3⟩ := hh; exact ⟨r, h1, h2, hB.trans (h3.mono hB.size)⟩)
  rw [← hb]
  clear hb h hB
  go_enter Tryd.func36, Tryd.ntmps36
  go_wp2_with (go_at_call 51; refine (HI.out).mono ?_; rintro e w1 ⟨r, rfl, hr, HB⟩)
  all_goals (go_ret; exact ⟨by rw [← hr]; rfl, HB.out⟩)

theorem containsI (v : Value) (l : List IdT) (y : IdT) (w : World) (h : SI w v l) (hlen : l.length ≤ 1000) : Calls Tryd.prog 38 #[v, .agg (idCs y)] w fun e w' => e = .returned (.bool (l.any (fun x => idEq y x))) ∧ Below w.heap.size w w' := by
  have hB : Below w.heap.size w (w.alloc (.cells (idCs y) 37)) := (Below.refl _ w).alloc (Nat.le_refl _) _
  obtain ⟨b, hb⟩ : ∃ b : Bool, b = l.any (fun x => idEq y x) := ⟨_, rfl⟩
  have HI : Hid (Calls Tryd.prog 52 #[v, .agg (idCs y)] (w.alloc (.cells (idCs y) 37)) fun e w' => ∃ r : Int, e = .returned (.int .i64 r) ∧ decide (0 ≤ r) = b ∧ Hid (Below w.heap.size w w')) := by
    rw [hb]
    exact (indexI v l y _ (h.below hB) hlen).mono (fun e w' hh => by obtain ⟨⟨r, h1, h2⟩, h3⟩ := hh; exact ⟨r, h1, h2, hB.trans (h3.mono hB.size)⟩)
  rw [← hb]
  clear hb h hB
  go_enter Tryd.func38, Tryd.ntmps38
  go_wp2_with (go_at_call 52; refine (HI.out).mono ?_; rintro e w1 ⟨r, rfl, hr, HB⟩)
  all_goals (go_ret; exact ⟨by rw [← hr]; rfl, HB.out⟩)

end Go.Proofs.YtjakjbfeaiempaaDoor
