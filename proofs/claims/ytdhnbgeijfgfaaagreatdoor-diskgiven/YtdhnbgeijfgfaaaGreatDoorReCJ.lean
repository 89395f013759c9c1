/- lagoonref00's SpareFiles: the marks behind a wide list of files stand, and behind each file's bytes. -/
import Derived.Test.YtdhnbgeijfgfaaaGreatDoorDvBJ
import Derived.Deep.RegionHeld
import Derived.Test.YtdhnbgeijfgfaaaGreatDoorReAJ
namespace Go.Proofs.YtdhnbgeijfgfaaaGreatDoor
open Go.RowKit Go.Shelf
set_option maxRecDepth 8000

set_option maxHeartbeats 2000000 in
theorem spareFiles_any {N : Nat} {l : List FlK} {bk : Nat → Nat} {cs : List Value} {w : World} (h : WdF w N l bk (l.length + 64) cs) (hreach : l.length ≤ 3000000000) (hp : ∀ o ∈ l, o.p.length ≤ 70000000000000) (ht : Tab w) (hg0 : 0 < w.heap.size) :
    Calls Tryz.prog 10 #[.slice (some ⟨N, 0, none⟩) l.length (l.length + 64)] w fun e w' => e = .returned (.bool true) ∧ Below w.heap.size w w' := by
  have HT : Hid (Tab w ∧ 0 < w.heap.size ∧ (∀ o ∈ l, o.p.length ≤ 70000000000000)) := ⟨ht, hg0, hp⟩
  have HW : Hid (WdF w N l bk (l.length + 64) cs) := h
  clear ht hg0 h hp
  go_enter Tryz.func10, Tryz.ntmps10
  go_wp2
  go_loopw [4] (fun i wr => ∃ k : Nat, l.length ≤ k ∧ k ≤ l.length + 64 ∧ i = .int .i64 k ∧ Hid (Below w.heap.size w wr ∧ WdF wr N l bk (l.length + 64) cs)) (fun i _ => l.length + 64 - (intOf i).toNat)
  case atStart => exact ⟨l.length, Nat.le_refl _, by omega, rfl, Below.refl _ _, HW.out⟩
  case round =>
    obtain ⟨k, hk0, hk, rfl, HB⟩ := hrel
    by_cases hlt : k < l.length + 64
    · have hd : decide ((k : Int) < ((l.length : Int) + 64)) = true := by simp; omega
      obtain ⟨ms, hms⟩ : ∃ ms, ms = markS (-3000000 - (k : Int)) := ⟨_, rfl⟩
      have hcell : Hid (∀ V, WdF V N l bk (l.length + 64) cs → V.cell? ⟨N, k * 3, none⟩ = some (.string ms)) := fun V hV => by
        have h1 := (hV.cells k hlt).1
        rw [cellF_out (by omega)] at h1
        rw [hV.own.cellAt _ (by omega), h1, hms]
      have hmm : (ms.toList == (markS (-3000000 - (k : Int))).toList) = true := by rw [hms]; simp
      have HWr : Hid (IntKind.i64.wrap (-3000000 - (k : Int)) = -3000000 - (k : Int)) := by
        show _ = _
        simp [IntKind.wrap, IntKind.bits, IntKind.signed]
        omega
      have i0 : (0 : Int) ≤ (k : Int) := by omega
      have i1 : (k : Int) < (l.length : Int) + 64 := by omega
      go_wp2
      refine wp_region_held_drew (S := fun V' => V'.cell? ⟨N, k * 3, none⟩ = some (.string ms)) (by kernel_rfl) ?_ (fun hHeld => ?_)
      · exact hcell.out wr.drew (HB.out.2.below (below_drewN (Below.refl _ _) 1))
      refine wpAnyH_take (i := 0) (oi := { dst := some 20, op := Op.move (Operand.tmp 3), type := 22, pos := "spare.go:344", after := #[], guard := none }) (v := ?_) rfl (by kernel_rfl) (by kernel_rfl) (by kernel_rfl) (fun _ _ _ h => h) (Or.inl ⟨by rfl, ?_⟩) (by assumption) ?_
      rotate_left
      · (intro w hSw; (try dsimp only at hSw); go_simp) <;> with_reducible rfl
      try simp only [Act.put, List.setIfInBounds_toArray, List.set_cons_zero, List.set_cons_succ]
      refine wpAnyH_take (i := 1) (oi := { dst := some 21, op := Op.move (Operand.tmp 4), type := 3, pos := "spare.go:344", after := #[], guard := none }) (v := ?_) rfl (by kernel_rfl) (by kernel_rfl) (by kernel_rfl) (fun _ _ _ h => h) (Or.inl ⟨by rfl, ?_⟩) (by assumption) ?_
      rotate_left
      · (intro w hSw; (try dsimp only at hSw); go_simp) <;> with_reducible rfl
      try simp only [Act.put, List.setIfInBounds_toArray, List.set_cons_zero, List.set_cons_succ]
      refine wpAnyH_take (i := 2) (oi := { dst := some 22, op := Op.indexAddr 22 (Operand.tmp 20) (Operand.tmp 21), type := 0, pos := "spare.go:344", after := #[{ on := 0, ground := Ground.data }, { on := 1, ground := Ground.data }], guard := none }) (v := ?_) rfl (by kernel_rfl) (by kernel_rfl) (by kernel_rfl) (fun _ _ _ h => h) (Or.inl ⟨by rfl, ?_⟩) (by assumption) ?_
      rotate_left
      · (intro w hSw; (try dsimp only at hSw); go_simp) <;> with_reducible rfl
      try simp only [Act.put, List.setIfInBounds_toArray, List.set_cons_zero, List.set_cons_succ]
      refine wpAnyH_take (i := 3) (oi := { dst := some 23, op := Op.fieldAddr 38 (Operand.tmp 22) 0, type := 0, pos := "spare.go:344", after := #[{ on := 2, ground := Ground.data }], guard := none }) (v := ?_) rfl (by kernel_rfl) (by kernel_rfl) (by kernel_rfl) (fun _ _ _ h => h) (Or.inl ⟨by rfl, ?_⟩) (by assumption) ?_
      rotate_left
      · (intro w hSw; (try dsimp only at hSw); go_simp) <;> with_reducible rfl
      try simp only [Act.put, List.setIfInBounds_toArray, List.set_cons_zero, List.set_cons_succ]
      refine wpAnyH_take (i := 4) (oi := { dst := some 24, op := Op.load 9 (Operand.tmp 23), type := 9, pos := "spare.go:344", after := #[{ on := 3, ground := Ground.data }], guard := none }) (v := ?_) rfl (by kernel_rfl) (by kernel_rfl) (by kernel_rfl) (fun _ _ _ h => h) (Or.inl ⟨by rfl, ?_⟩) (by assumption) ?_
      rotate_left
      · (intro w hSw; (try dsimp only at hSw); go_simp) <;> with_reducible rfl
      try simp only [Act.put, List.setIfInBounds_toArray, List.set_cons_zero, List.set_cons_succ]
      refine wpAnyH_take (i := 5) (oi := { dst := some 25, op := Op.move (Operand.tmp 4), type := 3, pos := "spare.go:344", after := #[], guard := none }) (v := ?_) rfl (by kernel_rfl) (by kernel_rfl) (by kernel_rfl) (fun _ _ _ h => h) (Or.inl ⟨by rfl, ?_⟩) (by assumption) ?_
      rotate_left
      · (intro w hSw; (try dsimp only at hSw); go_simp) <;> with_reducible rfl
      try simp only [Act.put, List.setIfInBounds_toArray, List.set_cons_zero, List.set_cons_succ]
      refine wpAnyH_take (i := 6) (oi := { dst := some 26, op := Op.binOp BinOp.sub 3 (Operand.const (Value.int IntKind.i64 (-3000000))) (Operand.tmp 25) 3, type := 3, pos := "spare.go:344", after := #[{ on := 5, ground := Ground.data }], guard := none }) (v := ?_) rfl (by kernel_rfl) (by kernel_rfl) (by kernel_rfl) (fun _ _ _ h => h) (Or.inl ⟨by rfl, ?_⟩) (by assumption) ?_
      rotate_left
      · (intro w hSw; (try dsimp only at hSw); go_simp; (rw [HWr.out]) <;> with_reducible rfl)
      try simp only [Act.put, List.setIfInBounds_toArray, List.set_cons_zero, List.set_cons_succ]
      refine wpAnyH_ready (rs := [7]) (by kernel_rfl) (by simp) ?_
      refine AllReadyH.cons (o := { dst := some 27, op := Op.call { callee := Callee.value (Operand.func 21), args := #[Operand.tmp 26], argTypes := #[3] }, type := 9, pos := "spare.go:344", after := #[{ on := 6, ground := Ground.data }], guard := none }) rfl (fun K hK => ?_) AllReadyH.nil
      go_simp
      refine (mark_is _ _ (by omega) (by omega) (HT.out.1.below (below_drewN HB.out.1 1) HT.out.2.1)).mono ?_
      rintro e wc ⟨rfl, hb⟩
      have HB2 : Hid (Below w.heap.size w wc ∧ WdF wc N l bk (l.length + 64) cs) := ⟨(below_drewN HB.out.1 1).trans (hb.mono (below_drewN HB.out.1 1).size), (HB.out.2.below (below_drewN (Below.refl _ _) 1)).below hb⟩
      clear hHeld
      refine hK.out _ _ (hcell.out wc HB2.out.2) (fun hHeld => ?_)
      clear hK K
      refine wpAnyH_take (i := 8) (oi := { dst := some 28, op := Op.binOp BinOp.eql 9 (Operand.tmp 24) (Operand.tmp 27) 9, type := 4, pos := "spare.go:344", after := #[{ on := 4, ground := Ground.data }, { on := 7, ground := Ground.data }], guard := none }) (v := ?_) rfl (by kernel_rfl) (by kernel_rfl) (by kernel_rfl) (fun _ _ _ h => h) (Or.inl ⟨by rfl, ?_⟩) (by assumption) ?_
      rotate_left
      · (intro w hSw; (try dsimp only at hSw); go_simp) <;> with_reducible rfl
      try simp only [Act.put, List.setIfInBounds_toArray, List.set_cons_zero, List.set_cons_succ]
      refine wpAnyH_take (i := 9) (oi := { dst := some 29, op := Op.unOp UnOp.not 4 (Operand.tmp 28), type := 4, pos := "spare.go:344", after := #[{ on := 8, ground := Ground.data }], guard := none }) (v := ?_) rfl (by kernel_rfl) (by kernel_rfl) (by kernel_rfl) (fun _ _ _ h => h) (Or.inl ⟨by rfl, ?_⟩) (by assumption) ?_
      rotate_left
      · (intro w hSw; (try dsimp only at hSw); go_simp) <;> with_reducible rfl
      try simp only [Act.put, List.setIfInBounds_toArray, List.set_cons_zero, List.set_cons_succ]
      refine wpAnyH_done (by kernel_rfl) ?_ _
      go_wp2
      go_roundw
      case rel => exact ⟨k + 1, by omega, by omega, by go_num, HB2⟩
      case measure => simp [intOf]; omega
    · have hd : decide ((k : Int) < ((l.length : Int) + 64)) = false := by simp; omega
      have HB0 : Hid _ := HB.out
      clear HB
      go_wp2
      go_loopw [5] (fun i wr => ∃ j : Nat, j ≤ l.length ∧ i = .int .i64 j ∧ Hid (Below w.heap.size w wr ∧ WdF wr N l bk (l.length + 64) cs)) (fun i _ => l.length - (intOf i).toNat)
      case atStart => exact ⟨0, Nat.zero_le _, rfl, HB0.out⟩
      case round =>
        clear HB0
        obtain ⟨j, hj, rfl, HB⟩ := hrel
        by_cases hlj : j < l.length
        · have c1 : wr.cell? ⟨N, j * 3 + 1, none⟩ = some (.slice (some ⟨bk j, 0, none⟩) l[j].p.length (l[j].p.length + 64)) := by
            have h1 := (HB.out.2.cells j (by omega)).2.1
            rw [cellF_in hlj] at h1
            rw [HB.out.2.own.cellAt _ (by omega), h1]
          have HSP : Hid _ := spareBytes_any (bk j) l[j].p (wide l[j].p) wr (HB.out.2.bytes j hlj (by omega)) (wide_len _) (fun i h1 h2 => by rw [wide_nth _ i h2, if_neg (by omega)]) (HT.out.2.2 _ (List.getElem_mem hlj))
          generalize l[j].p.length = L at *
          go_wp2_with fail
          refine Calls.mono HSP.out ?_
          rintro e wx ⟨rfl, e9⟩
          rw [e9]
          clear e9 HSP
          go_wp2
          go_roundw
          case rel => exact ⟨j + 1, by omega, by go_num, HB⟩
          case measure => simp [intOf]; omega
        · obtain rfl : j = l.length := by omega
          go_wp2
          go_ret
          exact ⟨rfl, HB.out.1⟩
end Go.Proofs.YtdhnbgeijfgfaaaGreatDoor

/- Both disks alike: the law's alike answers true; the document's New. -/
namespace Go.Proofs.YtdhnbgeijfgfaaaGreatDoor
open Go.RowKit Go.Shelf
set_option maxRecDepth 8000

set_option maxHeartbeats 4000000 in
theorem alike_any {w0 w : World} {p q : Nat} {D : DkD} {R : RD} {k : Nat} (h : Both w0 w p q D R k) (hk : k ≤ 4611686018427387900) :
    Calls Tryz.prog 19 #[.pointer (some ⟨p, 0, none⟩), .pointer (some ⟨q, 0, none⟩)] w fun e w' => e = .returned (.bool true) ∧ Below w.heap.size w w' := by
  obtain ⟨fv, ms, rv, vs, hd, hr, hap, h4, h5⟩ := h.ex
  have hrd := h.rdOk (by omega)
  have hlq := lt_of_block hr.row
  have hlp := lt_of_block hd.row
  have HX : Hid (IsDk w p fv ms D ∧ IsRd w q rv vs R ∧ DkOk D ∧ RdOk R ∧ Play D R) := ⟨hd, hr, h.ok, hrd, h.play⟩
  obtain ⟨fa, fc, hfv, hfc, hfm⟩ := img_shape hr.img
  have HFV : Hid _ := hfv
  clear h hd hr hap h4 h5 hrd hfv
  go_enter Tryz.func19, Tryz.ntmps19
  go_wp2_with fail
  refine Calls.mono (on_any HX.out.1) ?_
  rintro e w1 ⟨rfl, hw1⟩
  subst w1
  go_wp2_with fail
  refine Calls.mono (dUsed_any HX.out.1 HX.out.2.2.1) ?_
  rintro e w1 ⟨rfl, hw1⟩
  subst w1
  go_wp2_with fail
  refine Calls.mono (dWrites_any HX.out.1) ?_
  rintro e w1 ⟨rfl, hw1⟩
  subst w1
  go_wp2_with fail
  refine Calls.mono (dNames_any HX.out.1 HX.out.2.2.1) ?_
  rintro e w1 ⟨rfl, hn1, hb1⟩
  have HN1 : Hid _ := And.intro hn1 hb1
  clear hn1 hb1
  go_wp2_with fail
  refine Calls.mono (dImage_any (HX.out.1.later HN1.out.2) HX.out.2.2.1) ?_
  rintro e w2 ⟨rfl, ⟨us, hn2⟩, hb2⟩
  have HN2 : Hid _ := And.intro hn2 hb2
  have hb02 : Below w.heap.size w w2 := Below.step HN1.out.2 hb2
  have hr2 := HX.out.2.1.later hb02
  have x1 := hr2.cells.2.1
  have x2 := hr2.cells.2.2.1
  have x5 := hr2.cells.2.2.2.2.2
  have hl2 := lt_of_block hr2.row
  have HSU : Hid (Calls Tryz.prog 26 #[.slice fa R.files.length fc] w2 fun e w' => e = .returned (.int .i64 (usedD D.files)) ∧ w' = w2) := by
    have h7 := refSum_any hr2.img HX.out.2.2.2.1.few (by have := HX.out.2.2.2.1.used; omega)
    rw [HFV.out, HX.out.2.2.2.2.files] at h7
    rw [HX.out.2.2.2.2.files]
    exact h7
  rw [HFV.out] at x1
  rw [HX.out.2.2.2.2.on] at x2
  rw [HX.out.2.2.2.2.done] at x5
  have HR2 : Hid _ := And.intro hr2 hb02
  have HNM : Hid _ := refNames_any hr2 HX.out.2.2.2.1.few
  clear hn2 hb2 hb02 hr2
  go_wp2_with fail
  refine Calls.mono HSU.out ?_
  rintro e w3 ⟨rfl, hw3⟩
  subst w3
  go_wp2_with fail
  refine Calls.mono HNM.out ?_
  rintro e w3 ⟨v3, rfl, hn3, hb3⟩
  have HEQ : Hid (Calls Tryz.prog 36 #[.slice (some ⟨w.heap.size, 0, none⟩) D.files.length D.files.length, v3] w3 fun e w' => e = .returned (.bool true) ∧ ∃ n, w' = w3.drewN n) := by
    rw [HX.out.2.2.2.2.files] at hn3
    have hb13 := Below.step HN2.out.2 hb3
    have h7 := row_kept' HN1.out.1 (Below.kept hb13) (fun j e e' => by have := (HN1.out.1.lt j e).2; omega)
    exact eqNames_same h7 hn3 HX.out.2.2.1.few
  have HB3 : Hid _ := hb3
  clear hn3 hb3 HNM
  go_wp2_with fail
  refine Calls.mono HEQ.out ?_
  rintro e w4 ⟨rfl, m4, hw4⟩
  have hb24 : Below w2.heap.size w2 w4 := by rw [hw4]; exact below_drewN HB3.out m4
  have hr4 := HR2.out.1.later hb24
  have hl4 := lt_of_block hr4.row
  have HIM : Hid _ := refImage_any hr4 HX.out.2.2.2.1
  have HB4 : Hid _ := hb24
  clear hb24 hr4 hw4 HEQ
  go_wp2_with fail
  refine Calls.mono HIM.out ?_
  rintro e w5 ⟨v5, us5, rfl, hn5, hb5⟩
  have HEQ : Hid (Calls Tryz.prog 9 #[.slice (some ⟨w1.heap.size, 0, none⟩) D.files.length D.files.length, v5] w5 fun e w' => e = .returned (.bool true) ∧ ∃ n, w' = w5.drewN n) := by
    rw [HX.out.2.2.2.2.files] at hn5
    have h7 := HN2.out.1.kept (Below.kept (Below.step HB4.out hb5)) (fun j e => .inr e)
    exact eqFiles_like h7 hn5 HX.out.2.2.1.few
  have HB5 : Hid _ := hb5
  clear hn5 hb5 HIM
  go_wp2_with fail
  refine Calls.mono HEQ.out ?_
  rintro e w6 ⟨rfl, m6, hw6⟩
  have HBE : Hid (Below w.heap.size w w6) := by
    rw [hw6]
    exact below_drewN (Below.step HR2.out.2 (Below.step HB4.out HB5.out)) m6
  clear hw6 HEQ
  go_wp2_with fail
  go_ret
  exact ⟨rfl, HBE.out⟩

theorem isRd_new (w : World) (room : Int) : IsRd (w.alloc (.cells (rdQ (.slice none 0 0) ⟨[], room, true, false, 0, 0⟩) 64)) w.heap.size (.slice none 0 0) [] ⟨[], room, true, false, 0, 0⟩ :=
  ⟨heap_alloc_new w _, ⟨rfl, World.ownsRow_nil _ _ _ _, fun i u f h => by simp at h⟩, by simp [rfoot, Value.ownBlock]⟩

theorem refNew_yes (room : Int) (w : World) (hq : 0 ≤ room ∧ room ≤ 16777216) : Calls Tryz.prog 23 #[.int .i64 room] w fun e w' => e = .returned (.tuple #[.pointer (some ⟨w.heap.size, 0, none⟩), .int .i64 0]) ∧ w' = w.alloc (.cells (rdQ (.slice none 0 0) ⟨[], room, true, false, 0, 0⟩) 64) := by
  have h1 : decide (room < 0) = false := decide_eq_false (by omega)
  have h2 : decide (room > 16777216) = false := decide_eq_false (by omega)
  go_enter Tryz.func23, Tryz.ntmps23
  go_wp2_with fail
  go_ret2
  exact ⟨rfl, rfl⟩

theorem refNew_no (room : Int) (w : World) (hq : ¬ (0 ≤ room ∧ room ≤ 16777216)) : Calls Tryz.prog 23 #[.int .i64 room] w fun e w' => e = .returned (.tuple #[.pointer none, .int .i64 1]) ∧ w' = w := by
  by_cases h0 : room < 0
  · have h1 : decide (room < 0) = true := decide_eq_true h0
    go_enter Tryz.func23, Tryz.ntmps23
    go_wp2_with fail
    go_ret2
    exact ⟨rfl, rfl⟩
  · have h1 : decide (room < 0) = false := decide_eq_false h0
    have h2 : decide (room > 16777216) = true := decide_eq_true (by omega)
    go_enter Tryz.func23, Tryz.ntmps23
    go_wp2_with fail
    go_ret2
    exact ⟨rfl, rfl⟩
end Go.Proofs.YtdhnbgeijfgfaaaGreatDoor

/- DiskPlays, walked. -/
namespace Go.Proofs.YtdhnbgeijfgfaaaGreatDoor
open Go.RowKit Go.Shelf
set_option maxRecDepth 8000

/-- A call of a script that came in. -/
theorem op_at {w : World} {v : Value} {l : List OpK} {sa : Option Addr} {sc : Nat} (hl : SeesOpsK w w.heap.size v l) (hv : v = .slice sa l.length sc) (k : Nat) (hlt : k < l.length) : ∃ b off, sa = some ⟨b, off, none⟩ ∧ ∀ wx, Below w.heap.size w wx → wx.rangeAt b (off + k * 6) l[k].cells ∧ GoodOpK wx w.heap.size l[k] := by
  subst hv
  obtain ⟨⟨_, _, esl, _, _, h0 | ⟨b, off, e2, hb, hr⟩⟩, hgo⟩ := hl
  · rw [h0] at hlt; simp at hlt
  have e3 : sa = some ⟨b, off, none⟩ := by
    have := (Value.slice.inj esl).1
    rw [this]; exact e2
  have hrk : w.rangeAt b (off + k * 6) l[k].cells := hr k hlt
  have hg := hgo l[k] (List.getElem_mem hlt)
  exact ⟨b, off, e3, fun wx hbx => ⟨fun j x hj => cell_later (hrk j x hj) hbx (Nat.le_refl _), hg.kept (Below.kept hbx) (fun j hj e => by omega)⟩⟩

end Go.Proofs.YtdhnbgeijfgfaaaGreatDoor