/- lagoonref00's apartTexts: lists of texts that lie apart share no memory. -/
import Derived.Test.YtbdokdhconhifaaGreatDoorBgSJ
import Derived.Test.YtbdokdhconhifaaGreatDoorMemJ
import Derived.Maps.AppendAt
namespace Go.Proofs.YtbdokdhconhifaaGreatDoor
open Go.RowKit Go.Shelf
set_option maxRecDepth 8000

set_option maxHeartbeats 4000000 in
theorem apartTexts_any (lv : Value) (rs : List Rw) (Xs0 : Nat → List Value) (w : World) (hv : SeesL w 56 lv rs) (hr : RowsR w 9 1 rs Xs0) (hap : ApartR rs) (hn : rs.length ≤ 600) (hb : ∀ j (hj : j < rs.length), rs[j].n ≤ 1100000000)
    (ht : Tab w) (hg0 : 1 < w.heap.size) (hgt : ¬ BlkR rs 1) :
    Calls Tryz.prog 40 #[lv] w fun e w' => e = .returned (.bool true) ∧ Kept w w' (BlkR rs) ∧ ∃ Xs, RowsR w' 9 1 rs Xs := by
  have HA : Hid (SeesL w 56 lv rs ∧ RowsR w 9 1 rs Xs0 ∧ ApartR rs ∧ (∀ j (hj : j < rs.length), rs[j].n ≤ 1100000000) ∧ ¬ BlkR rs 1) := ⟨hv, hr, hap, hb, hgt⟩
  have HT : Hid (∀ w', Kept w w' (BlkR rs) → Tab w') := fun w' hk => tab_same ht (hk.block _ hg0 hgt)
  obtain ⟨ao, cap, rfl, hlc, h3⟩ := hv
  have HC : Hid (∀ wr, Kept w wr (BlkR rs) → ∀ j (hj : j < rs.length), ∃ b off, ao = some ⟨b, off, none⟩ ∧ wr.cell? ⟨b, off + j, none⟩ = some rs[j].v) := fun wr hk j hj => by
    obtain ⟨ao', cap', e, _, h5⟩ := HA.out.1.kept HA.out.2.1 (by decide) hk
    obtain ⟨b, off, e2, _, h6⟩ := h5 (by intro e; rw [e] at hj; simp at hj)
    simp only [Value.slice.injEq, true_and] at e
    exact ⟨b, off, e.1.trans e2, h6 j hj⟩
  clear hr hap hb ht hgt h3
  go_enter Tryz.func40, Tryz.ntmps40
  go_wp2
  go_loopw [3] (fun vi wr => ∃ i : Nat, i ≤ rs.length ∧ vi = .int .i64 (i : Int) ∧ Hid (∃ Xs, Fd w wr 9 1 0 rs (fun j => .string (markS (-1000000 - (j : Int)))) i 0 Xs)) (fun vi _ => rs.length - (intOf vi).toNat)
  case atStart => exact ⟨0, Nat.zero_le _, rfl, _, Fd.start HA.out.2.1⟩
  case round =>
    obtain ⟨i, hil, rfl, HE⟩ := hrel
    by_cases hlt : i < rs.length
    · have d0 : decide ((i : Int) < (rs.length : Int)) = true := by simp; omega
      obtain ⟨wo, hwo⟩ : ∃ wo, wo = wr := ⟨_, rfl⟩
      subst hwo
      obtain ⟨b, off, rfl, hcl⟩ := HC.out wo HE.out.choose_spec.2.2.2 i hlt
      have HCl0 : Hid (∀ w', Kept w w' (BlkR rs) → w'.cell? ⟨b, off + i, none⟩ = some rs[i].v) := fun w' hk => by
        obtain ⟨b', off', e, h⟩ := HC.out w' hk i hlt
        simp only [Option.some.injEq, Addr.mk.injEq, and_true] at e
        rw [e.1, e.2]
        exact h
      obtain ⟨va, vc, hvv⟩ := row_val (HA.out.2.1 i hlt)
      have hbn := HA.out.2.2.2.1 i hlt
      obtain ⟨n, hnn⟩ : ∃ n, n = rs[i].n := ⟨_, rfl⟩
      rw [← hnn] at hvv hbn
      have HV0 : Hid (rs[i].v = .slice va n vc) := hvv
      have HN : Hid (n = rs[i].n) := hnn
      have HR1 : Hid (IntKind.i64.wrap (-1000000 - (i : Int)) = -1000000 - (i : Int)) := by
        show _ = _
        simp [IntKind.wrap, IntKind.bits, IntKind.signed]
        omega
      clear hcl hvv hnn
      go_wp2
      go_loopw [4] (fun vk wr => ∃ k : Nat, k ≤ n ∧ vk = .int .i64 (k : Int) ∧ Hid (∃ Xs, Fd w wr 9 1 0 rs (fun j => .string (markS (-1000000 - (j : Int)))) i k Xs)) (fun vk _ => n - (intOf vk).toNat)
      case atStart => exact ⟨0, Nat.zero_le _, rfl, HE.out⟩
      case round =>
        obtain ⟨k, hkn, rfl, HE2⟩ := hrel
        obtain ⟨Xs, hF⟩ := HE2.out
        have HF : Hid (Fd w wr 9 1 0 rs (fun j => .string (markS (-1000000 - (j : Int)))) i k Xs) := hF
        have hcl := HCl0.out wr hF.2.2.2
        rw [HV0.out] at hcl
        by_cases hkl : k < n
        · have d1 : decide ((k : Int) < (n : Int)) = true := by simp; omega
          obtain ⟨g, hg, _⟩ := row_first (by have := hF.1 i hlt; rw [HV0.out, ← HN.out] at this; exact this) (show 0 < n by omega)
          subst hg
          have HV : Hid (rs[i].v = .slice (some ⟨g, 0, none⟩) n vc) := HV0.out
          have HCl : Hid (∀ w', Kept w w' (BlkR rs) → w'.cell? ⟨b, off + i, none⟩ = some (.slice (some ⟨g, 0, none⟩) n vc)) := fun w' hk => by rw [← HV.out]; exact HCl0.out w' hk
          obtain ⟨m1, hm1⟩ : ∃ m1, m1 = markS (-1000000 - (i : Int)) := ⟨_, rfl⟩
          have HM1 : Hid (m1 = markS (-1000000 - (i : Int))) := hm1
          have q0 : (0 : Int) ≤ (k : Int) := by omega
          have q1 : (k : Int) < (n : Int) := by omega
          have q2 : (0 : Int) ≤ (i : Int) := by omega
          have q3 : (i : Int) < (rs.length : Int) := by omega
          clear hm1 hF HE2 HE
          go_wp2
          refine wp_region_held_drew (S := fun V' => V'.cell? ⟨b, off + i, none⟩ = some (.slice (some ⟨g, 0, none⟩) n vc)) (by kernel_rfl) ?_ (fun hHeld => ?_)
          · exact HCl.out _ (HF.out.2.2.2.trans ((Kept.refl wr _).drewN 1) (fun _ _ h => h))
          refine wpAnyH_take (i := 0) (oi := { dst := some 22, op := Op.move (Operand.tmp 0), type := 35, pos := "bag.go:364", after := #[], guard := none }) (v := ?_) rfl (by kernel_rfl) (by kernel_rfl) (by kernel_rfl) (fun _ _ _ h => h) (Or.inl ⟨by rfl, ?_⟩) (by assumption) ?_
          rotate_left
          · (intro w hSw; (try dsimp only at hSw); go_simp) <;> with_reducible rfl
          try simp only [Act.put, List.setIfInBounds_toArray, List.set_cons_zero, List.set_cons_succ]
          refine wpAnyH_take (i := 1) (oi := { dst := some 23, op := Op.move (Operand.tmp 3), type := 3, pos := "bag.go:364", after := #[], guard := none }) (v := ?_) rfl (by kernel_rfl) (by kernel_rfl) (by kernel_rfl) (fun _ _ _ h => h) (Or.inl ⟨by rfl, ?_⟩) (by assumption) ?_
          rotate_left
          · (intro w hSw; (try dsimp only at hSw); go_simp) <;> with_reducible rfl
          try simp only [Act.put, List.setIfInBounds_toArray, List.set_cons_zero, List.set_cons_succ]
          refine wpAnyH_take (i := 2) (oi := { dst := some 24, op := Op.indexAddr 35 (Operand.tmp 22) (Operand.tmp 23), type := 0, pos := "bag.go:364", after := #[{ on := 0, ground := Ground.data }, { on := 1, ground := Ground.data }], guard := none }) (v := ?_) rfl (by kernel_rfl) (by kernel_rfl) (by kernel_rfl) (fun _ _ _ h => h) (Or.inl ⟨by rfl, ?_⟩) (by assumption) ?_
          rotate_left
          · (intro w hSw; (try dsimp only at hSw); go_simp) <;> with_reducible rfl
          try simp only [Act.put, List.setIfInBounds_toArray, List.set_cons_zero, List.set_cons_succ]
          refine wpAnyH_take (i := 3) (oi := { dst := some 25, op := Op.load 56 (Operand.tmp 24), type := 56, pos := "bag.go:364", after := #[{ on := 2, ground := Ground.data }], guard := none }) (v := ?_) rfl (by kernel_rfl) (by kernel_rfl) (by kernel_rfl) (fun _ _ _ h => h) (Or.inl ⟨by rfl, ?_⟩) (by assumption) ?_
          rotate_left
          · (intro w hSw; (try dsimp only at hSw); go_simp) <;> with_reducible rfl
          try simp only [Act.put, List.setIfInBounds_toArray, List.set_cons_zero, List.set_cons_succ]
          refine wpAnyH_take (i := 4) (oi := { dst := some 26, op := Op.move (Operand.tmp 4), type := 3, pos := "bag.go:364", after := #[], guard := none }) (v := ?_) rfl (by kernel_rfl) (by kernel_rfl) (by kernel_rfl) (fun _ _ _ h => h) (Or.inl ⟨by rfl, ?_⟩) (by assumption) ?_
          rotate_left
          · (intro w hSw; (try dsimp only at hSw); go_simp) <;> with_reducible rfl
          try simp only [Act.put, List.setIfInBounds_toArray, List.set_cons_zero, List.set_cons_succ]
          refine wpAnyH_take (i := 5) (oi := { dst := some 27, op := Op.move (Operand.tmp 3), type := 3, pos := "bag.go:364", after := #[], guard := none }) (v := ?_) rfl (by kernel_rfl) (by kernel_rfl) (by kernel_rfl) (fun _ _ _ h => h) (Or.inl ⟨by rfl, ?_⟩) (by assumption) ?_
          rotate_left
          · (intro w hSw; (try dsimp only at hSw); go_simp) <;> with_reducible rfl
          try simp only [Act.put, List.setIfInBounds_toArray, List.set_cons_zero, List.set_cons_succ]
          refine wpAnyH_take (i := 6) (oi := { dst := some 28, op := Op.binOp BinOp.sub 3 (Operand.const (Value.int IntKind.i64 (-1000000))) (Operand.tmp 27) 3, type := 3, pos := "bag.go:364", after := #[{ on := 5, ground := Ground.data }], guard := none }) (v := ?_) rfl (by kernel_rfl) (by kernel_rfl) (by kernel_rfl) (fun _ _ _ h => h) (Or.inl ⟨by rfl, ?_⟩) (by assumption) ?_
          rotate_left
          · (intro w hSw; (try dsimp only at hSw); go_simp; (rw [HR1.out]) <;> with_reducible rfl)
          try simp only [Act.put, List.setIfInBounds_toArray, List.set_cons_zero, List.set_cons_succ]
          refine wpAnyH_ready (rs := [7]) (by kernel_rfl) (by simp) ?_
          refine AllReadyH.cons (o := { dst := some 29, op := Op.call { callee := Callee.value (Operand.func 75), args := #[Operand.tmp 28], argTypes := #[3] }, type := 9, pos := "bag.go:364", after := #[{ on := 6, ground := Ground.data }], guard := none }) rfl (fun K hK => ?_) AllReadyH.nil
          go_simp
          refine (mark_is _ _ (by omega) (by omega) (HT.out _ (HF.out.2.2.2.trans ((Kept.refl wr _).drewN 1) (fun _ _ h => h)))).mono ?_
          rintro e wc ⟨rfl, hb1⟩
          rw [← HM1.out]
          have hF1 : Fd w wc 9 1 0 rs (fun j => .string (markS (-1000000 - (j : Int)))) i k Xs := (HF.out.next ((Kept.refl wr _).drewN 1)).next (below_new hb1)
          have hown := hF1.1 i hlt
          rw [HV.out, ← HN.out] at hown
          have hlen := hown.1
          obtain ⟨u0, hu0⟩ : ∃ u, wc.cell? ⟨g, k, none⟩ = some u := ⟨(Xs i)[k]'(by omega), by rw [hown.cellAt _ (by omega), List.getElem?_eq_getElem (by omega)]⟩
          have hfz0 := hown.frozenAt (k)
          have R0 := hown.stored (k) (.string m1)
          have hgr : wc.grownBy ((wc.setCell ⟨g, k, none⟩ (.string m1))) (some g) := R0.2
          have hMk : Mk 1 0 (k + 1) (.string m1) ((Xs i).set (k) (.string m1)) := by
            intro j hj
            by_cases hjk : j < k
            · rw [List.getElem?_set_ne (by omega)]
              rw [HM1.out]
              exact hF1.2.2.1 j hjk
            · obtain rfl : j = k := by omega
              rw [show j * 1 + 0 = j by omega, List.getElem?_set_self (by omega)]
          have HF2 : Hid (Fd w ((wc.setCell ⟨g, k, none⟩ (.string m1))) 9 1 0 rs (fun j => .string (markS (-1000000 - (j : Int)))) i (k + 1) (fun j => if j = i then _ else Xs j)) := hF1.store HA.out.2.2.1 hlt (by rw [HV.out]; rfl) (by rw [HV.out, ← HN.out]; exact R0.1) hgr (by rw [← HM1.out]; exact hMk)
          have HKc : Hid (Kept w wc (BlkR rs)) := hF1.2.2.2
          clear hF1 hown hlen hgr hMk hb1 hHeld R0
          refine hK.out _ _ (HCl.out _ HKc.out) (fun hHeld => ?_)
          clear hK K
          refine wpAnyH_take (i := 8) (oi := { dst := some 30, op := Op.indexAddr 56 (Operand.tmp 25) (Operand.tmp 26), type := 0, pos := "bag.go:364", after := #[{ on := 3, ground := Ground.data }, { on := 4, ground := Ground.data }, { on := 0, ground := Ground.phase }, { on := 1, ground := Ground.phase }, { on := 2, ground := Ground.phase }, { on := 3, ground := Ground.phase }, { on := 4, ground := Ground.phase }, { on := 5, ground := Ground.phase }, { on := 6, ground := Ground.phase }, { on := 7, ground := Ground.phase }], guard := none }) (v := ?_) rfl (by kernel_rfl) (by kernel_rfl) (by kernel_rfl) (fun _ _ _ h => h) (Or.inl ⟨by rfl, ?_⟩) (by assumption) ?_
          rotate_left
          · (intro w hSw; (try dsimp only at hSw); go_simp) <;> with_reducible rfl
          try simp only [Act.put, List.setIfInBounds_toArray, List.set_cons_zero, List.set_cons_succ]
          refine wpAnyH_ready (rs := [9]) (by kernel_rfl) (by simp) ?_
          refine AllReadyH.cons (o := { dst := none, op := Op.store 9 (Operand.tmp 30) (Operand.tmp 29), type := 0, pos := "bag.go:364", after := #[{ on := 8, ground := Ground.data }, { on := 7, ground := Ground.data }, { on := 7, ground := Ground.chain }, { on := 0, ground := Ground.phase }, { on := 1, ground := Ground.phase }, { on := 2, ground := Ground.phase }, { on := 3, ground := Ground.phase }, { on := 4, ground := Ground.phase }, { on := 5, ground := Ground.phase }, { on := 6, ground := Ground.phase }, { on := 7, ground := Ground.phase }], guard := none }) rfl (fun K hK => ?_) AllReadyH.nil
          go_simp
          clear hHeld
          refine hK.out _ _ (HCl.out _ HF2.out.2.2.2) (fun hHeld => ?_)
          clear hK K
          refine wpAnyH_done (by kernel_rfl) ?_ _
          go_wp2
          go_roundw
          case rel => exact ⟨k + 1, by omega, by go_num, _, HF2.out⟩
          case measure => simp [intOf]; omega
        · have d1 : decide ((k : Int) < (n : Int)) = false := by simp; omega
          have HF2 : Hid (∃ Xs, Fd w wr 9 1 0 rs (fun j => .string (markS (-1000000 - (j : Int)))) (i + 1) 0 Xs) := ⟨Xs, hF.turn hlt (by rw [← HN.out]; omega)⟩
          clear hF
          go_wp2
          go_roundw
          case rel => exact ⟨i + 1, by omega, by go_num, HF2⟩
          case measure => simp [intOf]; omega
    · have d0 : decide ((i : Int) < (rs.length : Int)) = false := by simp; omega
      obtain rfl : i = rs.length := by omega
      obtain ⟨Xs, hF⟩ := HE.out
      have hmk : ∀ j (hj : j < rs.length), Mk 1 0 rs[j].n (.string (markS (-1000000 - (j : Int)))) (Xs j) := fun j hj => hF.2.1 j hj hj
      have hsz : w.heap.size ≤ wr.heap.size := hF.2.2.2.size
      have G1 := grownTexts_any _ rs Xs 1 wr (HA.out.1.kept HA.out.2.1 (by decide) hF.2.2.2) hF.1 HA.out.2.2.1 hmk (by decide) hn HA.out.2.2.2.1 (HT.out wr hF.2.2.2) (by omega) HA.out.2.2.2.2
      have HF : Hid (Kept w wr (BlkR rs)) := hF.2.2.2
      clear hF
      go_wp2_with fail
      go_at_call 76
      refine G1.mono ?_
      rintro e w1 ⟨rfl, hk1, hr1⟩
      have HK1 : Hid (Kept w w1 (BlkR rs)) := HF.out.trans hk1 (fun _ _ h => h)
      have hsz1 : w.heap.size ≤ w1.heap.size := HK1.out.size
      have G2 := grownTexts_any _ rs Xs 24 w1 (HA.out.1.kept HA.out.2.1 (by decide) HK1.out) hr1 HA.out.2.2.1 hmk (by decide) hn HA.out.2.2.2.1 (HT.out w1 HK1.out) (by omega) HA.out.2.2.2.2
      clear G1 hk1 hr1 hmk
      go_wp2_with fail
      go_at_call 76
      refine G2.mono ?_
      rintro e w2 ⟨rfl, hk2, hr2⟩
      have HK2 : Hid (Kept w w2 (BlkR rs) ∧ ∃ Xs, RowsR w2 9 1 rs Xs) := ⟨HK1.out.trans hk2 (fun _ _ h => h), Xs, hr2⟩
      clear G2 hk2 hr2
      go_wp2
      go_ret
      exact ⟨rfl, HK2.out⟩

end Go.Proofs.YtbdokdhconhifaaGreatDoor

/- Lists in memory, their room, and what stays when some cells are written over; no Go function is walked here. -/
namespace Go.Proofs.YtbdokdhconhifaaGreatDoor
open Go.RowKit
set_option maxRecDepth 8000

/-- All cells but those of S are in w' as they were; no block is gone, or has another length. -/
structure Turned (w w' : World) (S : Nat → Nat → Prop) : Prop where
  os : w'.os = w.os
  tape : w'.tape = w.tape
  output : w'.output = w.output
  size : w.heap.size ≤ w'.heap.size
  same : ∀ k, k < w.heap.size → (∀ i, ¬ S k i) → w'.heap[k]? = w.heap[k]?
  row : ∀ k cs t fr, w.heap[k]? = some (.cells cs t fr) → ∃ cs', w'.heap[k]? = some (.cells cs' t fr) ∧ cs'.size = cs.size ∧ ∀ i, ¬ S k i → cs'[i]? = cs[i]?

section
variable {a b c w w' : World} {S S' : Nat → Nat → Prop}

theorem Turned.refl (w : World) (S : Nat → Nat → Prop) : Turned w w S := ⟨rfl, rfl, rfl, Nat.le_refl _, fun _ _ _ => rfl, fun _ cs _ _ h => ⟨cs, h, rfl, fun _ _ => rfl⟩⟩

theorem Turned.mono (h : Turned w w' S) (hS : ∀ k i, k < w.heap.size → S k i → S' k i) : Turned w w' S' :=
  ⟨h.os, h.tape, h.output, h.size, fun k hk hn => h.same k hk fun i hs => hn i (hS k i hk hs), fun k cs t fr hr => by
    obtain ⟨cs', h1, h2, h3⟩ := h.row k cs t fr hr
    exact ⟨cs', h1, h2, fun i hn => h3 i fun hs => hn (hS k i (lt_of_block hr) hs)⟩⟩

theorem Turned.trans (h : Turned a b S) (g : Turned b c S') (hS : ∀ k i, k < a.heap.size → S' k i → S k i) : Turned a c S :=
  ⟨g.os.trans h.os, g.tape.trans h.tape, g.output.trans h.output, Nat.le_trans h.size g.size,
    fun k hk hn => (g.same k (Nat.lt_of_lt_of_le hk h.size) fun i hs => hn i (hS k i hk hs)).trans (h.same k hk hn), fun k cs t fr hr => by
    obtain ⟨c1, h1, h2, h3⟩ := h.row k cs t fr hr
    obtain ⟨c2, k1, k2, k3⟩ := g.row k c1 t fr h1
    exact ⟨c2, k1, k2.trans h2, fun i hn => (k3 i fun hs => hn (hS k i (lt_of_block hr) hs)).trans (h3 i hn)⟩⟩

theorem Turned.of_kept (h : Kept w w' (fun _ => False)) (S : Nat → Nat → Prop) : Turned w w' S :=
  ⟨h.os, h.tape, h.output, h.size, fun k hk _ => h.block k hk (fun h => h), fun _ cs _ _ hr => ⟨cs, h.heap hr (fun h => h), rfl, fun _ _ => rfl⟩⟩

theorem Turned.new (h : Turned a w S) (hk : Kept w w' (fun _ => False)) : Turned a w' S := h.trans (Turned.of_kept hk (fun _ _ => False)) (fun _ _ _ h => h.elim)
theorem Turned.alloc (h : Turned a w S) (o : Obj) : Turned a (w.alloc o) S := h.new ((Kept.refl w _).alloc o)

/-- A block that was not there at the start may be written over at will. -/
theorem Turned.own (h : Turned a w S) {B : Nat} (hB : a.heap.size ≤ B) (hk : Kept w w' (fun k => B ≤ k)) : Turned a w' S :=
  ⟨hk.os.trans h.os, hk.tape.trans h.tape, hk.output.trans h.output, Nat.le_trans h.size hk.size,
    fun k hk' hn => (hk.block k (Nat.lt_of_lt_of_le hk' h.size) (by omega)).trans (h.same k hk' hn), fun k cs t fr hr => by
    obtain ⟨c1, h1, h2, h3⟩ := h.row k cs t fr hr
    have := lt_of_block hr
    exact ⟨c1, hk.heap h1 (by omega), h2, h3⟩⟩

theorem Turned.setCell (h : Turned a w S) {k i : Nat} (v : Value) (hS : k < a.heap.size → S k i) : Turned a (w.setCell ⟨k, i, none⟩ v) S := by
  refine ⟨h.os, h.tape, h.output, ?_, fun j hj hn => ?_, fun j cs t fr hr => ?_⟩
  · have : (w.setCell ⟨k, i, none⟩ v).heap.size = w.heap.size := by simp [World.setCell]
    rw [this]; exact h.size
  · rw [Below.heap_setCell _ _ _ _ (fun e => by have e' : j = k := e; subst e'; exact hn i (hS hj))]
    exact h.same j hj hn
  · obtain ⟨c1, h1, h2, h3⟩ := h.row j cs t fr hr
    by_cases e : j = k
    · subst e
      refine ⟨c1.setIfInBounds i v, ?_, by rw [Array.size_setIfInBounds]; exact h2, fun x hx => ?_⟩
      · rw [setCell_eq_setRow w j i c1 t fr v h1]; exact setRow_heap w j c1 _ t fr h1
      · rw [Array.getElem?_setIfInBounds_ne (fun e => hx (by subst e; exact hS (lt_of_block hr)))]
        exact h3 x hx
    · exact ⟨c1, by rw [Below.heap_setCell _ _ _ _ e]; exact h1, h2, h3⟩

theorem cell_row {k i : Nat} {v : Value} (h : w.cell? ⟨k, i, none⟩ = some v) : ∃ cs t fr, w.heap[k]? = some (.cells cs t fr) ∧ cs[i]? = some v := by
  unfold World.cell? at h
  split at h
  · rename_i cs t fr hr
    exact ⟨cs, t, fr, hr, by simpa using h⟩
  · simp at h

theorem Turned.cell (h : Turned w w' S) {k i : Nat} {v : Value} (hc : w.cell? ⟨k, i, none⟩ = some v) (hn : ¬ S k i) : w'.cell? ⟨k, i, none⟩ = some v := by
  obtain ⟨cs, t, fr, hr, hi⟩ := cell_row hc
  obtain ⟨cs', h1, _, h3⟩ := h.row k cs t fr hr
  rw [cell_of_row w' k i cs' t fr h1, h3 i hn, hi]

theorem Turned.below (h : Turned w w' S) {B : Nat} (hB : B ≤ w.heap.size) (hS : ∀ k i, S k i → B ≤ k) : Below B w w' :=
  ⟨h.os, h.tape, h.output, h.size, fun k hk => h.same k (by omega) fun i hs => by have := hS k i hs; omega⟩

end

/-- A list: where it lies, its length, its room. -/
structure Pc where
  ao : Option Addr
  n : Nat
  cap : Nat

def Pc.val (p : Pc) : Value := .slice p.ao p.n p.cap
/-- The cells of a list's room; of its spare room. -/
def Pc.foot (p : Pc) (k i : Nat) : Prop := ∃ off, p.ao = some ⟨k, off, none⟩ ∧ off ≤ i ∧ i < off + p.cap
def Pc.spare (p : Pc) (k i : Nat) : Prop := ∃ off, p.ao = some ⟨k, off, none⟩ ∧ off + p.n ≤ i ∧ i < off + p.cap

/-- A list lies in a row of elements of type E, all of its room. -/
structure Lies (w : World) (E : TypeId) (p : Pc) : Prop where
  le : p.n ≤ p.cap
  most : p.cap ≤ maxLen
  nil : p.ao = none → p.cap = 0
  at' : 0 < p.cap → ∃ k off cs, p.ao = some ⟨k, off, none⟩ ∧ w.heap[k]? = some (.cells cs E (0, 0)) ∧ off + p.cap ≤ cs.size

/-- The elements of a list. -/
def Pc.Has (w : World) (p : Pc) (xs : List Value) : Prop := xs.length = p.n ∧ (xs = [] ∨ ∃ k off, p.ao = some ⟨k, off, none⟩ ∧ ∀ i (h : i < xs.length), w.cell? ⟨k, off + i, none⟩ = some xs[i])

section
variable {w w' : World} {S : Nat → Nat → Prop} {E : TypeId} {p q : Pc} {xs : List Value}

theorem Lies.turned (h : Lies w E p) (ht : Turned w w' S) : Lies w' E p :=
  ⟨h.le, h.most, h.nil, fun h0 => by
    obtain ⟨k, off, cs, h1, h2, h3⟩ := h.at' h0
    obtain ⟨cs', k1, k2, _⟩ := ht.row k cs E (0, 0) h2
    exact ⟨k, off, cs', h1, k1, by omega⟩⟩

theorem Pc.Has.turned (h : p.Has w xs) (ht : Turned w w' S) (hn : ∀ k i, p.foot k i → p.spare k i ∨ ¬ S k i) (hc : p.n ≤ p.cap) : p.Has w' xs := by
  refine ⟨h.1, ?_⟩
  rcases h.2 with h0 | ⟨k, off, h1, h2⟩
  · exact .inl h0
  · refine .inr ⟨k, off, h1, fun i hi => ht.cell (h2 i hi) ?_⟩
    have hl := h.1
    rcases hn k (off + i) ⟨off, h1, by omega, by omega⟩ with ⟨off', e, h3, _⟩ | hn
    · rw [h1] at e; simp at e; all_goals omega
    · exact hn

theorem Pc.spare_foot {k i : Nat} (h : p.spare k i) : p.foot k i := by
  obtain ⟨off, h1, h2, h3⟩ := h
  exact ⟨off, h1, by omega, h3⟩

theorem Lies.foot_lt (h : Lies w E p) {k i : Nat} (hf : p.foot k i) : k < w.heap.size ∧ ∃ cs, w.heap[k]? = some (.cells cs E (0, 0)) := by
  obtain ⟨off, h1, h2, h3⟩ := hf
  obtain ⟨k', off', cs, k1, k2, k3⟩ := h.at' (by omega)
  rw [h1] at k1
  simp at k1
  obtain ⟨rfl, rfl⟩ := k1
  exact ⟨lt_of_block k2, cs, k2⟩

/-- Lists of a call's own make. -/
theorem own_has {base : Nat} {v : Value} (h : w.ownsRow base E 1 v xs.length xs) : ∃ p : Pc, v = p.val ∧ p.n = xs.length ∧ p.Has w xs ∧ Lies w E p ∧ ∀ k i, p.foot k i → base ≤ k := by
  rcases h.2 with ⟨rfl, h0⟩ | ⟨g, cap, cur, rfl, hb, hg, h1, h2, h3, h4⟩
  · have hx : xs = [] := List.eq_nil_of_length_eq_zero h0
    subst hx
    exact ⟨⟨none, 0, 0⟩, rfl, rfl, ⟨rfl, .inl rfl⟩, ⟨Nat.le_refl _, Nat.zero_le _, fun _ => rfl, fun h => by simp at h⟩, fun k i ⟨off, e, _⟩ => by simp at e⟩
  · refine ⟨⟨some ⟨g, 0, none⟩, xs.length, cap⟩, rfl, rfl, ⟨rfl, .inr ⟨g, 0, rfl, fun i hi => ?_⟩⟩, ⟨h1, h2, fun e => by simp at e, fun _ => ⟨g, 0, cur, rfl, hg, by simp at h3 ⊢; omega⟩⟩, fun k i ⟨off, e, _⟩ => by simp at e; omega⟩
    rw [Nat.zero_add, cell_of_row w g i cur E (0, 0) hg]
    have e : cur.toList.take xs.length = xs := by simpa using h4
    have e2 : (cur.toList.take xs.length)[i]? = some xs[i] := by rw [e]; exact List.getElem?_eq_getElem hi
    rw [List.getElem?_take, if_pos hi, Array.getElem?_toList] at e2
    exact e2

end

/-- A list that is grown: the room of p is filled, or there is a new row. -/
def Grown (wi wr : World) (E : TypeId) (p : Pc) (m : Value) (xs : List Value) : Prop :=
  Turned wi wr p.spare ∧ p.n ≤ xs.length ∧ ((m = (⟨p.ao, xs.length, p.cap⟩ : Pc).val ∧ xs.length ≤ p.cap ∧ (⟨p.ao, xs.length, p.cap⟩ : Pc).Has wr xs) ∨ wr.ownsRow wi.heap.size E 1 m xs.length xs)

theorem Grown.start {w : World} {E : TypeId} {p : Pc} {xs : List Value} (h : p.Has w xs) (hl : Lies w E p) : Grown w w E p p.val xs := by
  obtain ⟨ao, n, cap⟩ := p
  have e : xs.length = n := h.1
  subst e
  exact ⟨Turned.refl _ _, Nat.le_refl _, .inl ⟨rfl, hl.le, h⟩⟩

theorem Pc.Has.kept {w w' : World} {p : Pc} {xs : List Value} (h : p.Has w xs) (hk : Kept w w' (fun _ => False)) : p.Has w' xs := by
  refine ⟨h.1, ?_⟩
  rcases h.2 with h0 | ⟨k, off, h1, h2⟩
  · exact .inl h0
  · exact .inr ⟨k, off, h1, fun i hi => hk.cell (h2 i hi) (fun h => h)⟩

theorem Grown.alloc {wi wr : World} {E : TypeId} {p : Pc} {m : Value} {xs : List Value} (h : Grown wi wr E p m xs) (o : Obj) : Grown wi (wr.alloc o) E p m xs := by
  have hk : Kept wr (wr.alloc o) (fun _ => False) := (Kept.refl wr _).alloc o
  refine ⟨h.1.new hk, h.2.1, ?_⟩
  rcases h.2.2 with ⟨h1, h2, h3⟩ | h
  · exact .inl ⟨h1, h2, h3.kept hk⟩
  · refine .inr ⟨h.1, ?_⟩
    rcases h.2 with h | ⟨g, cap, cur, e, h1, h2, h3⟩
    · exact .inl h
    · exact .inr ⟨g, cap, cur, e, h1, hk.heap h2 (fun h => h), h3⟩

end Go.Proofs.YtbdokdhconhifaaGreatDoor
