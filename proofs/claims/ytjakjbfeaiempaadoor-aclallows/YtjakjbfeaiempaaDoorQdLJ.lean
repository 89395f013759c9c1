/- What the document's Allows answers: as the program's does. -/
import Derived.Test.YtjakjbfeaiempaaDoorQdKJ
import Derived.Test.YtjakjbfeaiempaaDoorQcPJ
import Derived.Deep.RegionHeld
namespace Go.Proofs.YtjakjbfeaiempaaDoor
open Go.RowKit Go.Shelf
set_option maxRecDepth 8000

theorem gr_fold_test (who : List IdT) (s : Nat) : ∀ (l : List EnT) (a : Nat), (l.foldl (fun p x => if hit who x then p ||| x.1.toNat else p) a).testBit s = (a.testBit s || l.any fun x => hit who x && x.1.toNat.testBit s)
  | [], a => by simp
  | x :: t, a => by
    simp only [List.foldl_cons, List.any_cons]
    rw [gr_fold_test who s t]
    by_cases h : hit who x
    · rw [if_pos h, Nat.testBit_or, h, Bool.true_and, Bool.or_assoc]
    · rw [if_neg h, Bool.eq_false_iff.2 h, Bool.false_and, Bool.false_or]

theorem gr_test (who : List IdT) (l : List EnT) (s : Nat) : (grN who l).testBit s = l.any fun x => hit who x && x.1.toNat.testBit s := by
  unfold grN
  rw [gr_fold_test]
  simp

/-- An entry that may be is met by everybody just if its scheme is world. -/
theorem world_hit {x : EnT} (h : enOk x = true) : idEq (x.2.1, x.2.2) (worldB, anyB) = (x.2.1.toList == [119, 111, 114, 108, 100]) := by
  unfold idEq
  dsimp only
  have e1 : worldB.toList = [119, 111, 114, 108, 100] := Lib.toList_data worldB
  rw [e1]
  cases hs : (x.2.1.toList == [119, 111, 114, 108, 100])
  · rfl
  · unfold enOk at h
    rw [Bool.and_eq_true] at h
    have h2 := h.2
    unfold enD at h2
    rw [if_pos (show x.2.1.data.toList = sWorld by rw [← Lib.toList_data]; exact beq_iff_eq.1 hs), decide_eq_true_eq] at h2
    rw [Bool.true_and, beq_iff_eq, Lib.toList_data, Lib.toList_data, h2]
    rfl

theorem and_bits : ∀ (p : Fin 32) (s : Fin 5), (bits .and .i8 (p.1 : Int) ((2 ^ s.1 : Nat) : Int) == 0) = !p.1.testBit s.1 := by decide +kernel

/-- A bit's value and place. -/
theorem bit_range : ∀ k : Fin 5, 1 ≤ 2 ^ k.1 ∧ 2 ^ k.1 ≤ 16 := by decide

set_option maxHeartbeats 4000000 in
theorem refAllows_any (v u : Value) (l : List EnT) (p : Int) (who : List IdT) (w : World) (h : SE w v l) (g : SI w u who) (hn : l.length ≤ 2000000000) (hsz : ∀ x ∈ l, x.2.2.size ≤ 4294967296) (gsz : ∀ x ∈ who, x.2.size ≤ 4294967296) :
    Calls Tryd.prog 19 #[v, .int .i8 p, u] w fun e w' => e = .returned (.bool (alB l p who)) ∧ Below w.heap.size w w' := by
  have HF : Hid (Calls Tryd.prog 33 #[v] w fun e w' => e = .returned (.bool (fxLs l)) ∧ Below w.heap.size w w') := refFixed_any v l w h hsz hn
  have HCi : Hid (∀ V, Below w.heap.size w V → Calls Tryd.prog 11 #[u] V fun e w' => e = .returned (erV (idLs who)) ∧ Below w.heap.size w w') := fun V hV => (refCheckIds_any u who V (g.below hV) gsz).mono (fun e w' hh => ⟨hh.1, hV.trans (hh.2.mono hV.size)⟩)
  have HZ : Hid (∀ x ∈ l, x.2.2.size ≤ 4294967296) := hsz
  have HGZ : Hid (∀ x ∈ who, x.2.size ≤ 4294967296) := gsz
  obtain ⟨ao, cap, rfl, hlc, HC⟩ := SE_cells h
  obtain ⟨bo, cbp, rfl, glc, HD⟩ := SI_cells g
  clear h g hsz gsz
  obtain ⟨res, hres⟩ : ∃ res, res = alB l p who := ⟨_, rfl⟩
  rw [← hres]
  by_cases hbad : fxLs l = false ∨ idLs who = false ∨ p < 0 ∨ 31 < p
  · have hr : res = false := by
      rw [hres]
      unfold alB
      rcases hbad with h | h | h
      · rw [h]; rfl
      · rw [h]; simp
      · rw [decide_eq_false (by omega)]; simp
    subst hr
    clear hres HC HD
    cases hf : fxLs l
    · rw [hf] at HF
      clear hf hbad
      generalize idLs who = bi at HCi
      go_enter Tryd.func19, Tryd.ntmps19
      go_wp2_with fail
      go_at_call 33
      refine HF.out.mono ?_
      rintro e w1 ⟨rfl, hB⟩
      have H1 := HCi.out w1 hB
      clear hB
      go_wp2_with fail
      go_at_call 11
      refine H1.mono ?_
      rintro e w2 ⟨rfl, hB⟩
      have HB : Hid (Below w.heap.size w w2) := hB
      clear hB H1
      generalize (if bi = true then (0 : Int) else 60) = cb
      go_wp2
      go_ret
      exact ⟨rfl, HB.out⟩
    rw [hf] at HF hbad
    cases hi : idLs who
    · rw [hi] at HCi
      clear hf hi hbad
      go_enter Tryd.func19, Tryd.ntmps19
      go_wp2_with fail
      go_at_call 33
      refine HF.out.mono ?_
      rintro e w1 ⟨rfl, hB⟩
      have H1 := HCi.out w1 hB
      clear hB
      go_wp2_with fail
      go_at_call 11
      refine H1.mono ?_
      rintro e w2 ⟨rfl, hB⟩
      have HB : Hid (Below w.heap.size w w2) := hB
      clear hB H1
      go_wp2
      go_ret
      exact ⟨rfl, HB.out⟩
    rw [hi] at HCi hbad
    have hpp : p < 0 ∨ 31 < p := by simpa using hbad
    clear hf hi hbad
    by_cases hp0 : p < 0
    · have e0 : decide (p < 0) = true := by simp; omega
      clear hpp
      go_enter Tryd.func19, Tryd.ntmps19
      go_wp2_with fail
      go_at_call 33
      refine HF.out.mono ?_
      rintro e w1 ⟨rfl, hB⟩
      have H1 := HCi.out w1 hB
      clear hB
      go_wp2_with fail
      go_at_call 11
      refine H1.mono ?_
      rintro e w2 ⟨rfl, hB⟩
      have HB : Hid (Below w.heap.size w w2) := hB
      clear hB H1
      go_wp2
      go_ret
      exact ⟨rfl, HB.out⟩
    · have e0 : decide (p < 0) = false := by simp; omega
      have e1 : decide (31 < p) = true := by simp; omega
      clear hpp
      go_enter Tryd.func19, Tryd.ntmps19
      go_wp2_with fail
      go_at_call 33
      refine HF.out.mono ?_
      rintro e w1 ⟨rfl, hB⟩
      have H1 := HCi.out w1 hB
      clear hB
      go_wp2_with fail
      go_at_call 11
      refine H1.mono ?_
      rintro e w2 ⟨rfl, hB⟩
      have HB : Hid (Below w.heap.size w w2) := hB
      clear hB H1
      go_wp2
      go_ret
      exact ⟨rfl, HB.out⟩
  have hf : fxLs l = true := by
    cases h : fxLs l
    · exact absurd (.inl h) hbad
    · rfl
  have hi : idLs who = true := by
    cases h : idLs who
    · exact absurd (.inr (.inl h)) hbad
    · rfl
  obtain ⟨n, rfl, hn32⟩ : ∃ n : Nat, p = (n : Int) ∧ n < 32 := ⟨p.toNat, by omega, by omega⟩
  have e0 : decide ((n : Int) < 0) = false := by rw [decide_eq_false_iff_not]; omega
  have e1 : decide (31 < (n : Int)) = false := by simp; omega
  obtain ⟨hl4, hen, _⟩ := (enLs_iff l).1 ((fxLs_iff l).1 hf).1
  obtain ⟨hw4, _, _⟩ := (idLs_iff who).1 hi
  have HEn : Hid (∀ x ∈ l, enOk x = true) := hen
  have HRs : Hid (res = true ↔ sb n (grN who l)) := by
    show _ ↔ _
    rw [hres, alB_sb hf hn32]
    exact ⟨fun h => h.2, fun h => ⟨hi, h⟩⟩
  rw [hf] at HF
  rw [hi] at HCi
  clear hres hbad hf hi hen
  go_enter Tryd.func19, Tryd.ntmps19
  go_wp2_with fail
  go_at_call 33
  refine HF.out.mono ?_
  rintro e w1 ⟨rfl, hB⟩
  have H1 := HCi.out w1 hB
  clear hB
  go_wp2_with fail
  go_at_call 11
  refine H1.mono ?_
  rintro e w2 ⟨rfl, hB⟩
  have HB : Hid (Below w.heap.size w w2) := hB
  clear hB H1 HF HCi
  go_wp2
  go_loopw [9] (fun vb wr => ∃ (k : Nat) (B : Int), k ≤ 5 ∧ vb = .int .i8 B ∧ Hid (B = ((2 ^ k : Nat) : Int)) ∧ Hid (∀ s, s < k → n.testBit s = true → (grN who l).testBit s = true) ∧ Hid (Below w.heap.size w wr)) (fun vb _ => 32 - (intOf vb).toNat)
  case atStart => exact ⟨0, 1, by omega, rfl, rfl, fun s hs => by omega, HB.out⟩
  case round =>
    obtain ⟨k, B, hk, rfl, HBv, HSo, HB1⟩ := hrel
    obtain ⟨wo, hwo⟩ : ∃ wo, wo = wr := ⟨_, rfl⟩
    subst hwo
    by_cases hk5 : k < 5
    · have hB1 : 1 ≤ B := by have := (bit_range ⟨k, hk5⟩).1; have := HBv.out; dsimp only at *; omega
      have hB2 : B ≤ 16 := by have := (bit_range ⟨k, hk5⟩).2; have := HBv.out; dsimp only at *; omega
      have dB : decide (B < 32) = true := by simp; omega
      have hfd : (bits .and .i8 (n : Int) B == 0) = !n.testBit k := by rw [HBv.out]; exact and_bits ⟨n, hn32⟩ ⟨k, hk5⟩
      have HXB : Hid (∀ x ∈ l, (bits .and .i8 x.1 B != 0) = x.1.toNat.testBit k) := fun x hx => by
        have hx2 := enOk_perm (HEn.out x hx)
        rw [HBv.out, show x.1 = ((x.1.toNat : Nat) : Int) by omega]
        exact and_test ⟨x.1.toNat, by omega⟩ ⟨k, hk5⟩
      go_wp2
      go_loopw [10, 11] (fun vf vi wr => ∃ (i : Nat) (fb : Bool), i ≤ l.length ∧ vi = .int .i64 (i : Int) ∧ vf = .bool fb ∧ Hid (fb = true → n.testBit k = true → (grN who l).testBit k = true) ∧ Hid (fb = false → n.testBit k = true ∧ ∀ x ∈ l.take i, (hit who x && x.1.toNat.testBit k) = false) ∧ Hid (Below w.heap.size w wr)) (fun _ vi _ => l.length - (intOf vi).toNat)
      case atStart => exact ⟨0, !n.testBit k, Nat.zero_le _, rfl, rfl, fun a b => (by rw [b] at a; cases a), fun a => ⟨by simpa using a, fun x hx => by simp at hx⟩, HB1.out⟩
      case round =>
        obtain ⟨i, fb, hi, rfl, rfl, HT, HG, HB2⟩ := hrel
        obtain ⟨wm, hwm⟩ : ∃ wm, wm = wr := ⟨_, rfl⟩
        subst hwm
        by_cases hil : i < l.length ∧ fb = false
        · obtain ⟨hlt, hfb⟩ := hil
          subst hfb
          have HG2 : Hid (n.testBit k = true ∧ ∀ x ∈ l.take i, (hit who x && x.1.toNat.testBit k) = false) := HG.out rfl
          clear HT HG
          have d1 : decide ((i : Int) < (l.length : Int)) = true := by simp; omega
          obtain ⟨b, off, rfl, k0, k1, k2⟩ := HC.out i hlt
          have l0 := cell_below HB2.out k0
          have l1 := cell_below HB2.out k1
          have l2 := cell_below HB2.out k2
          obtain ⟨x, hx⟩ : ∃ x, x = l[i] := ⟨_, rfl⟩
          have HX : Hid (l[i]? = some x) := by show _ = _; rw [hx]; exact List.getElem?_eq_getElem hlt
          rw [← hx] at k0 k1 k2 l0 l1 l2
          clear hx
          have HZx : Hid (x.2.2.size ≤ 4294967296) := HZ.out x (List.mem_of_getElem? HX.out)
          have HHx : Hid (hit who x = ((x.2.1.toList == [119, 111, 114, 108, 100]) || who.any fun y => metD x.2.1.data.toList x.2.2.data.toList y.1.data.toList y.2.data.toList)) := by
            show _ = _
            unfold hit
            rw [world_hit (HEn.out x (List.mem_of_getElem? HX.out))]
          have hxb := HXB.out x (List.mem_of_getElem? HX.out)
          obtain ⟨wb, hwb⟩ : ∃ wb, wb = (x.2.1.toList == [119, 111, 114, 108, 100]) := ⟨_, rfl⟩
          rw [← hwb] at HHx
          go_wp2
          go_loopw [12, 13] (fun vm vj wr => ∃ (j : Nat) (mb : Bool), j ≤ who.length ∧ vj = .int .i64 (j : Int) ∧ vm = .bool mb ∧ Hid (mb = true → hit who x = true) ∧ Hid (mb = false → wb = false ∧ ∀ y ∈ who.take j, metD x.2.1.data.toList x.2.2.data.toList y.1.data.toList y.2.data.toList = false) ∧ Hid (Below w.heap.size w wr)) (fun _ vj _ => who.length - (intOf vj).toNat)
          case atStart => exact ⟨0, wb, Nat.zero_le _, rfl, by rw [hwb], fun a => by rw [HHx.out, a]; rfl, fun a => ⟨a, fun y hy => by simp at hy⟩, HB2.out⟩
          case round =>
            obtain ⟨j, mb, hj, rfl, rfl, HT3, HG3, HB3⟩ := hrel
            clear hwb
            by_cases hjw : j < who.length ∧ mb = false
            · obtain ⟨hjl, hmb⟩ := hjw
              subst hmb
              have HG4 : Hid (wb = false ∧ ∀ y ∈ who.take j, metD x.2.1.data.toList x.2.2.data.toList y.1.data.toList y.2.data.toList = false) := HG3.out rfl
              clear HT3 HG3
              have d2 : decide ((j : Int) < (who.length : Int)) = true := by simp; omega
              obtain ⟨b2, off2, rfl, j0, j1⟩ := HD.out j hjl
              obtain ⟨y, hy⟩ : ∃ y, y = who[j] := ⟨_, rfl⟩
              have HY : Hid (who[j]? = some y) := by show _ = _; rw [hy]; exact List.getElem?_eq_getElem hjl
              rw [← hy] at j0 j1
              clear hy HC HD
              have ia : (0 : Int) ≤ (i : Int) := by omega
              have ib : (i : Int) < (l.length : Int) := by omega
              have ja : (0 : Int) ≤ (j : Int) := by omega
              have jb : (j : Int) < (who.length : Int) := by omega
              go_wp2
              refine wp_region_held_drew (S := fun V' => V'.cell? ⟨b, off + i * 3 + 1, none⟩ = some (.string x.2.1) ∧ V'.cell? ⟨b, off + i * 3 + 2, none⟩ = some (.string x.2.2) ∧ V'.cell? ⟨b2, off2 + j * 2, none⟩ = some (.string y.1) ∧ V'.cell? ⟨b2, off2 + j * 2 + 1, none⟩ = some (.string y.2)) (by kernel_rfl) ?_ (fun hHeld => ?_)
              · exact ⟨cell_below (below_drewN HB3.out 1) k1, cell_below (below_drewN HB3.out 1) k2, cell_below (below_drewN HB3.out 1) j0, cell_below (below_drewN HB3.out 1) j1⟩
              refine wpAnyH_take (i := 0) (oi := { dst := some 67, op := Op.move (Operand.tmp 0), type := 22, pos := "ref.go:232", after := #[], guard := none }) (v := ?_) rfl (by kernel_rfl) (by kernel_rfl) (by kernel_rfl) (fun _ _ _ h => h) (Or.inl ⟨by rfl, ?_⟩) (by assumption) ?_
              rotate_left
              · (intro w hSw; (try dsimp only at hSw); go_simp) <;> with_reducible rfl
              try simp only [Act.put, List.setIfInBounds_toArray, List.set_cons_zero, List.set_cons_succ]
              refine wpAnyH_take (i := 1) (oi := { dst := some 68, op := Op.move (Operand.tmp 11), type := 3, pos := "ref.go:232", after := #[], guard := none }) (v := ?_) rfl (by kernel_rfl) (by kernel_rfl) (by kernel_rfl) (fun _ _ _ h => h) (Or.inl ⟨by rfl, ?_⟩) (by assumption) ?_
              rotate_left
              · (intro w hSw; (try dsimp only at hSw); go_simp) <;> with_reducible rfl
              try simp only [Act.put, List.setIfInBounds_toArray, List.set_cons_zero, List.set_cons_succ]
              refine wpAnyH_take (i := 2) (oi := { dst := some 69, op := Op.indexAddr 22 (Operand.tmp 67) (Operand.tmp 68), type := 0, pos := "ref.go:232", after := #[{ on := 0, ground := Ground.data }, { on := 1, ground := Ground.data }], guard := none }) (v := ?_) rfl (by kernel_rfl) (by kernel_rfl) (by kernel_rfl) (fun _ _ _ h => h) (Or.inl ⟨by rfl, ?_⟩) (by assumption) ?_
              rotate_left
              · (intro w hSw; (try dsimp only at hSw); go_simp) <;> with_reducible rfl
              try simp only [Act.put, List.setIfInBounds_toArray, List.set_cons_zero, List.set_cons_succ]
              refine wpAnyH_take (i := 3) (oi := { dst := some 70, op := Op.fieldAddr 39 (Operand.tmp 69) 1, type := 0, pos := "ref.go:232", after := #[{ on := 2, ground := Ground.data }], guard := none }) (v := ?_) rfl (by kernel_rfl) (by kernel_rfl) (by kernel_rfl) (fun _ _ _ h => h) (Or.inl ⟨by rfl, ?_⟩) (by assumption) ?_
              rotate_left
              · (intro w hSw; (try dsimp only at hSw); go_simp) <;> with_reducible rfl
              try simp only [Act.put, List.setIfInBounds_toArray, List.set_cons_zero, List.set_cons_succ]
              refine wpAnyH_take (i := 4) (oi := { dst := some 71, op := Op.load 37 (Operand.tmp 70), type := 37, pos := "ref.go:232", after := #[{ on := 3, ground := Ground.data }], guard := none }) (v := ?_) rfl (by kernel_rfl) (by kernel_rfl) (by kernel_rfl) (fun _ _ _ h => h) (Or.inl ⟨by rfl, ?_⟩) (by assumption) ?_
              rotate_left
              · (intro w hSw; (try dsimp only at hSw); go_simp) <;> with_reducible rfl
              try simp only [Act.put, List.setIfInBounds_toArray, List.set_cons_zero, List.set_cons_succ]
              refine wpAnyH_take (i := 5) (oi := { dst := some 72, op := Op.move (Operand.tmp 2), type := 23, pos := "ref.go:232", after := #[], guard := none }) (v := ?_) rfl (by kernel_rfl) (by kernel_rfl) (by kernel_rfl) (fun _ _ _ h => h) (Or.inl ⟨by rfl, ?_⟩) (by assumption) ?_
              rotate_left
              · (intro w hSw; (try dsimp only at hSw); go_simp) <;> with_reducible rfl
              try simp only [Act.put, List.setIfInBounds_toArray, List.set_cons_zero, List.set_cons_succ]
              refine wpAnyH_take (i := 6) (oi := { dst := some 73, op := Op.move (Operand.tmp 13), type := 3, pos := "ref.go:232", after := #[], guard := none }) (v := ?_) rfl (by kernel_rfl) (by kernel_rfl) (by kernel_rfl) (fun _ _ _ h => h) (Or.inl ⟨by rfl, ?_⟩) (by assumption) ?_
              rotate_left
              · (intro w hSw; (try dsimp only at hSw); go_simp) <;> with_reducible rfl
              try simp only [Act.put, List.setIfInBounds_toArray, List.set_cons_zero, List.set_cons_succ]
              refine wpAnyH_take (i := 7) (oi := { dst := some 74, op := Op.indexAddr 23 (Operand.tmp 72) (Operand.tmp 73), type := 0, pos := "ref.go:232", after := #[{ on := 5, ground := Ground.data }, { on := 6, ground := Ground.data }], guard := none }) (v := ?_) rfl (by kernel_rfl) (by kernel_rfl) (by kernel_rfl) (fun _ _ _ h => h) (Or.inl ⟨by rfl, ?_⟩) (by assumption) ?_
              rotate_left
              · (intro w hSw; (try dsimp only at hSw); go_simp) <;> with_reducible rfl
              try simp only [Act.put, List.setIfInBounds_toArray, List.set_cons_zero, List.set_cons_succ]
              refine wpAnyH_take (i := 8) (oi := { dst := some 75, op := Op.load 37 (Operand.tmp 74), type := 37, pos := "ref.go:232", after := #[{ on := 7, ground := Ground.data }], guard := none }) (v := ?_) rfl (by kernel_rfl) (by kernel_rfl) (by kernel_rfl) (fun _ _ _ h => h) (Or.inl ⟨by rfl, ?_⟩) (by assumption) ?_
              rotate_left
              · (intro w hSw; (try dsimp only at hSw); go_simp) <;> with_reducible rfl
              try simp only [Act.put, List.setIfInBounds_toArray, List.set_cons_zero, List.set_cons_succ]
              refine wpAnyH_ready (rs := [9]) (by kernel_rfl) (by simp) ?_
              refine AllReadyH.cons (o := { dst := some 76, op := Op.call { callee := Callee.value (Operand.func 34), args := #[Operand.tmp 71, Operand.tmp 75], argTypes := #[37, 37] }, type := 4, pos := "ref.go:232", after := #[{ on := 4, ground := Ground.data }, { on := 8, ground := Ground.data }], guard := none }) rfl (fun K hK => ?_) AllReadyH.nil
              go_simp
              refine (refMeets_any x.2.1 x.2.2 y.1 y.2 (HZx.out) (HGZ.out y (List.mem_of_getElem? HY.out)) _).mono ?_
              rintro e wc ⟨rfl, hb⟩
              have HB4 : Hid (Below w.heap.size w wc) := (below_drewN HB3.out 1).trans (hb.mono (below_drewN HB3.out 1).size)
              clear hHeld hb
              refine hK.out _ _ ⟨cell_below HB4.out k1, cell_below HB4.out k2, cell_below HB4.out j0, cell_below HB4.out j1⟩ (fun hHeld => ?_)
              clear hK K
              refine wpAnyH_take (i := 10) (oi := { dst := some 12, op := Op.assign (Operand.tmp 76), type := 4, pos := "ref.go:232", after := #[{ on := 9, ground := Ground.data }, { on := 9, ground := Ground.chain }, { on := 0, ground := Ground.phase }, { on := 1, ground := Ground.phase }, { on := 2, ground := Ground.phase }, { on := 3, ground := Ground.phase }, { on := 4, ground := Ground.phase }, { on := 5, ground := Ground.phase }, { on := 6, ground := Ground.phase }, { on := 7, ground := Ground.phase }, { on := 8, ground := Ground.phase }, { on := 9, ground := Ground.phase }], guard := none }) (v := ?_) rfl (by kernel_rfl) (by kernel_rfl) (by kernel_rfl) (fun _ _ _ h => h) (Or.inl ⟨by rfl, ?_⟩) (by assumption) ?_
              rotate_left
              · (intro w hSw; (try dsimp only at hSw); go_simp) <;> with_reducible rfl
              try simp only [Act.put, List.setIfInBounds_toArray, List.set_cons_zero, List.set_cons_succ]
              refine wpAnyH_done (by kernel_rfl) ?_ _
              go_wp2
              go_roundw
              case rel =>
                refine ⟨j + 1, metD x.2.1.data.toList x.2.2.data.toList y.1.data.toList y.2.data.toList, by omega, by go_num, rfl, fun a => ?_, fun a => ⟨HG4.out.1, fun z hz => ?_⟩, HB4.out⟩
                · rw [HHx.out, Bool.or_eq_true]
                  exact .inr (List.any_eq_true.2 ⟨y, List.mem_of_getElem? HY.out, a⟩)
                · rw [List.take_add_one, HY.out] at hz
                  rcases List.mem_append.1 hz with hz | hz
                  · exact HG4.out.2 z hz
                  · simp at hz; rw [hz]; exact a
              case measure => simp [intOf]; omega
            · have HM : Hid (hit who x = mb) := by
                show _ = _
                cases mb
                · have hje : j = who.length := by
                    have : ¬ j < who.length := fun h => hjw ⟨h, rfl⟩
                    omega
                  obtain ⟨a1, a2⟩ := HG3.out rfl
                  rw [hje, List.take_length] at a2
                  rw [HHx.out, a1, Bool.false_or, List.any_eq_false]
                  intro z hz
                  rw [a2 z hz]
                  decide
                · exact HT3.out rfl
              have n0 := cell_below HB3.out k0
              clear HT3 HG3
              have HR : Hid (∀ fb', fb' = (mb && x.1.toNat.testBit k) → (fb' = true → n.testBit k = true → (grN who l).testBit k = true) ∧ (fb' = false → n.testBit k = true ∧ ∀ z ∈ l.take (i + 1), (hit who z && z.1.toNat.testBit k) = false)) := fun fb' hfb' => by
                rw [← HM.out] at hfb'
                refine ⟨fun a _ => ?_, fun a => ⟨HG2.out.1, fun z hz => ?_⟩⟩
                · rw [gr_test]
                  exact List.any_eq_true.2 ⟨x, List.mem_of_getElem? HX.out, by rw [← hfb']; exact a⟩
                · rw [List.take_add_one, HX.out] at hz
                  rcases List.mem_append.1 hz with hz | hz
                  · exact HG2.out.2 z hz
                  · simp at hz; rw [hz, ← hfb']; exact a
              generalize x.1.toNat.testBit k = xb at *
              cases mb
              · by_cases hj2 : j < who.length
                · exact absurd ⟨hj2, rfl⟩ hjw
                have d2 : decide ((j : Int) < (who.length : Int)) = false := by simp; omega
                clear hjw HC HD
                go_wp2
                go_roundw
                case rel => exact ⟨i + 1, false, by omega, by go_num, rfl, (HR.out false rfl).1, (HR.out false rfl).2, HB3⟩
                case measure => simp [intOf]; omega
              · clear hjw HC HD
                by_cases hj2 : j < who.length
                · have d2 : decide ((j : Int) < (who.length : Int)) = true := by simp; omega
                  go_wp2
                  go_roundw
                  case rel => exact ⟨i + 1, xb, by omega, by go_num, rfl, (HR.out xb (by simp)).1, (HR.out xb (by simp)).2, HB3⟩
                  case measure => simp [intOf]; omega
                · have d2 : decide ((j : Int) < (who.length : Int)) = false := by simp; omega
                  go_wp2
                  go_roundw
                  case rel => exact ⟨i + 1, xb, by omega, by go_num, rfl, (HR.out xb (by simp)).1, (HR.out xb (by simp)).2, HB3⟩
                  case measure => simp [intOf]; omega
        · cases fb
          · have hie : i = l.length := by
              have : ¬ i < l.length := fun h => hil ⟨h, rfl⟩
              omega
            have d1 : decide ((i : Int) < (l.length : Int)) = false := by simp; omega
            have hr : res = false := by
              obtain ⟨a1, a2⟩ := HG.out rfl
              rw [hie, List.take_length] at a2
              rw [Bool.eq_false_iff]
              intro hres
              have h2 := HRs.out.1 hres ⟨k, hk5⟩ a1
              dsimp only at h2
              rw [gr_test] at h2
              obtain ⟨z, hz, hz2⟩ := List.any_eq_true.1 h2
              rw [a2 z hz] at hz2
              cases hz2
            subst hr
            clear hil HC HD HT HG HRs
            go_wp2
            go_ret
            exact ⟨rfl, HB2.out⟩
          · have HT2 : Hid (n.testBit k = true → (grN who l).testBit k = true) := HT.out rfl
            have HS2 : Hid (∀ s, s < k + 1 → n.testBit s = true → (grN who l).testBit s = true) := fun s hs hb => by
              by_cases hsk : s < k
              · exact HSo.out s hsk hb
              · obtain rfl : s = k := by omega
                exact HT2.out hb
            have HB3 : Hid (B * 2 = ((2 ^ (k + 1) : Nat) : Int)) := by show _ = _; rw [HBv.out, Nat.pow_succ]; omega
            clear hil HC HD HT HG HT2
            by_cases hil2 : i < l.length
            · have d1 : decide ((i : Int) < (l.length : Int)) = true := by simp; omega
              go_wp2
              go_roundw
              case rel => exact ⟨k + 1, B * 2, by omega, by go_num, HB3, HS2, HB2⟩
              case measure => simp [intOf]; omega
            · have d1 : decide ((i : Int) < (l.length : Int)) = false := by simp; omega
              go_wp2
              go_roundw
              case rel => exact ⟨k + 1, B * 2, by omega, by go_num, HB3, HS2, HB2⟩
              case measure => simp [intOf]; omega
    · have hBe : B = 32 := by rw [HBv.out, show k = 5 by omega]; rfl
      have dB : decide (B < 32) = false := by rw [decide_eq_false_iff_not]; omega
      have hr : res = true := HRs.out.2 (fun s hs => HSo.out s.1 (by omega) hs)
      subst hr
      clear HC HD HRs
      go_wp2
      go_ret
      exact ⟨rfl, HB1.out⟩

end Go.Proofs.YtjakjbfeaiempaaDoor
