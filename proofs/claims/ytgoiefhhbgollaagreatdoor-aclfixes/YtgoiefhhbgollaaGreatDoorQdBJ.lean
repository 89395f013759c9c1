/- lagoonref00's EqAcl of the same list, CopyAcl and CopyIds. -/
import Derived.Test.YtgoiefhhbgollaaGreatDoorQcKJ
import Derived.Test.YtgoiefhhbgollaaGreatDoorQcQJ
namespace Go.Proofs.YtgoiefhhbgollaaGreatDoor
open Go.RowKit Go.Shelf
set_option maxRecDepth 8000

theorem neqEnG (p : Int) (a b : ByteArray) (w : World) : (binOp .neq 39 (.agg #[.int .i8 p, .string a, .string b]) (.agg #[.int .i8 p, .string a, .string b])).run Tryz.prog w = .ok (.bool false) w := by
  have hu : Tryz.prog.underlying 39 = some (.struct (Tryz.prog.fieldsOf 39)) := by kernel_rfl
  have hp : Tryz.prog.stoodInHeld 39 = false := by kernel_rfl
  have hin : ∀ w, (Op.equalIn 9999 37 (.agg #[.string a, .string b]) (.agg #[.string a, .string b])).run Tryz.prog w = .ok true w := fun w => by
    have := eqIdG 9997 a b a b w
    simpa using this
  have u4 := Tryz.underlying35
  have a4 := Tryz.isAgg35
  have z4 := Tryz.sizeOf35
  have a5 := Tryz.isAgg37
  have z5 := Tryz.sizeOf37
  rw [run_neq_struct, show (10000 : Nat) = 9999 + 1 from rfl, run_equalIn_agg w 9999 _ _ _ hu hp]
  simp only [Program.fieldsOf, Tryz.underlying39]
  clear hu hp
  go_simp

set_option maxHeartbeats 1000000 in
theorem eqAcl_se (v u : Value) (l : List EnT) (w : World) (h : SE w v l) (g : SE w u l) (hl : l.length ≤ 2000000000) :
    Calls Tryz.prog 10 #[v, u] w fun e w' => e = .returned (.bool true) ∧ ∃ n, w' = w.drewN n := by
  obtain ⟨ao, cap, rfl, hlc, HC⟩ := SE_cells h
  obtain ⟨bo, cbp, rfl, glc, HD⟩ := SE_cells g
  clear h g
  have hg : Tryz.prog.eqGuardType Tryz.prog.depth 39 = false := by kernel_rfl
  go_enter Tryz.func10, Tryz.ntmps10
  go_wp2
  go_loopw [5] (fun i wr => ∃ k m : Nat, k ≤ l.length ∧ i = .int .i64 k ∧ wr = w.drewN m) (fun i _ => l.length - (intOf i).toNat)
  case atStart => exact ⟨0, 0, Nat.zero_le _, rfl, rfl⟩
  case round =>
    obtain ⟨k, m, hk, rfl, rfl⟩ := hrel
    by_cases hlt : k < l.length
    · obtain ⟨b, off, rfl, c0, c1, c2⟩ := HC.out k hlt
      obtain ⟨b', off', rfl, e0, e1, e2⟩ := HD.out k hlt
      clear HC HD
      generalize l[k] = x at *
      have hq := neqEnG x.1 x.2.1 x.2.2
      go_wp2
      go_quiet (fail)
      go_wp2
      go_roundw
      case rel => exact ⟨k + 1, _, by omega, by go_num, rfl⟩
      case measure => simp [intOf]; omega
    · obtain rfl : k = l.length := by omega
      clear HC HD
      go_wp2
      go_ret
      exact ⟨rfl, m, rfl⟩

theorem neqIdG (a b : ByteArray) (w : World) : (binOp .neq 37 (.agg #[.string a, .string b]) (.agg #[.string a, .string b])).run Tryz.prog w = .ok (.bool false) w := by
  have hu : Tryz.prog.underlying 37 = some (.struct (Tryz.prog.fieldsOf 37)) := by kernel_rfl
  have hp : Tryz.prog.stoodInHeld 37 = false := by kernel_rfl
  have u3 := Tryz.underlying9
  have a3 := Tryz.isAgg9
  have z3 := Tryz.sizeOf9
  rw [run_neq_struct, show (10000 : Nat) = 9999 + 1 from rfl, run_equalIn_agg w 9999 _ _ _ hu hp]
  simp only [Program.fieldsOf, Tryz.underlying37]
  clear hu hp
  go_simp

set_option maxHeartbeats 1000000 in
theorem eqIds_se (v u : Value) (l : List IdT) (w : World) (h : SI w v l) (g : SI w u l) (hl : l.length ≤ 2000000000) :
    Calls Tryz.prog 12 #[v, u] w fun e w' => e = .returned (.bool true) ∧ ∃ n, w' = w.drewN n := by
  obtain ⟨ao, cap, rfl, hlc, HC⟩ := SI_cells h
  obtain ⟨bo, cbp, rfl, glc, HD⟩ := SI_cells g
  clear h g
  have hg : Tryz.prog.eqGuardType Tryz.prog.depth 37 = false := by kernel_rfl
  go_enter Tryz.func12, Tryz.ntmps12
  go_wp2
  go_loopw [5] (fun i wr => ∃ k m : Nat, k ≤ l.length ∧ i = .int .i64 k ∧ wr = w.drewN m) (fun i _ => l.length - (intOf i).toNat)
  case atStart => exact ⟨0, 0, Nat.zero_le _, rfl, rfl⟩
  case round =>
    obtain ⟨k, m, hk, rfl, rfl⟩ := hrel
    by_cases hlt : k < l.length
    · obtain ⟨b, off, rfl, c0, c1⟩ := HC.out k hlt
      obtain ⟨b', off', rfl, e0, e1⟩ := HD.out k hlt
      clear HC HD
      generalize l[k] = x at *
      have hq := neqIdG x.1 x.2
      go_wp2
      go_quiet (fail)
      go_wp2
      go_roundw
      case rel => exact ⟨k + 1, _, by omega, by go_num, rfl⟩
      case measure => simp [intOf]; omega
    · obtain rfl : k = l.length := by omega
      clear HC HD
      go_wp2
      go_ret
      exact ⟨rfl, m, rfl⟩

/-- One more id behind a list of one's own, of whatever length. -/
theorem app_idL {w : World} {base m : Nat} {v : Value} {l : List IdT} {x : IdT} (ty : TypeId) (ho : w.ownsRow base 37 2 v l.length (idFlat l)) (hm : w.heap[m]? = some (.cells (idCs x) 37 (0, 0))) (hl : l.length ≤ 2000000000) (hb : base ≤ w.heap.size) :
    ∃ v' w', (Builtin.append_ #[23, 23] ty #[v, .slice (some ⟨m, 0, none⟩) 1 1]).run Tryz.prog w = .ok v' w' ∧ w'.ownsRow base 37 2 v' (l ++ [x]).length (idFlat (l ++ [x])) ∧ w.grownBy w' v.ownBlock := by
  obtain ⟨i, hi, hz, hs, hby⟩ := info3 Tryz.infoIdP
  obtain ⟨v', w', h1, h2, h3, _⟩ := run_append_own (P := Tryz.prog) w base 23 ty 37 i _ 2 32 Tryz.underlying23 hi hz hs hby rfl (by decide) v l.length (idFlat l) ho ⟨m, 0, none⟩ 1 1 [.string x.1, .string x.2] rfl (fun j u hj => by
    rw [Addr.add_lit, Nat.zero_add, cell_of_row w m j _ _ _ hm, ← Array.getElem?_toList]
    exact hj) (by simp [Value.oneCell']) (by unfold maxLen; omega) (by omega) hb
  refine ⟨v', w', h1, ?_, h3⟩
  rw [List.length_append, idFlat_app]
  exact h2

set_option maxHeartbeats 2000000 in
theorem copyAcl_se (u : Value) (l : List EnT) (w : World) (g : SE w u l) (glen : l.length ≤ 1000) : Calls Tryz.prog 14 #[u] w fun e w' => ∃ v', e = .returned v' ∧ w'.ownsRow w.heap.size 39 3 v' l.length (enFlat l) ∧ Below w.heap.size w w' := by
  obtain ⟨ao, cap, rfl, hcap, HC⟩ := SE_cells g
  clear g
  go_enter Tryz.func14, Tryz.ntmps14
  go_wp2
  go_loopw [3, 4] (fun vs vi wr => ∃ i : Nat, i ≤ l.length ∧ vi = .int .i64 (i : Int) ∧ Hid (wr.ownsRow w.heap.size 39 3 vs (l.take i).length (enFlat (l.take i))) ∧ Hid (Below w.heap.size w wr)) (fun _ vi _ => l.length - (intOf vi).toNat)
  case atStart => exact ⟨0, by omega, rfl, World.ownsRow_nil w _ _ _, Below.refl _ _⟩
  case round =>
    obtain ⟨i, hi, rfl, HO, HW⟩ := hrel
    by_cases hlt : i < l.length
    · have hd : decide ((i : Int) < (l.length : Int)) = true := by simp; omega
      obtain ⟨b, off, rfl, k0, k1, k2⟩ := HC.out i hlt
      have l0 := cell_below HW.out k0
      have l1 := cell_below HW.out k1
      have l2 := cell_below HW.out k2
      obtain ⟨x, hx⟩ : ∃ x, x = l[i] := ⟨_, rfl⟩
      rw [← hx] at k0 k1 k2 l0 l1 l2
      have B1 : Below wr.heap.size wr (wr.alloc (.cells (enCs x) 39)) := (Below.refl _ _).alloc (Nat.le_refl _) _
      have hm : (wr.alloc (.cells (enCs x) 39)).heap[wr.heap.size]? = some (.cells (enCs x) 39 (0, 0)) := heap_alloc_new _ _
      have hBW1 : Below w.heap.size w (wr.alloc (.cells (enCs x) 39)) := HW.out.trans (B1.mono HW.out.size)
      obtain ⟨v', w', hr, ho, hg⟩ := app_en (x := x) 22 (owns_below HO.out B1) hm (by rw [List.length_take]; omega) hBW1.size
      have HN : Hid (w'.ownsRow w.heap.size 39 3 v' (l.take (i + 1)).length (enFlat (l.take (i + 1))) ∧ Below w.heap.size w w') := by
        rw [List.take_succ_eq_append_getElem hlt, ← hx]
        exact ⟨ho, grown_below hBW1 (owns_below HO.out B1) hg⟩
      clear hx k0 k1 k2 B1 hm hBW1 ho hg HO HC
      go_wp2_with (at_builtin; refine Lib.wpList_append_run_sl _ rfl _ _ 22 rfl _ _ rfl rfl hr ?_)
      go_roundw
      case rel => exact ⟨i + 1, by omega, by simp, HN.out.1, HN.out.2⟩
      case measure => simp [intOf]; omega
    · have hd : decide ((i : Int) < (l.length : Int)) = false := by simp; omega
      have HE : Hid (wr.ownsRow w.heap.size 39 3 u3 l.length (enFlat l)) := by
        have := HO.out
        rw [List.take_of_length_le (by omega)] at this
        exact this
      clear HO HC
      go_wp2
      all_goals (go_ret; exact ⟨u3, rfl, HE.out, HW.out⟩)

end Go.Proofs.YtgoiefhhbgollaaGreatDoor
