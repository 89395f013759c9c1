/- lagoonref00's EqAcl of the same list, CopyAcl and CopyIds. -/
import Derived.Test.YtjakjbfeaiempaaDoorQcJ
import Derived.Test.YtjakjbfeaiempaaDoorQcQ
namespace Go.Proofs.YtjakjbfeaiempaaDoor
open Go.RowKit Go.Shelf
set_option maxRecDepth 8000

theorem neqEnG (p : Int) (a b : ByteArray) (w : World) : (binOp .neq 39 (.agg #[.int .i8 p, .string a, .string b]) (.agg #[.int .i8 p, .string a, .string b])).run Tryd.prog w = .ok (.bool false) w := by
  have hu : Tryd.prog.underlying 39 = some (.struct (Tryd.prog.fieldsOf 39)) := by kernel_rfl
  have hp : Tryd.prog.stoodInHeld 39 = false := by kernel_rfl
  have hin : ∀ w, (Op.equalIn 9999 37 (.agg #[.string a, .string b]) (.agg #[.string a, .string b])).run Tryd.prog w = .ok true w := fun w => by
    have := eqIdG 9997 a b a b w
    simpa using this
  have u4 := Tryd.underlying35
  have a4 := Tryd.isAgg35
  have z4 := Tryd.sizeOf35
  have a5 := Tryd.isAgg37
  have z5 := Tryd.sizeOf37
  rw [run_neq_struct, show (10000 : Nat) = 9999 + 1 from rfl, run_equalIn_agg w 9999 _ _ _ hu hp]
  simp only [Program.fieldsOf, Tryd.underlying39]
  clear hu hp
  go_simp

set_option maxHeartbeats 1000000 in
theorem eqAcl_se (v u : Value) (l : List EnT) (w : World) (h : SE w v l) (g : SE w u l) (hl : l.length ≤ 2000000000) :
    Calls Tryd.prog 12 #[v, u] w fun e w' => e = .returned (.bool true) ∧ ∃ n, w' = w.drewN n := by
  obtain ⟨ao, cap, rfl, hlc, HC⟩ := SE_cells h
  obtain ⟨bo, cbp, rfl, glc, HD⟩ := SE_cells g
  clear h g
  have hg : Tryd.prog.eqGuardType Tryd.prog.depth 39 = false := by kernel_rfl
  go_enter Tryd.func12, Tryd.ntmps12
  go_wp2
  go_loopw [5] (fun i wr => ∃ k m : Nat, k ≤ l.length ∧ i = .int .i64 k ∧ wr = w.drewN m) (fun i _ => l.length - (intOf i).toNat)
  case atStart => exact ⟨0, 0, Nat.zero_le _, rfl, rfl⟩
  case round =>
    obtain ⟨k, m, hk, rfl, rfl⟩ := hrel
    by_cases hlt : k < l.length
    · obtain ⟨b, off, rfl, c0, c1, c2⟩ := HC.out k hlt
      obtain ⟨b', off', rfl, e0, e1, e2⟩ := HD.out k hlt
      clear HC HD
      generalize l[k] = x at *
      have hq := neqEnG x.1 x.2.1 x.2.2
      go_wp2
      go_quiet (fail)
      go_wp2
      go_roundw
      case rel => exact ⟨k + 1, _, by omega, by go_num, rfl⟩
      case measure => simp [intOf]; omega
    · obtain rfl : k = l.length := by omega
      clear HC HD
      go_wp2
      go_ret
      exact ⟨rfl, m, rfl⟩

theorem neqIdG (a b : ByteArray) (w : World) : (binOp .neq 37 (.agg #[.string a, .string b]) (.agg #[.string a, .string b])).run Tryd.prog w = .ok (.bool false) w := by
  have hu : Tryd.prog.underlying 37 = some (.struct (Tryd.prog.fieldsOf 37)) := by kernel_rfl
  have hp : Tryd.prog.stoodInHeld 37 = false := by kernel_rfl
  have u3 := Tryd.underlying9
  have a3 := Tryd.isAgg9
  have z3 := Tryd.sizeOf9
  rw [run_neq_struct, show (10000 : Nat) = 9999 + 1 from rfl, run_equalIn_agg w 9999 _ _ _ hu hp]
  simp only [Program.fieldsOf, Tryd.underlying37]
  clear hu hp
  go_simp

set_option maxHeartbeats 1000000 in
theorem eqIds_se (v u : Value) (l : List IdT) (w : World) (h : SI w v l) (g : SI w u l) (hl : l.length ≤ 2000000000) :
    Calls Tryd.prog 14 #[v, u] w fun e w' => e = .returned (.bool true) ∧ ∃ n, w' = w.drewN n := by
  obtain ⟨ao, cap, rfl, hlc, HC⟩ := SI_cells h
  obtain ⟨bo, cbp, rfl, glc, HD⟩ := SI_cells g
  clear h g
  have hg : Tryd.prog.eqGuardType Tryd.prog.depth 37 = false := by kernel_rfl
  go_enter Tryd.func14, Tryd.ntmps14
  go_wp2
  go_loopw [5] (fun i wr => ∃ k m : Nat, k ≤ l.length ∧ i = .int .i64 k ∧ wr = w.drewN m) (fun i _ => l.length - (intOf i).toNat)
  case atStart => exact ⟨0, 0, Nat.zero_le _, rfl, rfl⟩
  case round =>
    obtain ⟨k, m, hk, rfl, rfl⟩ := hrel
    by_cases hlt : k < l.length
    · obtain ⟨b, off, rfl, c0, c1⟩ := HC.out k hlt
      obtain ⟨b', off', rfl, e0, e1⟩ := HD.out k hlt
      clear HC HD
      generalize l[k] = x at *
      have hq := neqIdG x.1 x.2
      go_wp2
      go_quiet (fail)
      go_wp2
      go_roundw
      case rel => exact ⟨k + 1, _, by omega, by go_num, rfl⟩
      case measure => simp [intOf]; omega
    · obtain rfl : k = l.length := by omega
      clear HC HD
      go_wp2
      go_ret
      exact ⟨rfl, m, rfl⟩

/-- One more id behind a list of one's own, of whatever length. -/
theorem app_idL {w : World} {base m : Nat} {v : Value} {l : List IdT} {x : IdT} (ty : TypeId) (ho : w.ownsRow base 37 2 v l.length (idFlat l)) (hm : w.heap[m]? = some (.cells (idCs x) 37 (0, 0))) (hl : l.length ≤ 2000000000) (hb : base ≤ w.heap.size) :
    ∃ v' w', (Builtin.append_ #[23, 23] ty #[v, .slice (some ⟨m, 0, none⟩) 1 1]).run Tryd.prog w = .ok v' w' ∧ w'.ownsRow base 37 2 v' (l ++ [x]).length (idFlat (l ++ [x])) ∧ w.grownBy w' v.ownBlock := by
  obtain ⟨i, hi, hz, hs, hby⟩ := info3 Tryd.infoIdP
  obtain ⟨v', w', h1, h2, h3, _⟩ := run_append_own (P := Tryd.prog) w base 23 ty 37 i _ 2 32 Tryd.underlying23 hi hz hs hby rfl (by decide) v l.length (idFlat l) ho ⟨m, 0, none⟩ 1 1 [.string x.1, .string x.2] rfl (fun j u hj => by
    rw [Addr.add_lit, Nat.zero_add, cell_of_row w m j _ _ _ hm, ← Array.getElem?_toList]
    exact hj) (by simp [Value.oneCell']) (by unfold maxLen; omega) (by omega) hb
  refine ⟨v', w', h1, ?_, h3⟩
  rw [List.length_append, idFlat_app]
  exact h2

end Go.Proofs.YtjakjbfeaiempaaDoor
